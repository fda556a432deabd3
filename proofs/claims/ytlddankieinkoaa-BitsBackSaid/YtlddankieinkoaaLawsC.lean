/- The walk of the law BitsStays. -/
import Derived.Test.YtlddankieinkoaaLawsB
namespace Go.Proofs.Ytlddankieinkoaa
open Go.RowKit Zo

theorem rdUe_stays (f : Nat → Bool) (T p : Nat) (most : Int) : (rdUe f T p most).2.1 = 0 ∨ (rdUe f T p most).2.2 = p := by
  unfold rdUe
  split
  · exact .inr rfl
  · split
    · exact .inr rfl
    · split
      · exact .inr rfl
      · exact .inl rfl

theorem rdUe_le (f : Nat → Bool) (T p : Nat) (most : Int) (hp : p ≤ T) : (rdUe f T p most).2.2 ≤ T := by
  unfold rdUe
  split
  · exact hp
  · split
    · exact hp
    · split
      · exact hp
      · simp only; omega

theorem bitsStays_walk (s : ByteArray) (at' : Int) (hs : s.size ≤ 140737488351232) (_ : (Lit.int .i64 at').wf = true) (w : World) :
    Calls Try.prog 9 #[.string s, .int .i64 at'] w fun e w' => e = .returned (.bool true) ∧ Below w.heap.size w w' := by
  have hs2 : s.size ≤ 140737488355328 := by omega
  by_cases h0 : s.size = 0
  · have hR : rdBits (bitAt s) (8 * s.size) 0 1 = (0, 100, 0) := by rw [rdBits, if_neg (by omega), if_pos (by omega)]
    have R := Lib.hid hR
    clear hR
    have hst := rdUe_stays (bitAt s) (8 * s.size) 0 2147483646
    go_enter Try.func9, Try.ntmps9
    go_wp2_with fail
    refine (awake_any _ _ (Nat.le_refl _)).mono ?_
    rintro e w1 ⟨rfl, b1⟩
    have z1 := b1.size
    go_wp2_with fail
    refine (open_e s z1 hs2).mono ?_
    rintro e w2 ⟨b, rfl, h2, b2, _⟩
    replace b1 := b1.trans b2
    go_wp2_with fail
    go_loopg [7] 0 (fun q i wr => i = .int .i64 0 ∧ Rd wr w.heap.size b s 0 ∧ Below w.heap.size w wr)
    case atStart => exact ⟨rfl, h2, b1⟩
    case round =>
      clear h2 b1 b2
      obtain ⟨rfl, hr, bl⟩ := hrel
      go_wp2_with fail
      refine (at_e hr).mono ?_
      rintro e w3 ⟨rfl, h3, b3, _⟩
      replace bl := bl.trans b3
      clear hr b3
      go_wp2_with fail
      refine (rBits_e _ h3 hs2).mono ?_
      rw [R.out]
      rintro e w4 ⟨rfl, h4, b4, _⟩
      replace bl := bl.trans b4
      go_wp2_with (go_at_call 12; refine (num_any _ _).mono ?_; rintro e w' ⟨rfl, rfl⟩)
      refine (at_e h4).mono ?_
      rintro e w5 ⟨rfl, h5, b5, _⟩
      replace bl := bl.trans b5
      go_wp2_with fail
      refine (rUe_e h5 hs2).mono ?_
      generalize rdUe (bitAt s) (8 * s.size) 0 2147483646 = res at hst
      obtain ⟨rv, rc, rp⟩ := res
      rintro e w6 ⟨rfl, h6, b6, _⟩
      replace bl := bl.trans b6
      simp only at hst h6
      by_cases hc : rc = 0
      · subst hc
        go_wp2_with (go_at_call 12; refine (num_any _ _).mono ?_; rintro e w' ⟨rfl, rfl⟩)
        go_ret
        exact ⟨rfl, bl⟩
      · obtain rfl : rp = 0 := by rcases hst with h | h; exact absurd h hc; exact h
        have hcb : (rc == 0) = false := by simpa using hc
        clear hc hst
        go_wp2_with (go_at_call 12; refine (num_any _ _).mono ?_; rintro e w' ⟨rfl, rfl⟩)
        refine (at_e h6).mono ?_
        rintro e w7 ⟨rfl, h7, b7, _⟩
        go_wp2_with fail
        go_ret
        exact ⟨rfl, bl.trans b7⟩
  · have hw0 : 0 ≤ IntKind.u64.wrap at' := by rw [IntKind.wrap_u64]; omega
    have hm0 := Int.emod_nonneg (IntKind.u64.wrap at') (show (8 * (s.size : Int)) ≠ 0 by omega)
    have hm1 := Int.emod_lt_of_pos (IntKind.u64.wrap at') (show 0 < (8 * (s.size : Int)) by omega)
    obtain ⟨k, hk⟩ := Int.eq_ofNat_of_zero_le hm0
    rw [hk] at hm1
    have hk2 : k < 8 * s.size := by omega
    clear hm0 hm1
    have hpos : 0 < s.size := by omega
    clear h0
    go_enter Try.func9, Try.ntmps9
    go_wp2_with fail
    refine (awake_any _ _ (Nat.le_refl _)).mono ?_
    rintro e w1 ⟨rfl, b1⟩
    have z1 := b1.size
    go_wp2_with fail
    refine (open_e s z1 hs2).mono ?_
    rintro e w2 ⟨b, rfl, h2, b2, _⟩
    replace b1 := b1.trans b2
    go_wp2_with fail
    simp only [hk]
    clear hk
    go_loopg [7] k (fun q i wr => ∃ j : Nat, j + q = k ∧ i = .int .i64 (j : Int) ∧ Rd wr w.heap.size b s j ∧ Below w.heap.size w wr)
    case atStart => exact ⟨0, by omega, rfl, h2, b1⟩
    case round =>
      clear h2 b1 b2
      obtain ⟨j, hj, rfl, hr, bl⟩ := hrel
      by_cases hlt : j < k
      · have hR : rdBits (bitAt s) (8 * s.size) j 1 = (val (win (bitAt s) j 1), 0, j + 1) := by
          rw [rdBits, if_neg (by omega), if_neg (by omega)]; rfl
        have R := Lib.hid hR
        clear hR
        go_wp2_with fail
        refine (rBits_e 1 hr hs2).mono ?_
        rw [R.out]
        rintro e w3 ⟨rfl, h3, b3, _⟩
        go_wp2_with fail
        go_roundg (gk - 1)
        case measure => omega
        case rel => exact ⟨j + 1, by omega, by go_num, h3, bl.trans b3⟩
      · obtain rfl : j = k := by omega
        clear hlt hj
        go_wp2_with fail
        refine (at_e hr).mono ?_
        rintro e w3 ⟨rfl, h3, b3, _⟩
        replace bl := bl.trans b3
        clear hr b3
        have hst := rdUe_stays (bitAt s) (8 * s.size) j 2147483646
        by_cases hl : 8 * s.size - j < 32
        · have hR : rdBits (bitAt s) (8 * s.size) j (8 * (s.size : Int) - j + 1) = (0, 100, j) := by
            rw [rdBits, if_neg (by omega), if_pos (by omega)]
          have R := Lib.hid hR
          clear hR
          have hl' : 8 * (s.size : Int) - j < 32 := by omega
          go_wp2_with fail
          refine (rBits_e _ h3 hs2).mono ?_
          rw [R.out]
          rintro e w4 ⟨rfl, h4, b4, _⟩
          replace bl := bl.trans b4
          go_wp2_with (go_at_call 12; refine (num_any _ _).mono ?_; rintro e w' ⟨rfl, rfl⟩)
          refine (at_e h4).mono ?_
          rintro e w5 ⟨rfl, h5, b5, _⟩
          replace bl := bl.trans b5
          go_wp2_with fail
          refine (rUe_e h5 hs2).mono ?_
          generalize rdUe (bitAt s) (8 * s.size) j 2147483646 = res at hst
          obtain ⟨rv, rc, rp⟩ := res
          rintro e w6 ⟨rfl, h6, b6, _⟩
          replace bl := bl.trans b6
          simp only at hst h6
          by_cases hc : rc = 0
          · subst hc
            go_wp2_with (go_at_call 12; refine (num_any _ _).mono ?_; rintro e w' ⟨rfl, rfl⟩)
            go_ret
            exact ⟨rfl, bl⟩
          · obtain rfl : rp = j := by rcases hst with h | h; exact absurd h hc; exact h
            have hcb : (rc == 0) = false := by simpa using hc
            clear hc hst
            go_wp2_with (go_at_call 12; refine (num_any _ _).mono ?_; rintro e w' ⟨rfl, rfl⟩)
            refine (at_e h6).mono ?_
            rintro e w7 ⟨rfl, h7, b7, _⟩
            go_wp2_with fail
            go_ret
            exact ⟨rfl, bl.trans b7⟩
        · have hl' : ¬ 8 * (s.size : Int) - j < 32 := by omega
          have h5 := h3
          go_wp2_with fail
          refine (rUe_e h5 hs2).mono ?_
          generalize rdUe (bitAt s) (8 * s.size) j 2147483646 = res at hst
          obtain ⟨rv, rc, rp⟩ := res
          rintro e w6 ⟨rfl, h6, b6, _⟩
          replace bl := bl.trans b6
          simp only at hst h6
          by_cases hc : rc = 0
          · subst hc
            go_wp2_with (go_at_call 12; refine (num_any _ _).mono ?_; rintro e w' ⟨rfl, rfl⟩)
            go_ret
            exact ⟨rfl, bl⟩
          · obtain rfl : rp = j := by rcases hst with h | h; exact absurd h hc; exact h
            have hcb : (rc == 0) = false := by simpa using hc
            clear hc hst
            go_wp2_with (go_at_call 12; refine (num_any _ _).mono ?_; rintro e w' ⟨rfl, rfl⟩)
            refine (at_e h6).mono ?_
            rintro e w7 ⟨rfl, h7, b7, _⟩
            go_wp2_with fail
            go_ret
            exact ⟨rfl, bl.trans b7⟩
end Go.Proofs.Ytlddankieinkoaa
