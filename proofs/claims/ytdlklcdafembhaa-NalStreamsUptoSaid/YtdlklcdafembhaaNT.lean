/- The walk of the law NalStarts. -/
import Derived.Test.YtdlklcdafembhaaNK
namespace Go.Proofs.Ytdlklcdafembhaa
open Go.RowKit Zn Zo

/-- The texts of an owned slice, one by one. -/
theorem OwnT.shape {w : World} {B : Nat} {v : Value} {l : List (List UInt8)} (h : OwnT w B v l) : ∃ a cap, v = .slice a l.length cap ∧ (0 < l.length → ∃ g, a = some ⟨g, 0, none⟩ ∧ B ≤ g ∧ g < w.heap.size ∧ ∀ i (hi : i < l.length), w.cell? ⟨g, i, none⟩ = some (.string ⟨l[i].toArray⟩)) := by
  rcases h.2 with ⟨rfl, h0⟩ | ⟨g, cap, cur, rfl, hb, hg, _, _, _, ht⟩
  · exact ⟨none, 0, by rw [h0], fun hp => by omega⟩
  · refine ⟨_, cap, rfl, fun _ => ⟨g, rfl, hb, row_lt hg, fun i hi => ?_⟩⟩
    rw [cell_of_row w g i _ _ _ hg]
    have h1 : (txts l)[i]? = some (.string ⟨l[i].toArray⟩) := by simp [txts, hi]
    rw [← ht, List.getElem?_take] at h1
    split at h1
    · simpa using h1
    · cases h1

/-- Split, its answer named. -/
theorem split_at (s : ByteArray) (w : World) (hm : ML w) (hs : s.size ≤ 100000000) {l : List (List UInt8)} {code : Int} (h : splAns s.data.toList = (l, code)) :
    Calls Try.prog 22 #[.string s] w fun e w' => (∃ a cap, e = .returned (.tuple #[.slice a l.length cap, .int .i64 code]) ∧ (0 < l.length → ∃ g, a = some ⟨g, 0, none⟩ ∧ w.heap.size ≤ g ∧ g < w'.heap.size ∧ ∀ i (hi : i < l.length), w'.cell? ⟨g, i, none⟩ = some (.string ⟨l[i].toArray⟩))) ∧ Below w.heap.size w w' := by
  refine (split_any s w hm hs).mono ?_
  rintro e w' ⟨v, rfl, h1, h2⟩
  rw [h] at h1 ⊢
  obtain ⟨a, cap, rfl, h3⟩ := h1.shape
  exact ⟨⟨a, cap, rfl, h3⟩, h2⟩

theorem sum_ge : ∀ l : List (List UInt8), l.length ≤ (l.map fun p => 3 + p.length).sum
  | [] => Nat.le_refl _
  | p :: l => by have := sum_ge l; simp only [List.length_cons, List.map_cons, List.sum_cons]; omega

theorem str_three (s : ByteArray) (h : 3 ≤ s.size) : s.data.toList = s[0] :: s[1] :: s[2] :: s.data.toList.drop 3 := by
  rw [← drop_cons s 2 (by omega), ← drop_cons s 1 (by omega), ← drop_cons s 0 (by omega), List.drop_zero]

theorem starts_cases (s : ByteArray) (h0 : 0 < s.size) :
    ((s.size < 3 ∨ ∃ h : 3 ≤ s.size, s[0].toNat ≠ 0 ∨ (s[0].toNat = 0 ∧ s[1].toNat ≠ 0) ∨ (s[0].toNat = 0 ∧ s[1].toNat = 0 ∧ s[2].toNat ≠ 1)) ∧ splAns s.data.toList = ([], 201)) ∨
    ∃ h : 3 ≤ s.size, s[0].toNat = 0 ∧ s[1].toNat = 0 ∧ s[2].toNat = 1 ∧ splAns s.data.toList = (sp (s.data.toList.drop 3), 0) := by
  by_cases h3 : 3 ≤ s.size
  · have e := str_three s h3
    have hb : Zn.start.isPrefixOf s.data.toList = (((0 : UInt8) == s[0]) && (((0 : UInt8) == s[1]) && ((1 : UInt8) == s[2]))) := by
      rw [e]; simp [Zn.start, List.isPrefixOf]
    have hs : splAns s.data.toList = if Zn.start.isPrefixOf s.data.toList then (sp (s.data.toList.drop 3), 0) else ([], 201) := by
      rw [e, splAns]; simp
    have b0 : ((0 : UInt8) == s[0]) = decide (s[0].toNat = 0) := by
      rw [Bool.eq_iff_iff, beq_iff_eq, decide_eq_true_iff, eq_comm]; exact byte_zero
    have b1 : ((0 : UInt8) == s[1]) = decide (s[1].toNat = 0) := by
      rw [Bool.eq_iff_iff, beq_iff_eq, decide_eq_true_iff, eq_comm]; exact byte_zero
    have b2 : ((1 : UInt8) == s[2]) = decide (s[2].toNat = 1) := by
      rw [Bool.eq_iff_iff, beq_iff_eq, decide_eq_true_iff, eq_comm, ← UInt8.toNat_inj]; rfl
    rw [b0, b1, b2] at hb
    by_cases c0 : s[0].toNat = 0
    · by_cases c1 : s[1].toNat = 0
      · by_cases c2 : s[2].toNat = 1
        · exact .inr ⟨h3, c0, c1, c2, by rw [hs, hb]; simp [c0, c1, c2]⟩
        · exact .inl ⟨.inr ⟨h3, .inr (.inr ⟨c0, c1, c2⟩)⟩, by rw [hs, hb]; simp [c2]⟩
      · exact .inl ⟨.inr ⟨h3, .inr (.inl ⟨c0, c1⟩)⟩, by rw [hs, hb]; simp [c1]⟩
    · exact .inl ⟨.inr ⟨h3, .inl c0⟩, by rw [hs, hb]; simp [c0]⟩
  · refine .inl ⟨.inl (by omega), ?_⟩
    have e := str_cons s h0
    have hn : Zn.start.isPrefixOf s.data.toList = false := by
      rw [Bool.eq_false_iff]
      intro h
      have := (List.isPrefixOf_iff_prefix.1 h).length_le
      simp [Zn.start] at this
      omega
    rw [e] at hn ⊢
    rw [splAns, if_neg (by rw [hn]; decide)]

theorem nalStarts_walk (s : ByteArray) (w : World) (hm : ML w) (hs : s.size ≤ 1048576) :
    Calls Try.prog 10 #[.string s] w fun e w' => e = .returned (.bool true) ∧ Below w.heap.size w w' := by
  obtain ⟨l, code, hl⟩ : ∃ l code, splAns s.data.toList = (l, code) := ⟨_, _, rfl⟩
  have HL := Lib.hid hl
  have HM := Lib.hid hm
  by_cases h0 : s.size = 0
  · obtain rfl : s = ⟨#[]⟩ := by
      apply ByteArray.ext
      exact Array.eq_empty_of_size_eq_zero h0
    obtain ⟨rfl, rfl⟩ : [] = l ∧ (0 : Int) = code := by
      have : splAns [] = (l, code) := hl
      rw [splAns] at this
      exact ⟨congrArg (·.1) this, congrArg (·.2) this⟩
    clear hl hm h0
    go_enter Try.func10, Try.ntmps10
    go_wp2_with fail
    refine (awake_any _ HM.out).mono ?_
    rintro e w1 ⟨rfl, b1⟩
    have B1 := Lib.hid b1
    have HM1 := Lib.hid (HM.out.below b1)
    clear b1
    go_wp2_with fail
    refine (split_at _ w1 HM1.out (by decide) HL.out).mono ?_
    rintro e w2 ⟨⟨a, cap, rfl, _⟩, b2⟩
    have B2 := Lib.hid (B1.out.trans (b2.mono B1.out.size))
    clear b2
    go_wp2_with (go_at_call 15; refine (num_any _ _).mono ?_; rintro e w' ⟨rfl, rfl⟩)
    go_ret
    exact ⟨rfl, B2.out⟩
  · have hne : s.toList.isEmpty = false := by
      rw [Lib.toList_data, str_cons s (by omega)]; rfl
    rcases starts_cases s (by omega) with ⟨hc, hA⟩ | ⟨h3, c0, c1, c2, hA⟩
    · obtain ⟨rfl, rfl⟩ : [] = l ∧ (201 : Int) = code := by
        rw [hA] at hl
        exact ⟨congrArg (·.1) hl, congrArg (·.2) hl⟩
      have hcc : (s.size : Int) < 3 ∨ ∃ h : 3 ≤ s.size, ((s[0].toNat : Int) == 0) = false ∨ (((s[0].toNat : Int) == 0) = true ∧ ((s[1].toNat : Int) == 0) = false) ∨ (((s[0].toNat : Int) == 0) = true ∧ ((s[1].toNat : Int) == 0) = true ∧ ((s[2].toNat : Int) == 1) = false) := by
        rcases hc with h | ⟨h, h1 | ⟨h1, h2⟩ | ⟨h1, h2, h4⟩⟩
        · exact .inl (by omega)
        · exact .inr ⟨h, .inl (by simp; omega)⟩
        · exact .inr ⟨h, .inr (.inl ⟨by simp [h1], by simp; omega⟩)⟩
        · exact .inr ⟨h, .inr (.inr ⟨by simp [h1], by simp [h2], by simp; omega⟩)⟩
      clear hc hA hl hm h0
      rcases hcc with h | ⟨h, h1 | ⟨h1, h2⟩ | ⟨h1, h2, h4⟩⟩
      all_goals
        go_enter Try.func10, Try.ntmps10
        go_wp2_with fail
        refine (awake_any _ HM.out).mono ?_
        rintro e w1 ⟨rfl, b1⟩
        have B1 := Lib.hid b1
        have HM1 := Lib.hid (HM.out.below b1)
        clear b1
        go_wp2_with fail
        refine (split_at _ w1 HM1.out (by omega) HL.out).mono ?_
        rintro e w2 ⟨⟨a, cap, rfl, _⟩, b2⟩
        have B2 := Lib.hid (B1.out.trans (b2.mono B1.out.size))
        clear b2
        go_wp2_with (go_at_call 15; refine (num_any _ _).mono ?_; rintro e w' ⟨rfl, rfl⟩)
        go_ret
        exact ⟨rfl, B2.out⟩
    · have t0 : ((s[0].toNat : Int) == 0) = true := by simp [c0]
      have t1 : ((s[1].toNat : Int) == 0) = true := by simp [c1]
      have t2 : ((s[2].toNat : Int) == 1) = true := by simp [c2]
      obtain ⟨hll, rfl⟩ : sp (s.data.toList.drop 3) = l ∧ (0 : Int) = code := by
        rw [hA] at hl
        exact ⟨congrArg (·.1) hl, congrArg (·.2) hl⟩
      have hsum : (l.map fun p => 3 + p.length).sum = s.size := by
        rw [← hll, sp_sum _ _ (Nat.le_refl _), List.length_drop, show s.data.toList.length = s.size from by simp]; omega
      have hlp : 0 < l.length := by
        have := sp_ne (s.data.toList.drop 3)
        rw [hll] at this
        cases l with
        | nil => exact absurd rfl this
        | cons => simp
      have hlen : l.length ≤ s.size := by have := sum_ge l; omega
      have HSUM := Lib.hid hsum
      clear hA hl hm hll c0 c1 c2 hsum
      go_enter Try.func10, Try.ntmps10
      go_wp2_with fail
      refine (awake_any _ HM.out).mono ?_
      rintro e w1 ⟨rfl, b1⟩
      have B1 := Lib.hid b1
      have HM1 := Lib.hid (HM.out.below b1)
      clear b1
      go_wp2_with fail
      refine (split_at _ w1 HM1.out (by omega) HL.out).mono ?_
      rintro e w2 ⟨⟨a, cap, rfl, hcells⟩, b2⟩
      obtain ⟨g, rfl, _, _, hcells⟩ := hcells hlp
      have B2 := Lib.hid (B1.out.trans (b2.mono B1.out.size))
      have HC := Lib.hid hcells
      clear b2 hcells
      go_wp2_with (go_at_call 15; refine (num_any _ _).mono ?_; rintro e w' ⟨rfl, rfl⟩)
      go_loopg [6, 7] l.length (fun q sv iv wr => ∃ k : Nat, k + q = l.length ∧ iv = .int .i64 ((k : Nat) : Int) ∧ sv = .int .i64 ((((l.take k).map fun p => 3 + p.length).sum : Nat) : Int) ∧ w2 = wr)
      case atStart => exact ⟨0, by omega, rfl, rfl, rfl⟩
      case round =>
        obtain ⟨k, hq, rfl, rfl, rfl⟩ := hrel
        obtain ⟨c, hc⟩ : ∃ c, ((l.take k).map fun p => 3 + p.length).sum = c := ⟨_, rfl⟩
        rw [hc]
        have hcs : c ≤ s.size := by
          rw [← hc, ← HSUM.out]
          conv => rhs; rw [← List.take_append_drop k l, List.map_append, List.sum_append]
          omega
        have HCC := Lib.hid hc
        clear hc
        by_cases hlt : k < l.length
        · have hk1 : (k + 1) + (gk - 1) = l.length := by omega
          have hcell := HC.out k hlt
          obtain ⟨p, hp⟩ : ∃ p, l[k] = p := ⟨_, rfl⟩
          rw [hp] at hcell
          have htk : ((l.take (k + 1)).map fun p => 3 + p.length).sum = c + (3 + p.length) := by
            rw [List.take_succ_eq_append_getElem hlt, List.map_append, List.sum_append, HCC.out, hp]; simp
          have hps : c + (3 + p.length) ≤ s.size := by
            rw [← htk, ← HSUM.out]
            conv => rhs; rw [← List.take_append_drop (k + 1) l, List.map_append, List.sum_append]
            omega
          have HTK := Lib.hid htk
          clear htk hp
          go_wp2_with fail
          go_roundg (gk - 1)
          case measure => omega
          case rel =>
            refine ⟨k + 1, hk1, by go_num, ?_, rfl⟩
            rw [HTK.out]
            congr 1
            simp
            omega
        · obtain rfl : k = l.length := by omega
          have hcc : c = s.size := by
            rw [← HCC.out, List.take_length, HSUM.out]
          have hci : (c : Int) = (s.size : Int) := by omega
          have HCI := Lib.hid hcc
          clear hcc
          go_wp2_with (go_at_call 15; refine (num_any _ _).mono ?_; rintro e w' ⟨rfl, rfl⟩)
          go_ret
          exact ⟨rfl, B2.out⟩

end Go.Proofs.Ytdlklcdafembhaa
