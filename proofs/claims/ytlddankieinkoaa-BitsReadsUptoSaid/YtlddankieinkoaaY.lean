/- The document's own Reader of bits, further calls. -/
import Derived.Test.YtlddankieinkoaaX
namespace Go.Proofs.Ytlddankieinkoaa
open Go.RowKit Zo

theorem rdUe_code (f : Nat → Bool) (T p : Nat) (most : Int) : (rdUe f T p most).2.1 = 0 ∨ (rdUe f T p most).1 = 0 ∧ (rdUe f T p most).2.2 = p ∧ ((rdUe f T p most).2.1 = 100 ∨ (rdUe f T p most).2.1 = 101) := by
  unfold rdUe
  split
  · exact .inr ⟨rfl, rfl, .inr rfl⟩
  · split
    · exact .inr ⟨rfl, rfl, .inl rfl⟩
    · split
      · exact .inr ⟨rfl, rfl, .inr rfl⟩
      · exact .inl rfl

theorem refSe_any (w : World) (base b : Nat) (l : List Bool) (p : Nat) (h : RRd w base b l p) (hl : l.length ≤ 1000000000) :
    Calls Try.prog 33 #[.pointer (some ⟨b, 0, none⟩)] w fun e w' =>
      e = .returned (.tuple #[.int .i64 (unfoldedZ (rdUe (fl l) l.length p 2147483646).1), .int .i64 (rdUe (fl l) l.length p 2147483646).2.1]) ∧ RRPost w base b l (rdUe (fl l) l.length p 2147483646).2.2 w' := by
  have hm := rdUe_most (fl l) l.length p 2147483646 (by omega)
  have hc := rdUe_code (fl l) l.length p 2147483646
  have hcall := refUe_any w base b l p h hl
  generalize rdUe (fl l) l.length p 2147483646 = res at *
  obtain ⟨x, c, q⟩ := res
  simp only at hm hc hcall ⊢
  have HC := Lib.hid hcall
  clear hcall
  rcases hc with hc | ⟨hx, hq, hc⟩
  · subst hc
    by_cases h1 : x % 2 = 1
    · have hb : (((x : Int) % 2) == 1) = true := by simp; omega
      have H := Lib.hid h1
      clear h1
      go_enter Try.func33, Try.ntmps33
      go_wp2_with fail
      refine HC.out.mono ?_
      rintro e w1 ⟨rfl, p1⟩
      go_wp2_with fail
      go_ret2
      exact ⟨ret2 (by rw [unfoldedZ, if_pos H.out]; omega) rfl, p1⟩
    · have hb : (((x : Int) % 2) == 1) = false := by simp; omega
      have H := Lib.hid h1
      clear h1
      go_enter Try.func33, Try.ntmps33
      go_wp2_with fail
      refine HC.out.mono ?_
      rintro e w1 ⟨rfl, p1⟩
      go_wp2_with fail
      go_ret2
      refine ⟨ret2 ?_ rfl, p1⟩
      rw [unfoldedZ, if_neg H.out]
      omega
  · subst hx
    have hcb : (c != 0) = true := by simp; omega
    go_enter Try.func33, Try.ntmps33
    go_wp2_with fail
    refine HC.out.mono ?_
    rintro e w1 ⟨rfl, p1⟩
    go_wp2_with fail
    go_ret2
    exact ⟨rfl, p1⟩

theorem rdUe_cut (f : Nat → Bool) (T p : Nat) (most : Int) :
    rdUe f T p most = if (rdUe f T p 2147483646).2.1 = 0 ∧ most < ((rdUe f T p 2147483646).1 : Int) then (0, 101, p) else rdUe f T p 2147483646 := by
  unfold rdUe
  by_cases h1 : 30 < lead f p 32 ∧ 30 < T - p
  · rw [if_pos h1, if_pos h1]; rfl
  · rw [if_neg h1, if_neg h1]
    by_cases h2 : T - p < 2 * lead f p 32 + 1
    · rw [if_pos h2, if_pos h2]; rfl
    · rw [if_neg h2, if_neg h2]
      have hv := val_lt (win f (p + lead f p 32) (lead f p 32 + 1))
      rw [win_length] at hv
      have h3 : 2 ^ (lead f p 32 + 1) ≤ 2 ^ 31 := Nat.pow_le_pow_right (by omega) (by omega)
      have h31 : (2 : Nat) ^ 31 = 2147483648 := by decide
      rw [if_neg (c := (2147483646 : Int) < _) (by omega)]
      simp only [true_and]

theorem refTe_any (w : World) (base b : Nat) (l : List Bool) (p : Nat) (most : Int) (h : RRd w base b l p) (hl : l.length ≤ 1000000000) :
    Calls Try.prog 35 #[.pointer (some ⟨b, 0, none⟩), .int .i64 most] w fun e w' =>
      e = .returned (.tuple #[.int .i64 ((rdTe (fl l) l.length p most).1 : Int), .int .i64 (rdTe (fl l) l.length p most).2.1]) ∧ RRPost w base b l (rdTe (fl l) l.length p most).2.2 w' := by
  by_cases h0 : most < 1
  · rw [rdTe, if_pos h0]
    go_enter Try.func35, Try.ntmps35
    go_wp2_with fail
    go_ret2
    exact ⟨rfl, .refl h 0⟩
  · rw [rdTe, if_neg h0]
    by_cases h1 : most = 1
    · subst h1
      rw [if_pos rfl]
      have hp : p ≤ l.length := by obtain ⟨_, _, _, _, _, hp⟩ := h; exact hp
      by_cases hl1 : l.length - p < 1
      · have hrd : rdBits (fl l) l.length p 1 = (0, 100, p) := by rw [rdBits, if_neg (by omega), if_pos (by omega)]
        have R := Lib.hid hrd
        clear hrd
        rw [if_pos hl1]
        go_enter Try.func35, Try.ntmps35
        go_wp2_with fail
        refine (refBits_any _ base b l p 1 h hl).mono ?_
        rw [R.out]
        rintro e w2 ⟨rfl, p2⟩
        go_wp2_with fail
        go_ret2
        exact ⟨rfl, p2⟩
      · have hrd : rdBits (fl l) l.length p 1 = ((fl l p).toNat, 0, p + 1) := by
          rw [rdBits, if_neg (by omega), if_neg (by omega)]
          show (val (win (fl l) p 1), _, _) = _
          rw [show win (fl l) p 1 = [fl l p] from rfl, val_single]
          rfl
        have R := Lib.hid hrd
        clear hrd
        rw [if_neg hl1]
        have hb : (fl l p).toNat ≤ 1 := by cases fl l p <;> simp
        generalize (fl l p).toNat = v at *
        go_enter Try.func35, Try.ntmps35
        go_wp2_with fail
        refine (refBits_any _ base b l p 1 h hl).mono ?_
        rw [R.out]
        rintro e w2 ⟨rfl, p2⟩
        go_wp2_with fail
        go_ret2
        exact ⟨ret2 (by omega) rfl, p2⟩
    · rw [if_neg h1]
      have h2 : 1 < most := by omega
      have hres := rdUe_cut (fl l) l.length p most
      have hc := rdUe_code (fl l) l.length p 2147483646
      have hm := rdUe_most (fl l) l.length p 2147483646 (by omega)
      have hp : p ≤ l.length := by obtain ⟨_, _, _, _, _, hp⟩ := h; exact hp
      obtain ⟨g, cap, c0, c1, f1, _, _⟩ := h.cells
      have hcall := refUe_any w base b l p h hl
      rw [hres]
      generalize rdUe (fl l) l.length p 2147483646 = res at *
      obtain ⟨x, c, q⟩ := res
      simp only at hc hcall hm ⊢
      have HC := Lib.hid hcall
      clear hcall hres
      rcases hc with hc | ⟨hx, hq, hc⟩
      · subst hc
        by_cases hxm : most < (x : Int)
        · rw [if_pos ⟨rfl, by omega⟩]
          go_enter Try.func35, Try.ntmps35
          go_wp2_with fail
          refine HC.out.mono ?_
          rintro e w1 ⟨rfl, p1⟩
          obtain ⟨g', cap', d0, d1, e1, _, _⟩ := p1.1.cells
          go_wp2_with fail
          go_ret2
          exact ⟨rfl, .chain p1.2 (p1.1.move p hp)⟩
        · rw [if_neg (by omega)]
          go_enter Try.func35, Try.ntmps35
          go_wp2_with fail
          refine HC.out.mono ?_
          rintro e w1 ⟨rfl, p1⟩
          go_wp2_with fail
          go_ret2
          exact ⟨rfl, p1⟩
      · subst hx
        subst hq
        rw [if_neg (by omega)]
        have hcb : (c == 0) = false := by simp; omega
        go_enter Try.func35, Try.ntmps35
        go_wp2_with fail
        refine HC.out.mono ?_
        rintro e w1 ⟨rfl, p1⟩
        go_wp2_with fail
        go_ret2
        exact ⟨rfl, p1⟩

/-- The last 1 at or behind place i, of the bits below j; -1, if there is none. -/
def lastOne (f : Nat → Bool) (i : Nat) : Nat → Int
  | 0 => -1
  | n + 1 => if f (i + n) then ((i + n : Nat) : Int) else lastOne f i n

theorem lastOne_past (f : Nat → Bool) (T p q n : Nat) (hq : IsPast f T q) (hn : p + n = T) : lastOne f p n = if p < q then ((q - 1 : Nat) : Int) else -1 := by
  obtain ⟨h1, h2, h3⟩ := hq
  have key : ∀ k, k ≤ n → q ≤ p + k → lastOne f p k = if p < q then ((q - 1 : Nat) : Int) else -1 := by
    intro k
    induction k with
    | zero => intro _ hk; rw [if_neg (by omega)]; rfl
    | succ k ih =>
      intro hk hqk
      rw [lastOne]
      by_cases hq1 : q = p + k + 1
      · have := h3 (by omega)
        rw [show q - 1 = p + k from by omega] at this
        rw [if_pos this, if_pos (by omega), hq1]
        rfl
      · rw [h2 (p + k) (by omega), if_neg (by simp), ih (by omega) (by omega)]
  exact key n (Nat.le_refl _) (by omega)

theorem refMore_any (w : World) (base b : Nat) (l : List Bool) (p q : Nat) (h : RRd w base b l p) (hq : IsPast (fl l) l.length q) (hl : l.length ≤ 1000000000) :
    Calls Try.prog 37 #[.pointer (some ⟨b, 0, none⟩)] w fun e w' => e = .returned (.bool (decide (p + 1 < q))) ∧ RRPost w base b l p w' := by
  obtain ⟨g, cap, c0, c1, f1, hp, hcell⟩ := h.cells
  have HC := Lib.hid hcell
  clear hcell
  go_enter Try.func37, Try.ntmps37
  go_wp2
  go_loopg [3, 4] (l.length - p) (fun r x i wr => ∃ n : Nat, n + r = l.length - p ∧ x = .int .i64 (lastOne (fl l) p n) ∧ i = .int .i64 ((p + n : Nat) : Int) ∧ wr = w)
  case atStart => exact ⟨0, by omega, rfl, rfl, rfl⟩
  case round =>
    obtain ⟨n, hn, rfl, rfl, rfl⟩ := hrel
    by_cases hlt : p + n < l.length
    · have hc := HC.out (p + n) hlt
      cases hbit : fl l (p + n) with
      | true =>
        rw [hbit, Bool.toNat_true] at hc
        have HL := Lib.hid (show lastOne (fl l) p (n + 1) = ((p + n : Nat) : Int) by rw [lastOne, if_pos hbit])
        clear hbit
        generalize lastOne (fl l) p n = z at *
        generalize hm : p + n = m at *
        go_wp2
        go_roundg (gk - 1)
        case measure => omega
        case rel => exact ⟨n + 1, by omega, by rw [HL.out], by rw [← hm]; go_num, rfl⟩
      | false =>
        rw [hbit, Bool.toNat_false] at hc
        have HL := Lib.hid (show lastOne (fl l) p (n + 1) = lastOne (fl l) p n by rw [lastOne, if_neg (by simp [hbit])])
        clear hbit
        generalize lastOne (fl l) p n = z at *
        generalize hm : p + n = m at *
        go_wp2
        go_roundg (gk - 1)
        case measure => omega
        case rel => exact ⟨n + 1, by omega, by rw [HL.out], by rw [← hm]; go_num, rfl⟩
    · have hT : p + n = l.length := by omega
      have hlo := lastOne_past (fl l) l.length p q n hq hT
      have HL := Lib.hid hlo
      clear hlo
      generalize lastOne (fl l) p n = z at *
      go_wp2
      go_ret
      refine ⟨ret_bool ?_, h, Fr.refl _ _⟩
      rw [HL.out, decide_eq_decide]
      split <;> omega
end Go.Proofs.Ytlddankieinkoaa
