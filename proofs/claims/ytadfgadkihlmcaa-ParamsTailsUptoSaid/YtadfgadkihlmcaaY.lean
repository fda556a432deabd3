/- The document's own Reader of bits, further calls. -/
import Derived.Test.YtadfgadkihlmcaaX
namespace Go.Proofs.Ytadfgadkihlmcaa
open Go.RowKit Zo

theorem rdUe_code (f : Nat → Bool) (T p : Nat) (most : Int) : (rdUe f T p most).2.1 = 0 ∨ (rdUe f T p most).1 = 0 ∧ (rdUe f T p most).2.2 = p ∧ ((rdUe f T p most).2.1 = 100 ∨ (rdUe f T p most).2.1 = 101) := by
  unfold rdUe
  split
  · exact .inr ⟨rfl, rfl, .inr rfl⟩
  · split
    · exact .inr ⟨rfl, rfl, .inl rfl⟩
    · split
      · exact .inr ⟨rfl, rfl, .inr rfl⟩
      · exact .inl rfl

theorem refSe_any (w : World) (base b : Nat) (l : List Bool) (p : Nat) (h : RRd w base b l p) (hl : l.length ≤ 1000000000) :
    Calls Try.prog 72 #[.pointer (some ⟨b, 0, none⟩)] w fun e w' =>
      e = .returned (.tuple #[.int .i64 (unfoldedZ (rdUe (fl l) l.length p 2147483646).1), .int .i64 (rdUe (fl l) l.length p 2147483646).2.1]) ∧ RRPost w base b l (rdUe (fl l) l.length p 2147483646).2.2 w' := by
  have hm := rdUe_most (fl l) l.length p 2147483646 (by omega)
  have hc := rdUe_code (fl l) l.length p 2147483646
  have hcall := refUe_any w base b l p h hl
  generalize rdUe (fl l) l.length p 2147483646 = res at *
  obtain ⟨x, c, q⟩ := res
  simp only at hm hc hcall ⊢
  have HC := Lib.hid hcall
  clear hcall
  rcases hc with hc | ⟨hx, hq, hc⟩
  · subst hc
    by_cases h1 : x % 2 = 1
    · have hb : (((x : Int) % 2) == 1) = true := by simp; omega
      have H := Lib.hid h1
      clear h1
      go_enter Try.func72, Try.ntmps72
      go_wp2_with fail
      refine HC.out.mono ?_
      rintro e w1 ⟨rfl, p1⟩
      go_wp2_with fail
      go_ret2
      exact ⟨ret2 (by rw [unfoldedZ, if_pos H.out]; omega) rfl, p1⟩
    · have hb : (((x : Int) % 2) == 1) = false := by simp; omega
      have H := Lib.hid h1
      clear h1
      go_enter Try.func72, Try.ntmps72
      go_wp2_with fail
      refine HC.out.mono ?_
      rintro e w1 ⟨rfl, p1⟩
      go_wp2_with fail
      go_ret2
      refine ⟨ret2 ?_ rfl, p1⟩
      rw [unfoldedZ, if_neg H.out]
      omega
  · subst hx
    have hcb : (c != 0) = true := by simp; omega
    go_enter Try.func72, Try.ntmps72
    go_wp2_with fail
    refine HC.out.mono ?_
    rintro e w1 ⟨rfl, p1⟩
    go_wp2_with fail
    go_ret2
    exact ⟨rfl, p1⟩

theorem rdUe_cut (f : Nat → Bool) (T p : Nat) (most : Int) :
    rdUe f T p most = if (rdUe f T p 2147483646).2.1 = 0 ∧ most < ((rdUe f T p 2147483646).1 : Int) then (0, 101, p) else rdUe f T p 2147483646 := by
  unfold rdUe
  by_cases h1 : 30 < lead f p 32 ∧ 30 < T - p
  · rw [if_pos h1, if_pos h1]; rfl
  · rw [if_neg h1, if_neg h1]
    by_cases h2 : T - p < 2 * lead f p 32 + 1
    · rw [if_pos h2, if_pos h2]; rfl
    · rw [if_neg h2, if_neg h2]
      have hv := val_lt (win f (p + lead f p 32) (lead f p 32 + 1))
      rw [win_length] at hv
      have h3 : 2 ^ (lead f p 32 + 1) ≤ 2 ^ 31 := Nat.pow_le_pow_right (by omega) (by omega)
      have h31 : (2 : Nat) ^ 31 = 2147483648 := by decide
      rw [if_neg (c := (2147483646 : Int) < _) (by omega)]
      simp only [true_and]

/-- The last 1 at or behind place i, of the bits below j; -1, if there is none. -/
def lastOne (f : Nat → Bool) (i : Nat) : Nat → Int
  | 0 => -1
  | n + 1 => if f (i + n) then ((i + n : Nat) : Int) else lastOne f i n

theorem lastOne_past (f : Nat → Bool) (T p q n : Nat) (hq : IsPast f T q) (hn : p + n = T) : lastOne f p n = if p < q then ((q - 1 : Nat) : Int) else -1 := by
  obtain ⟨h1, h2, h3⟩ := hq
  have key : ∀ k, k ≤ n → q ≤ p + k → lastOne f p k = if p < q then ((q - 1 : Nat) : Int) else -1 := by
    intro k
    induction k with
    | zero => intro _ hk; rw [if_neg (by omega)]; rfl
    | succ k ih =>
      intro hk hqk
      rw [lastOne]
      by_cases hq1 : q = p + k + 1
      · have := h3 (by omega)
        rw [show q - 1 = p + k from by omega] at this
        rw [if_pos this, if_pos (by omega), hq1]
        rfl
      · rw [h2 (p + k) (by omega), if_neg (by simp), ih (by omega) (by omega)]
  exact key n (Nat.le_refl _) (by omega)

end Go.Proofs.Ytadfgadkihlmcaa
