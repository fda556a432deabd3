/- The document's own Reader of bits, call by call. -/
import Derived.Test.YtadfgadkihlmcaaT
import Derived.Test.YtadfgadkihlmcaaO
namespace Go.Proofs.Ytadfgadkihlmcaa
open Go.RowKit Zo

/-- Bits as a function of the place. -/
def fl (l : List Bool) (i : Nat) : Bool := l.getD i false

/-- Block b is the document's Reader of the bits l, at place p. -/
def RRd (w : World) (base b : Nat) (l : List Bool) (p : Nat) : Prop :=
  ∃ g cap, w.heap[b]? = some (.cells #[.slice (some ⟨g, 0, none⟩) l.length cap, .int .i64 (p : Int)] 98 (0,0)) ∧ base ≤ b ∧ OwnBits w base (.slice (some ⟨g, 0, none⟩) l.length cap) l ∧ p ≤ l.length

def RRPost (w : World) (base b : Nat) (l : List Bool) (p : Nat) (w' : World) : Prop := RRd w' base b l p ∧ Fr (fun k => k = b) w w'

theorem RRd.move {w : World} {base b : Nat} {l : List Bool} {p : Nat} (h : RRd w base b l p) (q : Nat) (hq : q ≤ l.length) : RRPost w base b l q (w.setCell ⟨b, 1, none⟩ (.int .i64 (q : Int))) := by
  obtain ⟨g, cap, hr, hb, ho, _⟩ := h
  exact ⟨⟨g, cap, (heap_setCell_row hr 1 _).trans (by simp), hb, ownsRow_setCell ho (ownsRow_ne ho hr (by decide)) 1 _, hq⟩, Fr.setCell (S := fun k => k = b) (Fr.refl _ _) (fun _ => rfl) _⟩

theorem RRPost.drewN {w w' : World} {base b : Nat} {l : List Bool} {p : Nat} (h : RRPost w base b l p w') (n : Nat) : RRPost w base b l p (w'.drewN n) := ⟨h.1, Fr.drewN h.2 n⟩

theorem RRPost.refl {w : World} {base b : Nat} {l : List Bool} {p : Nat} (h : RRd w base b l p) (n : Nat) : RRPost w base b l p (w.drewN n) := ⟨h, Fr.drewN (Fr.refl _ _) n⟩

theorem RRPost.chain {w w1 w2 : World} {base b : Nat} {l : List Bool} {p : Nat} (f1 : Fr (fun k => k = b) w w1) (h : RRPost w1 base b l p w2) : RRPost w base b l p w2 :=
  ⟨h.1, f1.trans h.2 (fun _ _ h => h)⟩

/-- Its cells. -/
theorem RRd.cells {w : World} {base b : Nat} {l : List Bool} {p : Nat} (h : RRd w base b l p) : ∃ g cap, w.cell? ⟨b, 0, none⟩ = some (.slice (some ⟨g, 0, none⟩) l.length cap) ∧ w.cell? ⟨b, 1, none⟩ = some (.int .i64 (p : Int)) ∧ w.frozen? ⟨b, 1, none⟩ = false ∧ p ≤ l.length ∧
    (∀ i, i < l.length → w.cell? ⟨g, i, none⟩ = some (.int .u8 ((fl l i).toNat : Int))) := by
  obtain ⟨g, cap, hr, hb, ho, hp⟩ := h
  have c0 := cell_of_row w b 0 _ _ _ hr
  have c1 := cell_of_row w b 1 _ _ _ hr
  simp at c0 c1
  refine ⟨g, cap, c0, c1, free_row hr 1, hp, fun i hi => ?_⟩
  obtain ⟨g2, cap2, hv2, _, _, hc⟩ := ho.cell i hi
  simp only [Value.slice.injEq, Option.some.injEq, Addr.mk.injEq] at hv2
  obtain ⟨⟨rfl, _⟩, _⟩ := hv2
  rw [hc, fl, List.getD_eq_getElem?_getD, List.getElem?_eq_getElem hi]
  rfl

theorem win_snoc_val (f : Nat → Bool) (p i : Nat) : val (win f p (i + 1)) = 2 * val (win f p i) + (f (p + i)).toNat := by
  rw [win_succ, val_append, val_single]; simp; omega

theorem refBits_any (w : World) (base b : Nat) (l : List Bool) (p : Nat) (n : Int) (h : RRd w base b l p) (hl : l.length ≤ 1000000000) :
    Calls Try.prog 76 #[.pointer (some ⟨b, 0, none⟩), .int .i64 n] w fun e w' =>
      e = .returned (.tuple #[.int .i64 ((rdBits (fl l) l.length p n).1 : Int), .int .i64 (rdBits (fl l) l.length p n).2.1]) ∧ RRPost w base b l (rdBits (fl l) l.length p n).2.2 w' := by
  obtain ⟨g, cap, c0, c1, f1, hp, hcell⟩ := h.cells
  by_cases hbad : n < 0 ∨ 32 < n
  · rw [rdBits, if_pos hbad]
    rcases hbad with h0 | h0
    · go_enter Try.func76, Try.ntmps76
      go_wp2
      go_ret2
      exact ⟨rfl, .refl h 0⟩
    · go_enter Try.func76, Try.ntmps76
      go_wp2
      go_ret2
      exact ⟨rfl, .refl h 0⟩
  · obtain ⟨m, rfl⟩ := Int.eq_ofNat_of_zero_le (show 0 ≤ n by omega)
    by_cases hend : l.length - p < m
    · rw [rdBits, if_neg (by omega), if_pos (by omega)]
      have hm32 : m ≤ 32 := by omega
      have hend' : (l.length : Int) - p < m := by omega
      clear hbad hcell
      go_enter Try.func76, Try.ntmps76
      go_wp2
      go_quiet (fail)
      go_wp2
      go_ret2
      exact ⟨rfl, .refl h _⟩
    · rw [rdBits, if_neg (by omega), if_neg (by omega), Int.toNat_natCast]
      have hm32 : m ≤ 32 := by omega
      have hend' : ¬ (l.length : Int) - p < m := by omega
      have HC := Lib.hid hcell
      clear hbad hcell
      go_enter Try.func76, Try.ntmps76
      go_wp2
      go_quiet (fail)
      go_wp2
      go_loopg [6, 7] m (fun q x i wr => ∃ j k : Nat, j + q = m ∧ x = .int .i64 (val (win (fl l) p j) : Nat) ∧ i = .int .i64 (j : Int) ∧ wr = w.drewN k)
      case atStart => exact ⟨0, _, by omega, rfl, rfl, rfl⟩
      case round =>
        obtain ⟨j, k, hq, rfl, rfl, rfl⟩ := hrel
        by_cases hj : j < m
        · have hc := HC.out (p + j) (by omega)
          have hv := val_win_lt (fl l) p j (by omega)
          have HS := Lib.hid (win_snoc_val (fl l) p j)
          have hb : (fl l (p + j)).toNat ≤ 1 := by cases fl l (p + j) <;> simp
          have hpl : (p : Int) + j < l.length := by omega
          generalize (fl l (p + j)).toNat = bit at *
          generalize val (win (fl l) p j) = X at *
          go_wp2
          go_quiet (fail)
          go_wp2
          go_roundg (gk - 1)
          case measure => omega
          case rel => exact ⟨j + 1, _, by omega, by rw [HS.out]; go_num, by go_num, rfl⟩
        · obtain rfl : j = m := by omega
          go_wp2
          go_ret2
          exact ⟨rfl, .chain (RRPost.refl h k).2 ((RRPost.refl h k).1.move (p + j) (by omega))⟩

theorem lead_ge (f : Nat → Bool) (p n j : Nat) (hj : j ≤ n) (h : ∀ i, i < j → f (p + i) = false) : j ≤ lead f p n := by
  by_cases hc : lead f p n < j
  · have h1 := lead_one f p n (by omega)
    rw [h _ hc] at h1; cases h1
  · omega

theorem refUe_any (w : World) (base b : Nat) (l : List Bool) (p : Nat) (h : RRd w base b l p) (hl : l.length ≤ 1000000000) :
    Calls Try.prog 71 #[.pointer (some ⟨b, 0, none⟩)] w fun e w' =>
      e = .returned (.tuple #[.int .i64 ((rdUe (fl l) l.length p 2147483646).1 : Int), .int .i64 (rdUe (fl l) l.length p 2147483646).2.1]) ∧ RRPost w base b l (rdUe (fl l) l.length p 2147483646).2.2 w' := by
  obtain ⟨g, cap, c0, c1, f1, hp, hcell⟩ := h.cells
  have HC := Lib.hid hcell
  clear hcell
  go_enter Try.func71, Try.ntmps71
  go_wp2_with fail
  go_loopg [4] 31 (fun q i wr => ∃ j k : Nat, j + q = 31 ∧ 1 ≤ q ∧ p + j ≤ l.length ∧ i = .int .i64 (j : Int) ∧ Aside (∀ i, i < j → fl l (p + i) = false) ∧ wr = w.drewN k)
  case atStart => exact ⟨0, 0, by omega, by omega, hp, rfl, fun i hi => by omega, rfl⟩
  case round =>
    obtain ⟨j, k, hq, hq1, hpj, rfl, A, rfl⟩ := hrel
    have hA := lead_ge (fl l) p 32 j (by omega) A.out
    by_cases hend : p + j < l.length
    · have hc := HC.out (p + j) hend
      have hpl : (p : Int) + j < l.length := by omega
      have hpl2 : ¬ (l.length : Int) ≤ (p : Int) + j := by omega
      cases hbit : fl l (p + j) with
      | true =>
        rw [hbit, Bool.toNat_true] at hc
        have hL := lead_eq (fl l) p 32 j (by omega) hbit A.out
        have HL := Lib.hid hL
        clear hL hbit hA
        go_wp2_with fail
        go_quiet (fail)
        go_wp2_with fail
        go_quiet (fail)
        have hnd : ((2 * (j : Int) + 1 > (l.length : Int) - p) ↔ (l.length - p < 2 * j + 1)) := by omega
        by_cases h2 : l.length - p < 2 * j + 1
        · have h2' : (l.length : Int) - p < 2 * j + 1 := by omega
          clear hnd
          go_wp2_with fail
          go_quiet (fail)
          go_wp2_with fail
          go_ret2
          have hr : rdUe (fl l) l.length p 2147483646 = (0, 100, p) := by
            rw [rdUe, HL.out, if_neg (by omega), if_pos h2]
          rw [hr]
          exact ⟨rfl, (((RRPost.refl h _).drewN _).drewN _).drewN _⟩
        · have h2' : ¬ (l.length : Int) - p < 2 * j + 1 := by omega
          have hw1 : val (win (fl l) (p + j) (j + 1)) ≤ 2147483647 := by
            have h1 := val_lt (win (fl l) (p + j) (j + 1))
            rw [win_length] at h1
            have h3 : 2 ^ (j + 1) ≤ 2 ^ 31 := Nat.pow_le_pow_right (by omega) (by omega)
            omega
          have hw0 : 1 ≤ val (win (fl l) (p + j) (j + 1)) := by
            have h1 := lead_one (fl l) p 32 (by rw [HL.out]; omega)
            rw [HL.out] at h1
            rw [win_cons, h1, val_cons, win_length]
            have := Nat.two_pow_pos j
            simp; omega
          have hr : rdUe (fl l) l.length p 2147483646 = (val (win (fl l) (p + j) (j + 1)) - 1, 0, p + (2 * j + 1)) := by
            rw [rdUe, HL.out, if_neg (by omega), if_neg h2, if_neg (by omega)]
          have hb : rdBits (fl l) l.length (p + j) ((j : Int) + 1) = (val (win (fl l) (p + j) (j + 1)), 0, p + (2 * j + 1)) := by
            rw [rdBits, if_neg (by omega), if_neg (by omega), show ((j : Int) + 1).toNat = j + 1 from by omega, show p + j + (j + 1) = p + (2 * j + 1) from by omega]
          have HR := Lib.hid hr
          have HB := Lib.hid hb
          generalize val (win (fl l) (p + j) (j + 1)) = X at *
          clear hnd hr hb
          go_wp2_with fail
          go_quiet (fail)
          go_wp2_with fail
          refine (refBits_any _ base b l (p + j) _ ((RRPost.refl h _).1.move (p + j) hpj).1 hl).mono ?_
          rw [HB.out]
          rintro e w2 ⟨rfl, p2⟩
          go_wp2_with fail
          go_ret2
          rw [HR.out]
          exact ⟨ret2 (by simp only; omega) rfl, .chain (RRPost.refl h _).2 (.chain ((RRPost.refl h _).1.move (p + j) hpj).2 p2)⟩
      | false =>
        rw [hbit, Bool.toNat_false] at hc
        have hA2 : ∀ i, i < j + 1 → fl l (p + i) = false := by
          intro i hi
          by_cases hij : i = j
          · rw [hij]; exact hbit
          · exact A.out i (by omega)
        have H2 := Lib.hid hA2
        have hL2 := lead_ge (fl l) p 32 (j + 1) (by omega) hA2
        clear hA2 hbit hA
        by_cases hj : j = 30
        · subst hj
          go_wp2_with fail
          go_quiet (fail)
          go_wp2_with fail
          go_quiet (fail)
          go_wp2_with fail
          go_ret2
          have hr : rdUe (fl l) l.length p 2147483646 = (0, 101, p) := by rw [rdUe, if_pos (by omega)]
          rw [hr]
          exact ⟨rfl, .refl h _⟩
        · have hj' : (j : Int) + 1 ≤ 30 := by omega
          go_wp2_with fail
          go_quiet (fail)
          go_wp2_with fail
          go_quiet (fail)
          go_wp2_with fail
          go_roundg (gk - 1)
          case measure => omega
          case rel => exact ⟨j + 1, _, by omega, by omega, by omega, by go_num, H2.out, rfl⟩
    · have hpl : (l.length : Int) ≤ (p : Int) + j := by omega
      have hr : rdUe (fl l) l.length p 2147483646 = (0, 100, p) := by rw [rdUe, if_neg (by omega), if_pos (by omega)]
      have HR := Lib.hid hr
      clear hr
      go_wp2_with fail
      go_quiet (fail)
      go_wp2_with fail
      go_ret2
      rw [HR.out]
      exact ⟨rfl, (RRPost.refl h _).drewN _⟩
end Go.Proofs.Ytadfgadkihlmcaa
