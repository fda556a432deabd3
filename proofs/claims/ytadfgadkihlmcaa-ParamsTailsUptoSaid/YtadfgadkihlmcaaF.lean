/- The bits' Reader, its exported calls. -/
import Derived.Test.YtadfgadkihlmcaaE
namespace Go.Proofs.Ytadfgadkihlmcaa
open Go.RowKit Zo

theorem rdBits_le (f : Nat → Bool) (T p : Nat) (n : Int) (hp : p ≤ T) : (rdBits f T p n).2.2 ≤ T := by
  unfold rdBits; split
  · exact hp
  · split
    · exact hp
    · show p + n.toNat ≤ T; omega

theorem rBits_any (w : World) (base b : Nat) (s : ByteArray) (p : Nat) (n : Int) (h : Rd w base b s p) (hs : s.size ≤ 140737488355328) :
    Calls Try.prog 75 #[.pointer (some ⟨b, 0, none⟩), .int .i64 n] w fun e w' =>
      e = .returned (.tuple #[.int .i64 ((rdBits (bitAt s) (8 * s.size) p n).1 : Int), .int .i64 (rdBits (bitAt s) (8 * s.size) p n).2.1]) ∧ RPost w base b s (rdBits (bitAt s) (8 * s.size) p n).2.2 w' := by
  by_cases hbad : n < 0 ∨ 32 < n
  · rw [rdBits, if_pos hbad]
    rcases hbad with h0 | h1
    · go_enter Try.func75, Try.ntmps75
      go_wp2_with fail
      refine (count_rd _ base b s p h).mono ?_
      rintro e w1 ⟨rfl, p1⟩
      go_wp2_with fail
      go_ret2
      exact ⟨rfl, p1⟩
    · go_enter Try.func75, Try.ntmps75
      go_wp2_with fail
      refine (count_rd _ base b s p h).mono ?_
      rintro e w1 ⟨rfl, p1⟩
      go_wp2_with fail
      go_ret2
      exact ⟨rfl, p1⟩
  · have h0 : 0 ≤ n := by omega
    have h1 : n ≤ 32 := by omega
    go_enter Try.func75, Try.ntmps75
    go_wp2_with fail
    refine (count_rd _ base b s p h).mono ?_
    rintro e w1 ⟨rfl, p1⟩
    go_wp2_with fail
    refine (take_any _ base b s p n p1.1 hs h0 h1).mono ?_
    rintro e w2 ⟨rfl, p2⟩
    go_wp2_with fail
    go_ret2
    exact ⟨rfl, .chain p1.2 p2⟩

theorem rUe_any (w : World) (base b : Nat) (s : ByteArray) (p : Nat) (h : Rd w base b s p) (hs : s.size ≤ 140737488355328) :
    Calls Try.prog 65 #[.pointer (some ⟨b, 0, none⟩)] w fun e w' =>
      e = .returned (.tuple #[.int .i64 ((rdUe (bitAt s) (8 * s.size) p 2147483646).1 : Int), .int .i64 (rdUe (bitAt s) (8 * s.size) p 2147483646).2.1]) ∧ RPost w base b s (rdUe (bitAt s) (8 * s.size) p 2147483646).2.2 w' := by
  go_enter Try.func65, Try.ntmps65
  go_wp2_with fail
  refine (count_rd _ base b s p h).mono ?_
  rintro e w1 ⟨rfl, p1⟩
  go_wp2_with fail
  refine (takeUe_any _ base b s p _ p1.1 hs).mono ?_
  rintro e w2 ⟨rfl, p2⟩
  go_wp2_with fail
  go_ret2
  exact ⟨rfl, .chain p1.2 p2⟩

theorem rdUe_most (f : Nat → Bool) (T p : Nat) (most : Int) (hm : 0 ≤ most) : ((rdUe f T p most).1 : Int) ≤ most := by
  unfold rdUe
  split
  · exact hm
  · split
    · exact hm
    · split
      · exact hm
      · simp only; omega

theorem unfolded_any (w : World) (x : Nat) (hx : x ≤ 2147483646) :
    Calls Try.prog 81 #[.int .i64 (x : Int)] w fun e w' => e = .returned (.int .i64 (unfoldedZ x)) ∧ w = w' := by
  by_cases h1 : x % 2 = 1
  · have hb : (((x : Int) % 2) == 1) = true := by simp; omega
    have H := Lib.hid h1
    clear h1
    go_enter Try.func81, Try.ntmps81
    go_wp2_with fail
    go_ret
    exact ⟨ret_int (by rw [unfoldedZ, if_pos H.out]; omega), rfl⟩
  · have hb : (((x : Int) % 2) == 1) = false := by simp; omega
    have H := Lib.hid h1
    clear h1
    go_enter Try.func81, Try.ntmps81
    go_wp2_with fail
    go_ret
    exact ⟨ret_int (by rw [unfoldedZ, if_neg H.out]; omega), rfl⟩

theorem rSe_any (w : World) (base b : Nat) (s : ByteArray) (p : Nat) (h : Rd w base b s p) (hs : s.size ≤ 140737488355328) :
    Calls Try.prog 66 #[.pointer (some ⟨b, 0, none⟩)] w fun e w' =>
      e = .returned (.tuple #[.int .i64 (unfoldedZ (rdUe (bitAt s) (8 * s.size) p 2147483646).1), .int .i64 (rdUe (bitAt s) (8 * s.size) p 2147483646).2.1]) ∧ RPost w base b s (rdUe (bitAt s) (8 * s.size) p 2147483646).2.2 w' := by
  have hm := rdUe_most (bitAt s) (8 * s.size) p 2147483646 (by omega)
  go_enter Try.func66, Try.ntmps66
  go_wp2_with fail
  refine (count_rd _ base b s p h).mono ?_
  rintro e w1 ⟨rfl, p1⟩
  go_wp2_with fail
  refine (takeUe_any _ base b s p _ p1.1 hs).mono ?_
  rintro e w2 ⟨rfl, p2⟩
  go_wp2_with fail
  refine (unfolded_any _ _ (by omega)).mono ?_
  rintro e w3 ⟨rfl, rfl⟩
  go_wp2_with fail
  go_ret2
  exact ⟨rfl, .chain p1.2 p2⟩

/-- The place behind the last 1, as the Reader has it. -/
theorem rd_ones {w : World} {base b : Nat} {s : ByteArray} {p : Nat} (h : Rd w base b s p) {q : Nat} (hq : IsPast (bitAt s) (8 * s.size) q) :
    w.cell? ⟨b, 2, none⟩ = some (.int .i64 (q : Int)) := by
  obtain ⟨c, ones, h, _, ho, _⟩ := h
  obtain rfl := ho.unique hq
  have c2 := cell_of_row w b 2 _ _ _ h
  simpa using c2

theorem trailR_any (w : World) (base b : Nat) (s : ByteArray) (p q : Nat) (h : Rd w base b s p) (hq : IsPast (bitAt s) (8 * s.size) q) (hs : s.size ≤ 140737488355328) :
    Calls Try.prog 69 #[.pointer (some ⟨b, 0, none⟩)] w fun e w' =>
      e = .returned (.int .i64 (if p + 1 = q ∧ 8 * s.size - p ≤ 8 then 0 else 101)) ∧ RPost w base b s (if p + 1 = q ∧ 8 * s.size - p ≤ 8 then 8 * s.size else p) w' := by
  by_cases hpq : p + 1 = q
  · subst hpq
    have c1' : ∀ w1, Rd w1 base b s p → w1.cell? ⟨b, 1, none⟩ = some (.string s) := by
      intro w1 hw
      obtain ⟨c, ones, hrow, _⟩ := hw
      have c1 := cell_of_row w1 b 1 _ _ _ hrow
      simpa using c1
    by_cases hl : 8 * s.size - p ≤ 8
    · rw [if_pos ⟨rfl, hl⟩, if_pos ⟨rfl, hl⟩]
      go_enter Try.func69, Try.ntmps69
      go_wp2_with fail
      refine (count_rd _ base b s p h).mono ?_
      rintro e w1 ⟨rfl, p1⟩
      obtain ⟨c3, f3, hp⟩ := rd_row p1.1
      have c2 := rd_ones p1.1 hq
      have hq1 := hq.1
      have c1 := c1' _ p1.1
      clear c1'
      go_wp2_with fail
      go_quiet ((go_at_call 84; exact Calls.quiet_of (left_any _ base b s p p1.1 hs)))
      go_wp2
      go_ret
      exact ⟨rfl, .chain (p1.drewN _).2 (rd_move (p1.drewN _).1 (8 * s.size) (by omega))⟩
    · rw [if_neg (by omega), if_neg (by omega)]
      go_enter Try.func69, Try.ntmps69
      go_wp2_with fail
      refine (count_rd _ base b s p h).mono ?_
      rintro e w1 ⟨rfl, p1⟩
      obtain ⟨c3, f3, hp⟩ := rd_row p1.1
      have c2 := rd_ones p1.1 hq
      have hq1 := hq.1
      clear c1'
      go_wp2_with fail
      go_quiet ((go_at_call 84; exact Calls.quiet_of (left_any _ base b s p p1.1 hs)))
      go_wp2
      go_ret
      exact ⟨rfl, p1.drewN _⟩
  · rw [if_neg (by omega), if_neg (by omega)]
    have hne : ((p : Int) != (q : Int) - 1) = true := by simp; omega
    go_enter Try.func69, Try.ntmps69
    go_wp2_with fail
    refine (count_rd _ base b s p h).mono ?_
    rintro e w1 ⟨rfl, p1⟩
    obtain ⟨c3, f3, hp⟩ := rd_row p1.1
    have c2 := rd_ones p1.1 hq
    have hq1 := hq.1
    go_wp2_with fail
    go_quiet (fail)
    go_wp2
    go_ret
    exact ⟨rfl, p1.drewN _⟩
end Go.Proofs.Ytadfgadkihlmcaa
