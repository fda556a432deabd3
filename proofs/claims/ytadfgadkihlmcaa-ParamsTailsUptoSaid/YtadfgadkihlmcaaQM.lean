/- Layer 3: what a call that writes has under way; flags; the program's PutPps, told that its MayPps answers as it should. -/
import Derived.Test.YtadfgadkihlmcaaQL
namespace Go.Proofs.Ytadfgadkihlmcaa
open Go.RowKit Zo Zp

/-- A call that writes bits: its Writer and the box that holds its argument. -/
def Wt (W wr : World) (b : Nat) (o : Option Nat) (bits : List Bool) (k : Nat) (cs : Array Value) (t : TypeId) : Prop :=
  Wr wr W.heap.size b o bits ∧ Below W.heap.size W wr ∧ wr.heap[k]? = some (.cells cs t (0, 0)) ∧ (t ≠ 109 ∧ t ≠ 5)

section
variable {W wr w' : World} {b : Nat} {o : Option Nat} {bits bits' : List Bool} {k : Nat} {cs : Array Value} {t : TypeId}

theorem Wt.step (h : Wt W wr b o bits k cs t) (p : WPost wr W.heap.size b o bits' w') : ∃ o', Wt W w' b o' bits' k cs t := by
  obtain ⟨h1, h2, h3, h4⟩ := h
  obtain ⟨o', p1, p2, _⟩ := p
  obtain ⟨⟨c0, hc0⟩, hb, ho⟩ := h1.row
  refine ⟨o', p1, ?_, (p2.block k (row_lt h3) ?_).trans h3, h4⟩
  · refine ⟨p2.os.trans h2.os, p2.tape.trans h2.tape, p2.output.trans h2.output, Nat.le_trans h2.size p2.size, fun i hi => (p2.block i (Nat.lt_of_lt_of_le hi h2.size) ?_).trans (h2.block i hi)⟩
    rintro (e | e)
    · omega
    · have := (ho i e).1; omega
  · rintro (e | e)
    · exact ne_of_type h3 hc0 h4.1 e
    · obtain ⟨_, c1, hc1⟩ := ho k e
      rw [h3] at hc1
      simp at hc1
      exact h4.2 hc1.2

theorem Wt.cell (h : Wt W wr b o bits k cs t) (i : Nat) (u : Value) (hu : cs[i]? = some u) : wr.cell? ⟨k, i, none⟩ = some u := by
  rw [cell_of_row wr k i _ _ _ h.2.2.1, hu]
end

theorem bitsW_fine (w : World) (base b : Nat) (o : Option Nat) (bits : List Bool) (x : Int) (n : Nat) (h : Wr w base b o bits) (hn : n ≤ 32) (h0 : 0 ≤ x) (hx : x.toNat < 2 ^ n) (hb : bits.length ≤ 100000000000) :
    Calls Try.prog 52 #[.pointer (some ⟨b, 0, none⟩), .int .i64 x, .int .i64 (n : Int)] w fun e w' => e = .returned (.int .i64 0) ∧ WPost w base b o (bits ++ digs n x.toNat) w' := by
  have := bitsW_any w base b o bits x (n : Int) h hb
  rwa [bitsAns, if_pos ⟨by omega, by omega, h0, by rw [Int.toNat_natCast]; exact hx⟩, Int.toNat_natCast] at this

theorem ue_fine (w : World) (base b : Nat) (o : Option Nat) (bits : List Bool) (x : Int) (h : Wr w base b o bits) (h0 : 0 ≤ x) (hx : x ≤ 2147483646) (hb : bits.length ≤ 100000000000) :
    Calls Try.prog 30 #[.pointer (some ⟨b, 0, none⟩), .int .i64 x] w fun e w' => e = .returned (.int .i64 0) ∧ WPost w base b o (bits ++ ueB x.toNat) w' := by
  have := ue_any w base b o bits x h hb
  rwa [ueAns, if_pos ⟨h0, hx⟩] at this

theorem se_fine (w : World) (base b : Nat) (o : Option Nat) (bits : List Bool) (x : Int) (h : Wr w base b o bits) (h0 : -1073741823 ≤ x) (hx : x ≤ 1073741823) (hb : bits.length ≤ 100000000000) :
    Calls Try.prog 53 #[.pointer (some ⟨b, 0, none⟩), .int .i64 x] w fun e w' => e = .returned (.int .i64 0) ∧ WPost w base b o (bits ++ seB x) w' := by
  have := se_any w base b o bits x h hb
  rwa [seAns, if_pos ⟨h0, hx⟩] at this

theorem putFlag_any (w : World) (base b : Nat) (o : Option Nat) (bits : List Bool) (f : Bool) (h : Wr w base b o bits) (hb : bits.length ≤ 100000000000) :
    Calls Try.prog 51 #[.pointer (some ⟨b, 0, none⟩), .bool f] w fun e w' => e = .returned (.tuple #[]) ∧ WPost w base b o (bits ++ digs 1 f.toNat) w' := by
  cases f
  all_goals
    go_enter Try.func51, Try.ntmps51
    go_wp2_with fail
    refine (bitsW_fine _ base b o bits _ 1 h (by omega) (by omega) (by decide) hb).mono ?_
    rintro e w1 ⟨rfl, p1⟩
    have P := Lib.hid p1
    clear p1
    go_wp2_with fail
    go_end0
    exact ⟨rfl, P.out⟩
end Go.Proofs.Ytadfgadkihlmcaa
