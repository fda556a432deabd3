/- Layer 3: the document's ranges of a picture's parameters; what a getter of fields has under way. -/
import Derived.Test.YtadfgadkihlmcaaQF
import Derived.Laws.Tables
namespace Go.Proofs.Ytadfgadkihlmcaa
open Go.RowKit Zo Zp

def mayP (bipred qp chroma act0 act1 : Int) : Bool := inB bipred 0 2 && inB qp 0 51 && inB chroma (-12) 12 && inB act0 1 8 && inB act1 1 8

theorem mayP_all (cabac weighted : Bool) (bipred qp chroma : Int) (constrained deblock : Bool) (act0 act1 : Int) : mayP bipred qp chroma act0 act1 = decide (PpsN.may ⟨cabac, weighted, bipred, qp, chroma, constrained, deblock, act0, act1⟩) := by
  rw [Bool.eq_iff_iff, decide_eq_true_iff]
  simp only [mayP, inB, PpsN.may, Bool.and_eq_true, decide_eq_true_eq]
  constructor
  · rintro ⟨⟨⟨⟨h1, h2⟩, h3⟩, h4⟩, h5⟩
    exact ⟨h1.1, h1.2, h2.1, h2.2, h3.1, h3.2, h4.1, h4.2, h5.1, h5.2⟩
  · rintro ⟨h1, h2, h3, h4, h5, h6, h7, h8, h9, h10⟩
    exact ⟨⟨⟨⟨⟨h1, h2⟩, h3, h4⟩, h5, h6⟩, h7, h8⟩, h9, h10⟩

set_option maxRecDepth 100000 in
theorem refMayPps_any (w : World) (p : PpsN) : Calls Try.prog 27 #[ppsV p] w fun e w' => e = .returned (.bool (decide p.may)) ∧ Below w.heap.size w w' := by
  obtain ⟨cabac, weighted, bipred, qp, chroma, constrained, deblock, act0, act1⟩ := p
  unfold ppsV
  rw [← mayP_all]
  have HB := Lib.hid ((Below.refl w.heap.size w).alloc (Nat.le_refl _) (.cells #[.bool cabac, .bool weighted, .int .i64 bipred, .int .i64 qp, .int .i64 chroma, .bool constrained, .bool deblock, .int .i64 act0, .int .i64 act1] 43))
  go_enter Try.func27, Try.ntmps27
  go_wp2_with (go_at_call 49; refine (in_any _ _ _ _).mono ?_; rintro e w' ⟨rfl, rfl⟩)
  all_goals
    go_ret
    exact ⟨ret_bool (by simp [mayP, *]), HB.out⟩

/-- A struct stored over a block that is known whole: only that block is another. -/
theorem wpList_store_whole {ops : Array Oper} {rest : List Oper} {o : Oper} {a : Act} {w : World} {Q : Exit → Act → World → Prop} (hgd : o.guard = none) (ty : TypeId) (x y : Operand) (ho : o.op = .store ty x y)
    (g : Nat) (cells : Array Value) (hx : a.eval x = .pointer (some ⟨g, 0, none⟩)) (hy : a.eval y = .agg cells)
    (t : TypeId) (old : Array Value) (hg : w.heap[g]? = some (.cells old t (0, 0))) (hi : (Try.prog.info? ty).map (·.size) = some cells.size)
    (hold : old.size = cells.size) (h1 : cells.all (·.oneCell') = true)
    (h : ∀ w', w'.heap[g]? = some (.cells cells t (0, 0)) → Fr (fun k => k = g) w w' → wpList Try.prog ops Q rest (a.put o.dst undef) w') : wpList Try.prog ops Q (o :: rest) a w :=
  wpList_store_row hgd ty x y ho g cells hx hy t old hg hi hold h1
    (h _ (setRow_heap w g old cells t _ hg) ⟨rfl, rfl, rfl, by simp, fun k _ hs => by
      show (w.heap.modify g _)[k]? = _
      rw [Array.getElem?_modify, if_neg (fun e => hs e.symm)]⟩)

theorem below_fr {B : Nat} {W w w' : World} (h : Below B W w) (hB : B ≤ W.heap.size) {S : Nat → Prop} (f : Fr S w w') (hS : ∀ k, S k → B ≤ k) : Below B W w' :=
  ⟨f.os.trans h.os, f.tape.trans h.tape, f.output.trans h.output, Nat.le_trans h.size f.size, fun i hi => (f.block i (Nat.lt_of_lt_of_le hi (Nat.le_trans hB h.size)) (fun e => by have := hS _ e; omega)).trans (h.block i hi)⟩

/-- A getter of fields under way: its result's block, its reader, the variable that it fills. -/
def Gt (W wr : World) (T : TypeId) (ob b rb sb : Nat) (l : List Bool) (st : Option Nat) (zs cs : Array Value) : Prop :=
  SRd wr W.heap.size b rb l st ∧ wr.heap[sb]? = some (.cells cs T (0, 0)) ∧ wr.heap[ob]? = some (.cells zs T (0, 0)) ∧ (ob ≠ sb ∧ W.heap.size ≤ sb ∧ W.heap.size ≤ ob) ∧ Below W.heap.size W wr ∧
    (T ≠ 100 ∧ T ≠ 98 ∧ T ≠ 5)

section
variable {W wr w' : World} {T : TypeId} {ob b rb sb : Nat} {l : List Bool} {st : Option Nat} {zs cs : Array Value}

theorem ne_of_type {w : World} {i j : Nat} {a c : Array Value} {s t : TypeId} (h : w.heap[i]? = some (.cells a s (0, 0))) (k : w.heap[j]? = some (.cells c t (0, 0))) (hne : s ≠ t) : i ≠ j := by
  rintro rfl
  rw [h] at k
  simp at k
  exact hne k.2

theorem SRd.reader {w : World} {base : Nat} (h : SRd w base b rb l st) : (∃ cs, w.heap[rb]? = some (.cells cs 98 (0, 0))) ∧ base ≤ rb := by
  obtain ⟨_, _, p, hp, _⟩ := h
  exact hp.block

theorem Gt.call {st' : Option Nat} {v : Value} {e : Ending} (h : Gt W wr T ob b rb sb l st zs cs) (p : SPost wr W.heap.size b rb l v st' e w') : Gt W w' T ob b rb sb l st' zs cs := by
  obtain ⟨h1, h2, h3, h4, h5, h6⟩ := h
  obtain ⟨_, p1, p2⟩ := p
  obtain ⟨⟨rc, hrc⟩, hrb⟩ := h1.reader
  refine ⟨p1, (p2.block sb (row_lt h2) ?_).trans h2, (p2.block ob (row_lt h3) ?_).trans h3, h4, ?_, h6⟩
  · rintro (e | e)
    · exact ne_of_type h2 h1.1 h6.1 e
    · exact ne_of_type h2 hrc h6.2.1 e
  · rintro (e | e)
    · exact ne_of_type h3 h1.1 h6.1 e
    · exact ne_of_type h3 hrc h6.2.1 e
  · refine ⟨p2.os.trans h5.os, p2.tape.trans h5.tape, p2.output.trans h5.output, Nat.le_trans h5.size p2.size, fun i hi => (p2.block i (Nat.lt_of_lt_of_le hi h5.size) ?_).trans (h5.block i hi)⟩
    have := h1.2.1
    rintro (e | e) <;> omega

theorem Gt.set (h : Gt W wr T ob b rb sb l st zs cs) (i : Nat) (u : Value) : Gt W (wr.setCell ⟨sb, i, none⟩ u) T ob b rb sb l st zs (cs.setIfInBounds i u) := by
  obtain ⟨h1, h2, h3, h4, h5, h6⟩ := h
  have f : Fr (fun k => k = sb) wr (wr.setCell ⟨sb, i, none⟩ u) := Fr.setCell (S := fun k => k = sb) (Fr.refl _ _) (fun _ => rfl) u
  refine ⟨h1.keep f (fun k cs hk e => ?_) (fun k cs hk e => ?_) (fun k cs hk e => ?_), heap_setCell_row h2 i u, (f.block ob (row_lt h3) h4.1).trans h3, h4, h5.setCell h4.2.1 _, h6⟩
  · exact ne_of_type h2 hk h6.1 e.symm
  · exact ne_of_type h2 hk h6.2.1 e.symm
  · exact ne_of_type h2 hk h6.2.2 e.symm

theorem Gt.cell (h : Gt W wr T ob b rb sb l st zs cs) (i : Nat) (u : Value) (hu : cs[i]? = some u) : wr.cell? ⟨sb, i, none⟩ = some u ∧ wr.frozen? ⟨sb, i, none⟩ = false :=
  ⟨by rw [cell_of_row wr sb i _ _ _ h.2.1, hu], free_row h.2.1 i⟩

theorem Gt.res (h : Gt W wr T ob b rb sb l st zs cs) (i : Nat) (u : Value) (hu : zs[i]? = some u) : wr.cell? ⟨ob, i, none⟩ = some u ∧ wr.frozen? ⟨ob, i, none⟩ = false :=
  ⟨by rw [cell_of_row wr ob i _ _ _ h.2.2.1, hu], free_row h.2.2.1 i⟩

theorem Gt.down (h : Gt W wr T ob b rb sb l st zs cs) : Below W.heap.size W wr := h.2.2.2.2.1
theorem Gt.rd (h : Gt W wr T ob b rb sb l st zs cs) : SRd wr W.heap.size b rb l st := h.1

/-- The beginning: a result, a Reader, a reader, a variable, each in a block of its own. -/
theorem Gt.start {w1 : World} {v : Value} {bits : List Bool} {zs : Array Value} (ht : T ≠ 100 ∧ T ≠ 98 ∧ T ≠ 5)
    (hn : NewBits (W.alloc (.cells zs T)) w1 v bits) :
    Gt W (((w1.alloc (.cells #[v, .int .i64 0] 98)).alloc (.cells #[.pointer (some ⟨w1.heap.size, 0, none⟩), .bool false] 100)).alloc (.cells zs T)) T W.heap.size (w1.heap.size + 1) w1.heap.size (w1.heap.size + 2) bits (some 0) zs zs := by
  obtain ⟨g, cap, rfl, hg1, hg2, hown, hb⟩ := hn
  have hz := hb.size
  simp at hz hg1
  have hown' : w1.ownsRow W.heap.size 5 1 (.slice (some ⟨g, 0, none⟩) bits.length cap) bits.length (bv bits) := by
    refine ⟨hown.1, ?_⟩
    rcases hown.2 with h | ⟨g', cap', cur, hv, hbg, rest⟩
    · exact .inl h
    · refine .inr ⟨g', cap', cur, hv, ?_, rest⟩
      simp at hbg
      omega
  have e1 : (w1.alloc (.cells #[.slice (some ⟨g, 0, none⟩) bits.length cap, .int .i64 0] 98)).heap.size = w1.heap.size + 1 := by simp
  have e2 : ((w1.alloc (.cells #[.slice (some ⟨g, 0, none⟩) bits.length cap, .int .i64 0] 98)).alloc (.cells #[.pointer (some ⟨w1.heap.size, 0, none⟩), .bool false] 100)).heap.size = w1.heap.size + 2 := by simp
  have r0 : (w1.alloc (.cells #[.slice (some ⟨g, 0, none⟩) bits.length cap, .int .i64 0] 98)).heap[w1.heap.size]? = _ := heap_alloc_last _ _
  have r1 := heap_alloc_last (w1.alloc (.cells #[.slice (some ⟨g, 0, none⟩) bits.length cap, .int .i64 0] 98)) (.cells #[.pointer (some ⟨w1.heap.size, 0, none⟩), .bool false] 100)
  rw [e1] at r1
  have r2 := heap_alloc_last ((w1.alloc (.cells #[.slice (some ⟨g, 0, none⟩) bits.length cap, .int .i64 0] 98)).alloc (.cells #[.pointer (some ⟨w1.heap.size, 0, none⟩), .bool false] 100)) (.cells zs T)
  rw [e2] at r2
  refine ⟨⟨?_, by omega, 0, ⟨g, cap, ?_, by omega, (((hown'.alloc _).alloc _).alloc _), Nat.zero_le _⟩, fun q hq => by simpa using hq⟩, r2, ?_, ⟨by omega, by omega, Nat.le_refl _⟩, ?_, ht⟩
  · rw [heap_alloc_other (by simp)]; exact r1
  · rw [heap_alloc_other (by simp; omega), heap_alloc_other (by simp)]; exact r0
  · rw [heap_alloc_other (by simp; omega), heap_alloc_other (by simp; omega), heap_alloc_other (by omega), hb.block _ (by simp)]
    exact heap_alloc_last W _
  · exact ((((((Below.refl _ _).alloc (Nat.le_refl _) _).trans (hb.mono (by simp))).alloc (by omega) _).alloc (by simp; omega) _).alloc (by simp; omega) _)
end
end Go.Proofs.Ytadfgadkihlmcaa
