/- Layer 3: the document's ranges of a picture's parameters; what a getter of fields has under way. -/
import Derived.Test.YthcbgijmnonckaaGreatQF
import Derived.Test.YthcbgijmnonckaaGreatA
import Derived.Laws.Tables
import Derived.Deep.DeepCutAuto
import Derived.Deep.CutBlock
import Derived.RegionCalls
import Derived.Deep.RegionWith
import Derived.Deep.RegionHeld3
import Derived.Deep.Slices
import Derived.Deep.Fields
import Derived.ChangeSame
import Derived.StillTailTactics
namespace Go.Proofs.YthcbgijmnonckaaGreat
open Go.RowKit Zo Zp

def mayP (bipred qp chroma act0 act1 : Int) : Bool := inB bipred 0 2 && inB qp 0 51 && inB chroma (-12) 12 && inB act0 1 8 && inB act1 1 8

theorem mayP_all (cabac weighted : Bool) (bipred qp chroma : Int) (constrained deblock : Bool) (act0 act1 : Int) : mayP bipred qp chroma act0 act1 = decide (PpsN.may ⟨cabac, weighted, bipred, qp, chroma, constrained, deblock, act0, act1⟩) := by
  rw [Bool.eq_iff_iff, decide_eq_true_iff]
  simp only [mayP, inB, PpsN.may, Bool.and_eq_true, decide_eq_true_eq]
  constructor
  · rintro ⟨⟨⟨⟨h1, h2⟩, h3⟩, h4⟩, h5⟩
    exact ⟨h1.1, h1.2, h2.1, h2.2, h3.1, h3.2, h4.1, h4.2, h5.1, h5.2⟩
  · rintro ⟨h1, h2, h3, h4, h5, h6, h7, h8, h9, h10⟩
    exact ⟨⟨⟨⟨⟨h1, h2⟩, h3, h4⟩, h5, h6⟩, h7, h8⟩, h9, h10⟩

/-- A struct stored over a block that is known whole: only that block is another. -/
theorem wpList_store_whole {ops : Array Oper} {rest : List Oper} {o : Oper} {a : Act} {w : World} {Q : Exit → Act → World → Prop} (hgd : o.guard = none) (ty : TypeId) (x y : Operand) (ho : o.op = .store ty x y)
    (g : Nat) (cells : Array Value) (hx : a.eval x = .pointer (some ⟨g, 0, none⟩)) (hy : a.eval y = .agg cells)
    (t : TypeId) (old : Array Value) (hg : w.heap[g]? = some (.cells old t (0, 0))) (hi : (Tryz.prog.info? ty).map (·.size) = some cells.size)
    (hold : old.size = cells.size) (h1 : cells.all (·.oneCell') = true)
    (h : ∀ w', w'.heap[g]? = some (.cells cells t (0, 0)) → Fr (fun k => k = g) w w' → wpList Tryz.prog ops Q rest (a.put o.dst undef) w') : wpList Tryz.prog ops Q (o :: rest) a w :=
  wpList_store_row hgd ty x y ho g cells hx hy t old hg hi hold h1
    (h _ (setRow_heap w g old cells t _ hg) ⟨rfl, rfl, rfl, by simp, fun k _ hs => by
      show (w.heap.modify g _)[k]? = _
      rw [Array.getElem?_modify, if_neg (fun e => hs e.symm)]⟩)

theorem below_fr {B : Nat} {W w w' : World} (h : Below B W w) (hB : B ≤ W.heap.size) {S : Nat → Prop} (f : Fr S w w') (hS : ∀ k, S k → B ≤ k) : Below B W w' :=
  ⟨f.os.trans h.os, f.tape.trans h.tape, f.output.trans h.output, Nat.le_trans h.size f.size, fun i hi => (f.block i (Nat.lt_of_lt_of_le hi (Nat.le_trans hB h.size)) (fun e => by have := hS _ e; omega)).trans (h.block i hi)⟩

/-- A getter of fields under way: its result's block, its reader, the variable that it fills. -/
def Gt (W wr : World) (T : TypeId) (ob b rb sb : Nat) (l : List Bool) (st : Option Nat) (zs cs : Array Value) : Prop :=
  SRd wr W.heap.size b rb l st ∧ wr.heap[sb]? = some (.cells cs T (0, 0)) ∧ wr.heap[ob]? = some (.cells zs T (0, 0)) ∧ (ob ≠ sb ∧ W.heap.size ≤ sb ∧ W.heap.size ≤ ob) ∧ Below W.heap.size W wr ∧
    (T ≠ 123 ∧ T ≠ 57 ∧ T ≠ 5)

section
variable {W wr w' : World} {T : TypeId} {ob b rb sb : Nat} {l : List Bool} {st : Option Nat} {zs cs : Array Value}

theorem ne_of_type {w : World} {i j : Nat} {a c : Array Value} {s t : TypeId} (h : w.heap[i]? = some (.cells a s (0, 0))) (k : w.heap[j]? = some (.cells c t (0, 0))) (hne : s ≠ t) : i ≠ j := by
  rintro rfl
  rw [h] at k
  simp at k
  exact hne k.2

theorem SRd.reader {w : World} {base : Nat} (h : SRd w base b rb l st) : (∃ cs, w.heap[rb]? = some (.cells cs 57 (0, 0))) ∧ base ≤ rb := by
  obtain ⟨_, _, p, hp, _⟩ := h
  exact hp.block

theorem Gt.call {st' : Option Nat} {v : Value} {e : Ending} (h : Gt W wr T ob b rb sb l st zs cs) (p : SPost wr W.heap.size b rb l v st' e w') : Gt W w' T ob b rb sb l st' zs cs := by
  obtain ⟨h1, h2, h3, h4, h5, h6⟩ := h
  obtain ⟨_, p1, p2⟩ := p
  obtain ⟨⟨rc, hrc⟩, hrb⟩ := h1.reader
  refine ⟨p1, (p2.block sb (row_lt h2) ?_).trans h2, (p2.block ob (row_lt h3) ?_).trans h3, h4, ?_, h6⟩
  · rintro (e | e)
    · exact ne_of_type h2 h1.1 h6.1 e
    · exact ne_of_type h2 hrc h6.2.1 e
  · rintro (e | e)
    · exact ne_of_type h3 h1.1 h6.1 e
    · exact ne_of_type h3 hrc h6.2.1 e
  · refine ⟨p2.os.trans h5.os, p2.tape.trans h5.tape, p2.output.trans h5.output, Nat.le_trans h5.size p2.size, fun i hi => (p2.block i (Nat.lt_of_lt_of_le hi h5.size) ?_).trans (h5.block i hi)⟩
    have := h1.2.1
    rintro (e | e) <;> omega

theorem Gt.set (h : Gt W wr T ob b rb sb l st zs cs) (i : Nat) (u : Value) : Gt W (wr.setCell ⟨sb, i, none⟩ u) T ob b rb sb l st zs (cs.setIfInBounds i u) := by
  obtain ⟨h1, h2, h3, h4, h5, h6⟩ := h
  have f : Fr (fun k => k = sb) wr (wr.setCell ⟨sb, i, none⟩ u) := Fr.setCell (S := fun k => k = sb) (Fr.refl _ _) (fun _ => rfl) u
  refine ⟨h1.keep f (fun k cs hk e => ?_) (fun k cs hk e => ?_) (fun k cs hk e => ?_), heap_setCell_row h2 i u, (f.block ob (row_lt h3) h4.1).trans h3, h4, h5.setCell h4.2.1 _, h6⟩
  · exact ne_of_type h2 hk h6.1 e.symm
  · exact ne_of_type h2 hk h6.2.1 e.symm
  · exact ne_of_type h2 hk h6.2.2 e.symm

theorem Gt.cell (h : Gt W wr T ob b rb sb l st zs cs) (i : Nat) (u : Value) (hu : cs[i]? = some u) : wr.cell? ⟨sb, i, none⟩ = some u ∧ wr.frozen? ⟨sb, i, none⟩ = false :=
  ⟨by rw [cell_of_row wr sb i _ _ _ h.2.1, hu], free_row h.2.1 i⟩

theorem Gt.res (h : Gt W wr T ob b rb sb l st zs cs) (i : Nat) (u : Value) (hu : zs[i]? = some u) : wr.cell? ⟨ob, i, none⟩ = some u ∧ wr.frozen? ⟨ob, i, none⟩ = false :=
  ⟨by rw [cell_of_row wr ob i _ _ _ h.2.2.1, hu], free_row h.2.2.1 i⟩

theorem Gt.rd (h : Gt W wr T ob b rb sb l st zs cs) : SRd wr W.heap.size b rb l st := h.1

end
end Go.Proofs.YthcbgijmnonckaaGreat
/- The walk of the law BitsWrites. -/
namespace Go.Proofs.YthcbgijmnonckaaGreat
open Go.RowKit Zo

/-- What the walk is told of a slice of Acts that came in, not empty: the three numbers of each. -/
def IsActs (w : World) (b off len : Nat) (f : Nat → Int × Int × Int) : Prop :=
  b < w.heap.size ∧ ∀ i, i < len → w.cell? ⟨b, off + i * 3, none⟩ = some (.int .i64 (f i).1) ∧ w.cell? ⟨b, off + i * 3 + 1, none⟩ = some (.int .i64 (f i).2.1) ∧ w.cell? ⟨b, off + i * 3 + 2, none⟩ = some (.int .i64 (f i).2.2)

theorem IsActs.below {w w' : World} {b off len : Nat} {f : Nat → Int × Int × Int} (h : IsActs w b off len f) (bl : Below w.heap.size w w') (i : Nat) (hi : i < len) :
    w'.cell? ⟨b, off + i * 3, none⟩ = some (.int .i64 (f i).1) ∧ w'.cell? ⟨b, off + i * 3 + 1, none⟩ = some (.int .i64 (f i).2.1) ∧ w'.cell? ⟨b, off + i * 3 + 2, none⟩ = some (.int .i64 (f i).2.2) := by
  obtain ⟨h1, h2, h3⟩ := h.2 i hi
  exact ⟨(bl.cell (p := ⟨b, _, none⟩) h.1).trans h1, (bl.cell (p := ⟨b, _, none⟩) h.1).trans h2, (bl.cell (p := ⟨b, _, none⟩) h.1).trans h3⟩

/-- The Writer, which holds lw, and the law's own bits lv, beside each other, both made by the call. -/
def Both (W wr : World) (bw : Nat) (v : Value) (lw lv : List Bool) : Prop :=
  ∃ o, Wr wr W.heap.size bw o lw ∧ OwnBits wr W.heap.size v lv ∧ (∀ k, v.ownBlock = some k → o ≠ some k) ∧ Below W.heap.size W wr

theorem Both.own {W wr : World} {bw : Nat} {v : Value} {lw lv : List Bool} (h : Both W wr bw v lw lv) : OwnBits wr W.heap.size v lv := by
  obtain ⟨_, _, h, _, _⟩ := h; exact h

theorem Both.writer {W wr : World} {bw : Nat} {v : Value} {lw lv : List Bool} (h : Both W wr bw v lw lv) :
    ∃ o, Wr wr W.heap.size bw o lw ∧ ∀ lw' w', WPost wr W.heap.size bw o lw' w' → Both W w' bw v lw' lv := by
  obtain ⟨o, hw, hv, hd, bl⟩ := h
  refine ⟨o, hw, fun lw' w' p => ?_⟩
  have hb := p.below hw
  obtain ⟨o', h1, f, h3⟩ := p
  obtain ⟨⟨cs, hr⟩, _⟩ := hw.row
  refine ⟨o', h1, hv.fr f (fun k e hs => ?_), fun k e eo => ?_, bl.trans hb⟩
  · rcases hs with rfl | ho
    · exact ownsRow_ne hv hr (by decide) e.symm
    · exact hd k e ho
  · rcases h3 k eo with ho | hk
    · exact hd k e ho
    · have := (hv.lt k e).2; omega

/-- What is made anew turns neither. -/
theorem Both.new {W wr w' : World} {bw : Nat} {v : Value} {lw lv : List Bool} (h : Both W wr bw v lw lv) (b : Below wr.heap.size wr w') : Both W w' bw v lw lv := by
  obtain ⟨o, hw, hv, hd, bl⟩ := h
  obtain ⟨⟨cs, hr⟩, _, h2⟩ := hw.row
  exact ⟨o, hw.fr (Fr.of_below (S := fun _ => False) b) (fun _ _ h => h), hv.below b (Nat.le_refl _), hd, bl.trans (b.mono bl.size)⟩

/-- Behind an append to the law's own bits. -/
theorem Both.grown {W wr w' : World} {bw : Nat} {v v' : Value} {lw lv lv' : List Bool} (h : Both W wr bw v lw lv) (hown : OwnBits w' W.heap.size v' lv') (f : Fr (fun k => v.ownBlock = some k) wr w')
    (hat : ∀ k, v'.ownBlock = some k → v.ownBlock = some k ∨ wr.heap.size ≤ k) : Both W w' bw v' lw lv' := by
  obtain ⟨o, hw, hv, hd, bl⟩ := h
  obtain ⟨⟨cs, hr⟩, _, h2⟩ := hw.row
  refine ⟨o, hw.fr f (fun k hk e => ?_), hown, fun k e eo => ?_, bl.trans (f.below bl.size (fun k e => (hv.lt k e).1))⟩
  · rcases hk with rfl | ho
    · exact ownsRow_ne hv hr (by decide) e.symm
    · exact hd k e ho
  · rcases hat k e with ho | hk
    · exact hd k ho eo
    · obtain ⟨_, cs, hr2⟩ := h2 k eo
      have := row_lt hr2; omega

theorem Both.drewN {W wr : World} {bw : Nat} {v : Value} {lw lv : List Bool} (h : Both W wr bw v lw lv) (n : Nat) : Both W (wr.drewN n) bw v lw lv := by
  obtain ⟨o, hw, hv, hd, bl⟩ := h
  exact ⟨o, hw, hv, hd, ⟨bl.os, bl.tape, bl.output, bl.size, bl.block⟩⟩

end Go.Proofs.YthcbgijmnonckaaGreat
/- The walk of the law BitsReads: the Reader and the document's own, beside each other. -/
namespace Go.Proofs.YthcbgijmnonckaaGreat
open Go.RowKit Zo

theorem RRd.row {w : World} {base b : Nat} {l : List Bool} {p : Nat} (h : RRd w base b l p) : ∃ cs, w.heap[b]? = some (.cells cs 57 (0,0)) := by
  obtain ⟨g, cap, hr, _⟩ := h; exact ⟨_, hr⟩

theorem RRd.fr {S : Nat → Prop} {w w' : World} {base b : Nat} {l : List Bool} {p : Nat} (h : RRd w base b l p) (f : Fr S w w') (hb : ¬ S b) (hr5 : ∀ k cs, w.heap[k]? = some (.cells cs 5 (0,0)) → ¬ S k) : RRd w' base b l p := by
  obtain ⟨g, cap, hr, hbb, ho, hp⟩ := h
  refine ⟨g, cap, (f.block b (row_lt hr) hb).trans hr, hbb, ho.fr f (fun k e => ?_), hp⟩
  rcases ho.2 with ⟨h, _⟩ | ⟨g2, cap2, cur, h, _, hg, _⟩
  · cases h
  · rw [h] at e
    simp [Value.ownBlock] at e
    subst e
    exact hr5 _ _ hg

/-- Both Readers at one place. -/
def Twin (W wr : World) (br bo : Nat) (s : ByteArray) (p p' : Nat) : Prop :=
  Rd wr W.heap.size br s p ∧ RRd wr W.heap.size bo (win (bitAt s) 0 (8 * s.size)) p' ∧ Below W.heap.size W wr

theorem Twin.rd {W wr w' : World} {br bo : Nat} {s : ByteArray} {p p' q : Nat} (h : Twin W wr br bo s p p') (r : RPost wr W.heap.size br s q w') : Twin W w' br bo s q p' := by
  obtain ⟨h1, h2, bl⟩ := h
  obtain ⟨⟨cs, c1⟩, _⟩ := h1.row
  obtain ⟨cs2, c2⟩ := h2.row
  refine ⟨r.1, h2.fr r.2 (fun e => ?_) (fun k cs3 c3 e => ?_), bl.trans (r.below h1)⟩
  · subst e; rw [c1] at c2; simp at c2
  · subst e; rw [c1] at c3; simp at c3

theorem Twin.ref {W wr w' : World} {br bo : Nat} {s : ByteArray} {p p' q : Nat} (h : Twin W wr br bo s p p') (r : RRPost wr W.heap.size bo (win (bitAt s) 0 (8 * s.size)) q w') : Twin W w' br bo s p q := by
  obtain ⟨h1, h2, bl⟩ := h
  obtain ⟨⟨cs, c1⟩, _⟩ := h1.row
  obtain ⟨cs2, c2⟩ := h2.row
  have hbb : W.heap.size ≤ bo := by obtain ⟨_, _, _, hbb, _⟩ := h2; exact hbb
  refine ⟨h1.fr r.2 (fun e => ?_), r.1, bl.trans (r.2.below bl.size (fun k e => by subst e; exact hbb))⟩
  subst e; rw [c1] at c2; simp at c2

theorem Twin.new {W wr w' : World} {br bo : Nat} {s : ByteArray} {p p' : Nat} (h : Twin W wr br bo s p p') (b : Below wr.heap.size wr w') : Twin W w' br bo s p p' := by
  obtain ⟨h1, h2, bl⟩ := h
  have f : Fr (fun _ => False) wr w' := Fr.of_below b
  exact ⟨h1.fr f (fun h => h), h2.fr f (fun h => h) (fun _ _ _ h => h), bl.trans (b.mono bl.size)⟩

theorem Twin.drewN {W wr : World} {br bo : Nat} {s : ByteArray} {p p' : Nat} (h : Twin W wr br bo s p p') (n : Nat) : Twin W (wr.drewN n) br bo s p p' := by
  obtain ⟨h1, h2, bl⟩ := h
  exact ⟨h1, h2, ⟨bl.os, bl.tape, bl.output, bl.size, bl.block⟩⟩

end Go.Proofs.YthcbgijmnonckaaGreat
/- Layer 3: the document's own GetPps. -/
namespace Go.Proofs.YthcbgijmnonckaaGreat
open Go.RowKit Zo Zp

theorem Gt.turn {S : Nat → Prop} {W wr w' : World} {T : TypeId} {ob b rb sb : Nat} {l : List Bool} {st : Option Nat} {zs cs : Array Value} (h : Gt W wr T ob b rb sb l st zs cs) (f : Fr S wr w') (hS : ∀ k, S k → k = rb) :
    w'.heap[sb]? = some (.cells cs T (0, 0)) ∧ w'.heap[ob]? = some (.cells zs T (0, 0)) ∧ Below W.heap.size W w' := by
  obtain ⟨h1, h2, h3, h4, h5, h6⟩ := h
  obtain ⟨⟨rc, hrc⟩, hrb⟩ := h1.reader
  refine ⟨(f.block sb (row_lt h2) fun e => ne_of_type h2 hrc h6.2.1 (hS _ e)).trans h2, (f.block ob (row_lt h3) fun e => ne_of_type h3 hrc h6.2.1 (hS _ e)).trans h3, ?_⟩
  exact ⟨f.os.trans h5.os, f.tape.trans h5.tape, f.output.trans h5.output, Nat.le_trans h5.size f.size, fun i hi => (f.block i (Nat.lt_of_lt_of_le hi h5.size) (fun e => by have := hS _ e; omega)).trans (h5.block i hi)⟩

end Go.Proofs.YthcbgijmnonckaaGreat
/- Layer 3: the document's own GetSps. -/
namespace Go.Proofs.YthcbgijmnonckaaGreat
open Go.RowKit Zo Zp

/-- Integers that the call has collected. -/
def Own3 (w : World) (base : Nat) (v : Value) (l : List Int) : Prop := w.ownsRow base 3 1 v l.length (iv l)

theorem Own3.block {w : World} {base : Nat} {v : Value} {l : List Int} (h : Own3 w base v l) : ∀ k, v.ownBlock = some k → base ≤ k ∧ ∃ cs, w.heap[k]? = some (.cells cs 3 (0, 0)) := by
  intro k hk
  rcases h.2 with ⟨rfl, _⟩ | ⟨g, cap, cur, rfl, hb, hg, _⟩
  · simp [Value.ownBlock] at hk
  · obtain rfl : g = k := by simpa [Value.ownBlock] using hk
    exact ⟨hb, _, hg⟩

theorem Own3.keep {S : Nat → Prop} {w w' : World} {base : Nat} {v : Value} {l : List Int} (h : Own3 w base v l) (f : Fr S w w') (hS : ∀ k cs, w.heap[k]? = some (.cells cs 3 (0, 0)) → ¬ S k) : Own3 w' base v l :=
  ownsRow_fr h f (fun k e => by obtain ⟨_, cs, hc⟩ := h.block k e; exact hS k cs hc)

section
variable {W wr w' : World} {T : TypeId} {ob b rb sb : Nat} {l : List Bool} {st : Option Nat} {zs cs : Array Value}

theorem Gt.other {S : Nat → Prop} (h : Gt W wr T ob b rb sb l st zs cs) (f : Fr S wr w') (hT : T ≠ 3) (hS : ∀ k, S k → k < wr.heap.size → W.heap.size ≤ k ∧ ∃ cs, wr.heap[k]? = some (.cells cs 3 (0, 0))) : Gt W w' T ob b rb sb l st zs cs := by
  obtain ⟨h1, h2, h3, h4, h5, h6⟩ := h
  have no : ∀ k a t, wr.heap[k]? = some (.cells a t (0, 0)) → t ≠ 3 → ¬ S k := fun k a t hk hne hs => by
    obtain ⟨_, cs, hc⟩ := hS k hs (row_lt hk)
    exact ne_of_type hk hc hne rfl
  refine ⟨h1.keep f (fun _ _ hk => no _ _ _ hk (by decide)) (fun _ _ hk => no _ _ _ hk (by decide)) (fun _ _ hk => no _ _ _ hk (by decide)), (f.block sb (row_lt h2) (no _ _ _ h2 hT)).trans h2, (f.block ob (row_lt h3) (no _ _ _ h3 hT)).trans h3, h4, ?_, h6⟩
  refine ⟨f.os.trans h5.os, f.tape.trans h5.tape, f.output.trans h5.output, Nat.le_trans h5.size f.size, fun i hi => (f.block i (Nat.lt_of_lt_of_le hi h5.size) (fun hs => ?_)).trans (h5.block i hi)⟩
  have := (hS i hs (Nat.lt_of_lt_of_le hi h5.size)).1
  omega

end

end Go.Proofs.YthcbgijmnonckaaGreat
/- Layer 3: the program's reader of fields, which tells 0 behind its first fault. -/
namespace Go.Proofs.YthcbgijmnonckaaGreat
open Go.RowKit Zo Zp

theorem Rd.block {w : World} {base b : Nat} {s : ByteArray} {p : Nat} (h : Rd w base b s p) : (∃ cs, w.heap[b]? = some (.cells cs 116 (0,0))) ∧ base ≤ b ∧ p ≤ 8 * s.size := by
  obtain ⟨c, ones, hr, hb, _, hp⟩ := h
  exact ⟨⟨_, hr⟩, hb, hp⟩

end Go.Proofs.YthcbgijmnonckaaGreat
/- Layer 3: what a call that writes has under way; flags; the program's PutPps, told that its MayPps answers as it should. -/
namespace Go.Proofs.YthcbgijmnonckaaGreat
open Go.RowKit Zo Zp

/-- A call that writes bits: its Writer and the box that holds its argument. -/
def Wt (W wr : World) (b : Nat) (o : Option Nat) (bits : List Bool) (k : Nat) (cs : Array Value) (t : TypeId) : Prop :=
  Wr wr W.heap.size b o bits ∧ Below W.heap.size W wr ∧ wr.heap[k]? = some (.cells cs t (0, 0)) ∧ (t ≠ 82 ∧ t ≠ 5)

section
variable {W wr w' : World} {b : Nat} {o : Option Nat} {bits bits' : List Bool} {k : Nat} {cs : Array Value} {t : TypeId}

theorem Wt.step (h : Wt W wr b o bits k cs t) (p : WPost wr W.heap.size b o bits' w') : ∃ o', Wt W w' b o' bits' k cs t := by
  obtain ⟨h1, h2, h3, h4⟩ := h
  obtain ⟨o', p1, p2, _⟩ := p
  obtain ⟨⟨c0, hc0⟩, hb, ho⟩ := h1.row
  refine ⟨o', p1, ?_, (p2.block k (row_lt h3) ?_).trans h3, h4⟩
  · refine ⟨p2.os.trans h2.os, p2.tape.trans h2.tape, p2.output.trans h2.output, Nat.le_trans h2.size p2.size, fun i hi => (p2.block i (Nat.lt_of_lt_of_le hi h2.size) ?_).trans (h2.block i hi)⟩
    rintro (e | e)
    · omega
    · have := (ho i e).1; omega
  · rintro (e | e)
    · exact ne_of_type h3 hc0 h4.1 e
    · obtain ⟨_, c1, hc1⟩ := ho k e
      rw [h3] at hc1
      simp at hc1
      exact h4.2 hc1.2

theorem Wt.cell (h : Wt W wr b o bits k cs t) (i : Nat) (u : Value) (hu : cs[i]? = some u) : wr.cell? ⟨k, i, none⟩ = some u := by
  rw [cell_of_row wr k i _ _ _ h.2.2.1, hu]
end

theorem bitsW_fine (w : World) (base b : Nat) (o : Option Nat) (bits : List Bool) (x : Int) (n : Nat) (h : Wr w base b o bits) (hn : n ≤ 32) (h0 : 0 ≤ x) (hx : x.toNat < 2 ^ n) (hb : bits.length ≤ 100000000000) :
    Calls Tryz.prog 12 #[.pointer (some ⟨b, 0, none⟩), .int .i64 x, .int .i64 (n : Int)] w fun e w' => e = .returned (.int .i64 0) ∧ WPost w base b o (bits ++ digs n x.toNat) w' := by
  have := bitsW_any w base b o bits x (n : Int) h hb
  rwa [bitsAns, if_pos ⟨by omega, by omega, h0, by rw [Int.toNat_natCast]; exact hx⟩, Int.toNat_natCast] at this

end Go.Proofs.YthcbgijmnonckaaGreat
/- Layer 3: the program's PutPps and PutSps, told that its ranges answer as they should. -/
namespace Go.Proofs.YthcbgijmnonckaaGreat
open Go.RowKit Zo Zp

def MayPpsOk : Prop := ∀ (p : PpsN) (w : World), Calls Tryz.prog 74 #[ppsV p] w fun e w' => e = .returned (.bool (decide p.may)) ∧ Below w.heap.size w w'
def MaySpsOk : Prop := ∀ (s : SpsN) (a : Option Addr) (cap : Nat) (w : World), IntRow w a s.cycle → s.cycle.length ≤ 1000000000 →
  Calls Tryz.prog 73 #[spsV s a cap] w fun e w' => e = .returned (.bool (decide s.may)) ∧ Below w.heap.size w w'

/-- putCycle under way: its own box lies in block w.heap.size. -/
def Pc (W w wr : World) (b : Nat) (o : Option Nat) (l : List Bool) (cs : Array Value) : Prop :=
  ∃ o', Wt W wr b o' l w.heap.size cs 29 ∧ Fr (wsel b o) w wr ∧ ∀ k, o' = some k → o = some k ∨ w.heap.size ≤ k

theorem Pc.mk {W w wr w' : World} {b : Nat} {o o1 : Option Nat} {l l' : List Bool} {cs : Array Value} (t1 : Wt W wr b o1 l w.heap.size cs 29) (f1 : Fr (wsel b o) w wr) (q1 : ∀ k, o1 = some k → o = some k ∨ w.heap.size ≤ k)
    (p : WPost wr W.heap.size b o1 l' w') : Pc W w w' b o l' cs := by
  obtain ⟨h1, h2, h3, h4⟩ := t1
  obtain ⟨o2, r, f2, q2⟩ := p
  obtain ⟨⟨c0, hc0⟩, hb, ho⟩ := h1.row
  refine ⟨o2, ⟨r, ?_, (f2.block _ (row_lt h3) ?_).trans h3, h4⟩, f1.trans f2 (fun i hi e => ?_), fun k e => ?_⟩
  · refine below_fr h2 (Nat.le_refl _) f2 (fun k e => ?_)
    rcases e with e | e
    · omega
    · exact (ho k e).1
  · rintro (e | e)
    · exact ne_of_type h3 hc0 h4.1 e
    · obtain ⟨_, c1, hc1⟩ := ho _ e
      exact ne_of_type h3 hc1 h4.2 rfl
  · rcases e with e | e
    · exact .inl e
    · rcases q1 i e with g | g
      · exact .inr g
      · omega
  · rcases q2 k e with g | g
    · exact q1 k g
    · have := f1.size; exact .inr (by omega)

end Go.Proofs.YthcbgijmnonckaaGreat
