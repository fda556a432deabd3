/- The walks of the laws BitsTrails, BitsLengths. -/
import Derived.Test.YthcbgijmnonckaaGreatG
import Derived.Test.YthcbgijmnonckaaGreatN
import Derived.Test.YthcbgijmnonckaaGreatA
import Derived.Deep.OwnRows
import Derived.Deep.DeepCutAuto
import Derived.Deep.CutBlock
namespace Go.Proofs.YthcbgijmnonckaaGreat
open Go.RowKit Zo

theorem bytes_numsF (l : List Nat) (h : ∀ x ∈ l, x < 256) (i : Nat) : byteAt (bstr l) i = l.getD i 0 := by
  unfold byteAt
  by_cases hi : i < l.length
  · rw [dif_pos (by rw [bstr_size]; exact hi)]
    have := h l[i] (List.getElem_mem hi)
    simp [bstr, ByteArray.getElem_eq_getElem_data, hi]
    omega
  · rw [dif_neg (by rw [bstr_size]; exact hi)]
    simp [hi]

theorem bitAt_bstr (l : List Nat) (h : ∀ x ∈ l, x < 256) (i : Nat) : bitAt (bstr l) i = (flat l).getD i false := by
  unfold bitAt
  rw [bytes_numsF l h]
  by_cases hi : i < 8 * l.length
  · rw [List.getD_eq_getElem?_getD (l := flat l), flat_get l i hi]; rfl
  · rw [List.getD_eq_getElem?_getD (l := flat l), List.getElem?_eq_none (l := flat l) (by rw [flat_length]; omega)]
    rw [List.getD_eq_getElem?_getD, List.getElem?_eq_none (by omega)]
    simp

/-- The bits of the string that bits make: these, then noughts. -/
theorem bitAt_pack (l : List Bool) (i : Nat) : bitAt (bstr (packB l)) i = l.getD i false := by
  rw [bitAt_bstr _ (packB_lt l), flat_packB]
  simp only [List.getD_eq_getElem?_getD]
  by_cases hi : i < l.length
  · rw [List.getElem?_append_left hi]
  · rw [List.getElem?_append_right (by omega), List.getElem?_eq_none (l := l) (by omega), List.getElem?_replicate]
    split <;> rfl

theorem size_pack (l : List Bool) : (bstr (packB l)).size = (l.length + 7) / 8 := by rw [bstr_size, packB_length]

/-- A Writer that lies wholly below block U. -/
def WrIn (w : World) (B U b : Nat) (bits : List Bool) : Prop := ∃ o, Wr w B b o bits ∧ b < U ∧ ∀ k, o = some k → k < U

theorem WrE.into {w : World} {B b : Nat} {bits : List Bool} (h : WrE w B b bits) : WrIn w B w.heap.size b bits := by
  obtain ⟨o, h⟩ := h
  obtain ⟨⟨_, h1⟩, _, h2⟩ := h.row
  exact ⟨o, h, row_lt h1, fun k e => by obtain ⟨_, _, h3⟩ := h2 k e; exact row_lt h3⟩

theorem WrIn.out {w : World} {B U b : Nat} {bits : List Bool} (h : WrIn w B U b bits) : WrE w B b bits := by obtain ⟨o, h, _⟩ := h; exact ⟨o, h⟩

/-- .. stays what it is while what is written lies from U on. -/
theorem WrIn.below {w w' : World} {B U b : Nat} {bits : List Bool} (h : WrIn w B U b bits) (hb : Below U w w') : WrIn w' B U b bits := by
  obtain ⟨o, h, h1, h2⟩ := h
  exact ⟨o, h.fr (S := fun k => U ≤ k) ⟨hb.os, hb.tape, hb.output, hb.size, fun k _ hn => hb.block k (by omega)⟩ (fun k hk e => by
    rcases hk with rfl | ho
    · omega
    · have := h2 k ho; omega), h1, h2⟩

end Go.Proofs.YthcbgijmnonckaaGreat
/- The document's own answer for layers 1 and 2: bits as bytes 0 and 1, function by function. -/
namespace Go.Proofs.YthcbgijmnonckaaGreat
open Go.RowKit Zo

/-- Bits as cells. -/
def bv (l : List Bool) : List Value := l.map fun b => .int .u8 (b.toNat : Int)

/-- Block g is a row of just these cells. -/
def Row (w : World) (g : Nat) (e : TypeId) (xs : List Value) : Prop := w.heap[g]? = some (.cells xs.toArray e (0, 0))

theorem Row.cell {w : World} {g : Nat} {e : TypeId} {xs : List Value} (h : Row w g e xs) (i : Nat) {v : Value} (hi : xs[i]? = some v) : w.cell? ⟨g, i, none⟩ = some v := by
  rw [cell_of_row w g i _ _ _ h]
  simpa using hi

theorem Row.free {w : World} {g : Nat} {e : TypeId} {xs : List Value} (h : Row w g e xs) (i : Nat) : w.frozen? ⟨g, i, none⟩ = false := free_row h i

theorem Row.set {w : World} {g : Nat} {e : TypeId} {xs : List Value} (h : Row w g e xs) (i : Nat) (v : Value) : Row (w.setCell ⟨g, i, none⟩ v) g e (xs.set i v) := by
  have := heap_setCell_row h i v
  unfold Row
  rw [this]
  simp

theorem Row.owns {w : World} {g : Nat} {e : TypeId} {xs : List Value} (h : Row w g e xs) {base : Nat} (hb : base ≤ g) (hl : xs.length ≤ maxLen) : w.ownsRow base e 1 (.slice (some ⟨g, 0, none⟩) xs.length xs.length) xs.length xs :=
  ⟨by simp, .inr ⟨g, xs.length, xs.toArray, rfl, hb, h, Nat.le_refl _, hl, by simp, by simp⟩⟩

theorem Row.below {w w' : World} {g B : Nat} {e : TypeId} {xs : List Value} (h : Row w g e xs) (b : Below B w w') (hg : g < B) : Row w' g e xs := (b.block g hg).trans h

/-- A slice of bits that the call owns. -/
def OwnBits (w : World) (base : Nat) (v : Value) (l : List Bool) : Prop := w.ownsRow base 5 1 v l.length (bv l)

theorem OwnBits.lt {w : World} {base : Nat} {v : Value} {l : List Bool} (h : OwnBits w base v l) : ∀ k, v.ownBlock = some k → base ≤ k ∧ k < w.heap.size := World.ownsRow.lt h

end Go.Proofs.YthcbgijmnonckaaGreat
/- The document's own Pack: bits as a string. -/
namespace Go.Proofs.YthcbgijmnonckaaGreat
open Go.RowKit Zo

theorem OwnBits.cell {w : World} {base : Nat} {v : Value} {l : List Bool} (h : OwnBits w base v l) (i : Nat) (hi : i < l.length) :
    ∃ g cap, v = .slice (some ⟨g, 0, none⟩) l.length cap ∧ base ≤ g ∧ g < w.heap.size ∧ w.cell? ⟨g, i, none⟩ = some (.int .u8 ((l[i]'hi).toNat : Int)) := by
  rcases h.2 with ⟨_, h0⟩ | ⟨g, cap, cur, rfl, hb, hg, _, _, _, ht⟩
  · omega
  · refine ⟨g, cap, rfl, hb, row_lt hg, ?_⟩
    rw [cell_of_row w g i _ _ _ hg]
    have : (bv l)[i]? = some (.int .u8 ((l[i]'hi).toNat : Int)) := by simp [bv, hi]
    rw [← ht, List.getElem?_take] at this
    split at this
    · simpa using this
    · cases this

theorem OwnBits.fr {S : Nat → Prop} {w w' : World} {base : Nat} {v : Value} {l : List Bool} (h : OwnBits w base v l) (f : Fr S w w') (hS : ∀ k, v.ownBlock = some k → ¬ S k) : OwnBits w' base v l := ownsRow_fr h f hS

theorem OwnBits.below {w w' : World} {base B : Nat} {v : Value} {l : List Bool} (h : OwnBits w base v l) (f : Below B w w') (hB : w.heap.size ≤ B) : OwnBits w' base v l :=
  h.fr (S := fun k => B ≤ k) ⟨f.os, f.tape, f.output, f.size, fun k _ hn => f.block k (by omega)⟩ (fun k e => by have := h.lt k e; omega)

end Go.Proofs.YthcbgijmnonckaaGreat
/- The document's own Reader of bits, call by call. -/
namespace Go.Proofs.YthcbgijmnonckaaGreat
open Go.RowKit Zo

/-- Bits as a function of the place. -/
def fl (l : List Bool) (i : Nat) : Bool := l.getD i false

/-- Block b is the document's Reader of the bits l, at place p. -/
def RRd (w : World) (base b : Nat) (l : List Bool) (p : Nat) : Prop :=
  ∃ g cap, w.heap[b]? = some (.cells #[.slice (some ⟨g, 0, none⟩) l.length cap, .int .i64 (p : Int)] 57 (0,0)) ∧ base ≤ b ∧ OwnBits w base (.slice (some ⟨g, 0, none⟩) l.length cap) l ∧ p ≤ l.length

def RRPost (w : World) (base b : Nat) (l : List Bool) (p : Nat) (w' : World) : Prop := RRd w' base b l p ∧ Fr (fun k => k = b) w w'

theorem RRd.move {w : World} {base b : Nat} {l : List Bool} {p : Nat} (h : RRd w base b l p) (q : Nat) (hq : q ≤ l.length) : RRPost w base b l q (w.setCell ⟨b, 1, none⟩ (.int .i64 (q : Int))) := by
  obtain ⟨g, cap, hr, hb, ho, _⟩ := h
  exact ⟨⟨g, cap, (heap_setCell_row hr 1 _).trans (by simp), hb, ownsRow_setCell ho (ownsRow_ne ho hr (by decide)) 1 _, hq⟩, Fr.setCell (S := fun k => k = b) (Fr.refl _ _) (fun _ => rfl) _⟩

theorem RRPost.drewN {w w' : World} {base b : Nat} {l : List Bool} {p : Nat} (h : RRPost w base b l p w') (n : Nat) : RRPost w base b l p (w'.drewN n) := ⟨h.1, Fr.drewN h.2 n⟩

theorem RRPost.refl {w : World} {base b : Nat} {l : List Bool} {p : Nat} (h : RRd w base b l p) (n : Nat) : RRPost w base b l p (w.drewN n) := ⟨h, Fr.drewN (Fr.refl _ _) n⟩

theorem RRPost.chain {w w1 w2 : World} {base b : Nat} {l : List Bool} {p : Nat} (f1 : Fr (fun k => k = b) w w1) (h : RRPost w1 base b l p w2) : RRPost w base b l p w2 :=
  ⟨h.1, f1.trans h.2 (fun _ _ h => h)⟩

/-- Its cells. -/
theorem RRd.cells {w : World} {base b : Nat} {l : List Bool} {p : Nat} (h : RRd w base b l p) : ∃ g cap, w.cell? ⟨b, 0, none⟩ = some (.slice (some ⟨g, 0, none⟩) l.length cap) ∧ w.cell? ⟨b, 1, none⟩ = some (.int .i64 (p : Int)) ∧ w.frozen? ⟨b, 1, none⟩ = false ∧ p ≤ l.length ∧
    (∀ i, i < l.length → w.cell? ⟨g, i, none⟩ = some (.int .u8 ((fl l i).toNat : Int))) := by
  obtain ⟨g, cap, hr, hb, ho, hp⟩ := h
  have c0 := cell_of_row w b 0 _ _ _ hr
  have c1 := cell_of_row w b 1 _ _ _ hr
  simp at c0 c1
  refine ⟨g, cap, c0, c1, free_row hr 1, hp, fun i hi => ?_⟩
  obtain ⟨g2, cap2, hv2, _, _, hc⟩ := ho.cell i hi
  simp only [Value.slice.injEq, Option.some.injEq, Addr.mk.injEq] at hv2
  obtain ⟨⟨rfl, _⟩, _⟩ := hv2
  rw [hc, fl, List.getD_eq_getElem?_getD, List.getElem?_eq_getElem hi]
  rfl

end Go.Proofs.YthcbgijmnonckaaGreat
/- Layer 3: slices of integers as lists, and the law's own helpers over them. -/
namespace Go.Proofs.YthcbgijmnonckaaGreat
open Go.RowKit Zo Zp

/-- From this address on lie these integers. -/
def IntRow (w : World) (a : Option Addr) (l : List Int) : Prop :=
  l ≠ [] → ∃ b o, a = some ⟨b, o, none⟩ ∧ b < w.heap.size ∧ ∀ i (h : i < l.length), w.cell? ⟨b, o + i, none⟩ = some (.int .i64 l[i])

theorem IntRow.at {w : World} {a : Option Addr} {l : List Int} (h : IntRow w a l) {i : Nat} (hi : i < l.length) :
    ∃ b o, a = some ⟨b, o, none⟩ ∧ b < w.heap.size ∧ w.cell? ⟨b, o + i, none⟩ = some (.int .i64 l[i]) := by
  obtain ⟨b, o, ha, hb, hc⟩ := h (by intro e; rw [e] at hi; simp at hi)
  exact ⟨b, o, ha, hb, hc i hi⟩

theorem IntRow.nil (w : World) (a : Option Addr) : IntRow w a [] := fun h => absurd rfl h

theorem IntRow.below {w w' : World} {a : Option Addr} {l : List Int} {B : Nat} (h : IntRow w a l) (b : Below B w w') (hB : w.heap.size ≤ B) : IntRow w' a l := by
  intro hl
  obtain ⟨g, o, ha, hb, hc⟩ := h hl
  refine ⟨g, o, ha, Nat.lt_of_lt_of_le hb b.size, fun i hi => ?_⟩
  rw [← hc i hi]
  exact b.cell (p := ⟨g, o + i, none⟩) (by show g < B; omega)

theorem IntRow.fr {S : Nat → Prop} {w w' : World} {a : Option Addr} {l : List Int} (h : IntRow w a l) (f : Fr S w w') (hS : ∀ x, a = some x → ¬ S x.block) : IntRow w' a l := by
  intro hl
  obtain ⟨g, o, ha, hb, hc⟩ := h hl
  refine ⟨g, o, ha, Nat.lt_of_lt_of_le hb f.size, fun i hi => ?_⟩
  rw [← hc i hi]
  exact World.cell?_of_block (f.block g hb (hS _ ha))

theorem IntRow.setCell {w : World} {a : Option Addr} {l : List Int} (h : IntRow w a l) {p : Addr} (hp : ∀ x, a = some x → x.block ≠ p.block) (u : Value) : IntRow (w.setCell p u) a l :=
  h.fr (S := fun k => k = p.block) (Fr.setCell (S := fun k => k = p.block) (Fr.refl _ _) (fun _ => rfl) u) hp

theorem IntRow.alloc {w : World} {a : Option Addr} {l : List Int} (h : IntRow w a l) (o : Obj) : IntRow (w.alloc o) a l :=
  h.below ((Below.refl _ _).alloc (Nat.le_refl _) o) (Nat.le_refl _)

theorem IntRow.drewN {w : World} {a : Option Addr} {l : List Int} (h : IntRow w a l) (n : Nat) : IntRow (w.drewN n) a l := h

theorem IntRow.block {w : World} {a : Option Addr} {l : List Int} (h : IntRow w a l) (hl : l ≠ []) : ∃ x, a = some x ∧ x.block < w.heap.size := by
  obtain ⟨b, o, ha, hb, _⟩ := h hl
  exact ⟨_, ha, hb⟩

def iv (l : List Int) : List Value := l.map fun x => .int .i64 x

end Go.Proofs.YthcbgijmnonckaaGreat
/- Layer 3: the law's own helpers that lend a slice, ask whether it was kept, spoil it. -/
namespace Go.Proofs.YthcbgijmnonckaaGreat
open Go.RowKit Zo Zp

theorem IntRow.take {w : World} {a : Option Addr} {l m : List Int} (h : IntRow w a (l ++ m)) : IntRow w a l := by
  intro hl
  obtain ⟨b, o, ha, hb, hc⟩ := h (by intro e; exact hl (List.append_eq_nil_iff.1 e).1)
  refine ⟨b, o, ha, hb, fun i hi => ?_⟩
  have := hc i (by rw [List.length_append]; omega)
  rwa [List.getElem_append_left hi] at this

end Go.Proofs.YthcbgijmnonckaaGreat
/- Layer 3: parameters as values; the law's SameSps; the document's own ranges. -/
namespace Go.Proofs.YthcbgijmnonckaaGreat
open Go.RowKit Zo Zp

/-- A sequence's parameters as a value; its Cycle begins at a. -/
def spsV (s : SpsN) (a : Option Addr) (cap : Nat) : Value :=
  .agg #[.int .i64 s.wide, .int .i64 s.high, .int .i64 s.fbits, .int .i64 s.ptype, .int .i64 s.pbits, .int .i64 s.nonref, .slice a s.cycle.length cap, .int .i64 s.refs, .int .i64 s.delay]

def ppsV (p : PpsN) : Value :=
  .agg #[.bool p.cabac, .bool p.weighted, .int .i64 p.bipred, .int .i64 p.qp, .int .i64 p.chroma, .bool p.constrained, .bool p.deblock, .int .i64 p.act0, .int .i64 p.act1]

theorem below_dN {B : Nat} {a w : World} (h : Below B a w) (n : Nat) : Below B a (w.drewN n) := ⟨h.os, h.tape, h.output, h.size, h.block⟩

def inB (x a b : Int) : Bool := decide (a ≤ x ∧ x ≤ b)

/-- What the document asks ahead of the Cycle's numbers, of these, behind them. -/
def may1 (wide high fbits ptype pbits nonref : Int) (cycle : List Int) : Bool := inB wide 1 8 && inB high 1 8 && inB fbits 4 8 && inB pbits 4 8 && inB ptype 0 2 && inB nonref (-1000) 1000 && decide ((cycle.length : Int) ≤ 4)
def mayC (l : List Int) : Bool := l.all fun x => inB x (-1000) 1000
def may2 (ptype pbits nonref : Int) (cycle : List Int) : Bool := ((ptype == 1) || ((nonref == 0) && ((cycle.length : Int) == 0))) && ((ptype == 0) || (pbits == 4))
def may3 (ptype refs delay : Int) : Bool := inB refs 1 8 && inB delay 0 refs && ((ptype != 2) || (delay == 0))

theorem may_all (wide high fbits ptype pbits nonref : Int) (cycle : List Int) (refs delay : Int) :
    (may1 wide high fbits ptype pbits nonref cycle && mayC cycle && may2 ptype pbits nonref cycle && may3 ptype refs delay) = decide (SpsN.may ⟨wide, high, fbits, ptype, pbits, nonref, cycle, refs, delay⟩) := by
  rw [Bool.eq_iff_iff, decide_eq_true_iff]
  simp only [may1, mayC, may2, may3, inB, SpsN.may, Bool.and_eq_true, Bool.or_eq_true, decide_eq_true_eq, List.all_eq_true, beq_iff_eq, bne_iff_ne, ne_eq]
  constructor
  · rintro ⟨⟨⟨⟨⟨⟨⟨⟨⟨h1, h2⟩, h3⟩, h4⟩, h5⟩, h6⟩, h7⟩, h8⟩, h9, h10⟩, ⟨h11, h12⟩, h13⟩
    refine ⟨h1.1, h1.2, h2.1, h2.2, h3.1, h3.2, h4.1, h4.2, h5.1, h5.2, h6.1, h6.2, by omega, h8, ?_, h10, h11.1, h11.2, h12.1, h12.2, h13⟩
    rcases h9 with h | ⟨h, h'⟩
    · exact .inl h
    · exact .inr ⟨h, List.eq_nil_of_length_eq_zero (by omega)⟩
  · rintro ⟨h1, h1', h2, h2', h3, h3', h4, h4', h5, h5', h6, h6', h7, h8, h9, h10, h11, h11', h12, h12', h13⟩
    refine ⟨⟨⟨⟨⟨⟨⟨⟨⟨⟨h1, h1'⟩, h2, h2'⟩, h3, h3'⟩, h4, h4'⟩, h5, h5'⟩, h6, h6'⟩, by omega⟩, h8⟩, ?_, h10⟩, ⟨⟨h11, h11'⟩, h12, h12'⟩, h13⟩
    rcases h9 with h | ⟨h, h'⟩
    · exact .inl h
    · exact .inr ⟨h, by rw [h']; rfl⟩

end Go.Proofs.YthcbgijmnonckaaGreat
/- Layer 3: the document's own bits of a sequence's parameters. -/
namespace Go.Proofs.YthcbgijmnonckaaGreat
open Go.RowKit Zo Zp

/-- What a call that makes bits has under way: the bits, and the box that holds its argument. -/
def Mk (W wr : World) (v : Value) (l : List Bool) (k : Nat) (cs : Array Value) (t : TypeId) : Prop :=
  OwnBits wr W.heap.size v l ∧ Below W.heap.size W wr ∧ wr.heap[k]? = some (.cells cs t (0, 0)) ∧ t ≠ 5

theorem Mk.own {W wr : World} {v : Value} {l : List Bool} {k : Nat} {cs : Array Value} {t : TypeId} (h : Mk W wr v l k cs t) : OwnBits wr W.heap.size v l := h.1
theorem Mk.cell {W wr : World} {v : Value} {l : List Bool} {k : Nat} {cs : Array Value} {t : TypeId} (h : Mk W wr v l k cs t) (i : Nat) (u : Value) (hu : cs[i]? = some u) : wr.cell? ⟨k, i, none⟩ = some u := by
  rw [cell_of_row wr k i _ _ _ h.2.2.1, hu]
theorem Mk.new {W wr w' : World} {v : Value} {l : List Bool} {k : Nat} {cs : Array Value} {t : TypeId} (h : Mk W wr v l k cs t) (b : Below wr.heap.size wr w') : Mk W w' v l k cs t :=
  ⟨h.1.below b (Nat.le_refl _), h.2.1.trans (b.mono h.2.1.size), (b.block k (row_lt h.2.2.1)).trans h.2.2.1, h.2.2.2⟩
theorem seB_le (x : Int) (h1 : -1073741823 ≤ x) (h2 : x ≤ 1073741823) : (seB x).length ≤ 61 := (ueB_length _ (foldedN_le x h1 h2)).2

end Go.Proofs.YthcbgijmnonckaaGreat
/- Plain mathematics of layer 3: readings in a row by a reader that tells 0 behind its first fault. No program is named here. -/
namespace Zp
open Zo

/-- A reader that stands at a place, or has met a fault (none): the number that it tells, and how it stands then. -/
def sUe (f : Nat → Bool) (T : Nat) : Option Nat → Nat × Option Nat
  | none => (0, none)
  | some p => match pUe f T p with
    | none => (0, none)
    | some (x, q) => (x, some q)

def sSe (f : Nat → Bool) (T : Nat) : Option Nat → Int × Option Nat
  | none => (0, none)
  | some p => match pSe f T p with
    | none => (0, none)
    | some (x, q) => (x, some q)

def sBits (f : Nat → Bool) (T n : Nat) : Option Nat → Nat × Option Nat
  | none => (0, none)
  | some p => match pBits f T p n with
    | none => (0, none)
    | some (x, q) => (x, some q)

def s1 (f : Nat → Bool) (T : Nat) : Nat × Option Nat := sUe f T (some 0)
def s2 (f : Nat → Bool) (T : Nat) : Nat × Option Nat := sUe f T (s1 f T).2
def s3 (f : Nat → Bool) (T : Nat) : Nat × Option Nat := sUe f T (s2 f T).2
def s4 (f : Nat → Bool) (T : Nat) : Nat × Option Nat := sUe f T (s3 f T).2

/-! ### A picture's parameters -/

def q1 (f : Nat → Bool) (T : Nat) := sBits f T 1 (some 0)
def q2 (f : Nat → Bool) (T : Nat) := sBits f T 1 (q1 f T).2
def q3 (f : Nat → Bool) (T : Nat) := sBits f T 2 (q2 f T).2
def q4 (f : Nat → Bool) (T : Nat) := sUe f T (q3 f T).2
def q5 (f : Nat → Bool) (T : Nat) := sSe f T (q4 f T).2
def q6 (f : Nat → Bool) (T : Nat) := sBits f T 1 (q5 f T).2
def q7 (f : Nat → Bool) (T : Nat) := sBits f T 1 (q6 f T).2
def q8 (f : Nat → Bool) (T : Nat) := sUe f T (q7 f T).2
end Zp
/- Layer 3: the document's own reader of fields, which tells 0 behind its first fault. -/
namespace Go.Proofs.YthcbgijmnonckaaGreat
open Go.RowKit Zo Zp

/-- Block b is the document's reader of fields over the Reader rb of the bits l; it stands as st says. -/
def SRd (w : World) (base b rb : Nat) (l : List Bool) (st : Option Nat) : Prop :=
  w.heap[b]? = some (.cells #[.pointer (some ⟨rb, 0, none⟩), .bool st.isNone] 123 (0, 0)) ∧ base ≤ b ∧ ∃ p, RRd w base rb l p ∧ ∀ q, st = some q → p = q

theorem RRd.block {w : World} {base b : Nat} {l : List Bool} {p : Nat} (h : RRd w base b l p) : (∃ cs, w.heap[b]? = some (.cells cs 57 (0,0))) ∧ base ≤ b := by
  obtain ⟨g, cap, hr, hb, _⟩ := h
  exact ⟨⟨_, hr⟩, hb⟩

theorem RRd.keep {S : Nat → Prop} {w w' : World} {base b : Nat} {l : List Bool} {p : Nat} (h : RRd w base b l p) (f : Fr S w w') (hb : ¬ S b) (hr5 : ∀ k cs, w.heap[k]? = some (.cells cs 5 (0,0)) → ¬ S k) : RRd w' base b l p := by
  obtain ⟨g, cap, hr, hbb, ho, hp⟩ := h
  refine ⟨g, cap, (f.block b (row_lt hr) hb).trans hr, hbb, ho.fr f (fun k e => ?_), hp⟩
  rcases ho.2 with ⟨hv, _⟩ | ⟨g2, cap2, cur, hv, _, hg, _⟩
  · cases hv
  · simp only [Value.slice.injEq, Option.some.injEq, Addr.mk.injEq] at hv
    obtain ⟨⟨rfl, _⟩, _⟩ := hv
    obtain rfl : g = k := by simpa [Value.ownBlock] using e
    exact hr5 g _ hg

theorem SRd.keep {S : Nat → Prop} {w w' : World} {base b rb : Nat} {l : List Bool} {st : Option Nat} (h : SRd w base b rb l st) (f : Fr S w w')
    (h1 : ∀ k cs, w.heap[k]? = some (.cells cs 123 (0,0)) → ¬ S k) (h2 : ∀ k cs, w.heap[k]? = some (.cells cs 57 (0,0)) → ¬ S k) (h3 : ∀ k cs, w.heap[k]? = some (.cells cs 5 (0,0)) → ¬ S k) : SRd w' base b rb l st := by
  obtain ⟨hr, hb, p, hp, hq⟩ := h
  obtain ⟨⟨cs, hcs⟩, _⟩ := hp.block
  exact ⟨(f.block b (row_lt hr) (h1 b _ hr)).trans hr, hb, p, hp.keep f (h2 rb _ hcs) h3, hq⟩

def SPost (w : World) (base b rb : Nat) (l : List Bool) (v : Value) (st : Option Nat) (e : Ending) (w' : World) : Prop :=
  e = .returned v ∧ SRd w' base b rb l st ∧ Fr (fun k => k = b ∨ k = rb) w w'

/-- Behind a call of the Reader beneath: the flag is laid anew. -/
theorem SRd.lay {w w1 : World} {base b rb : Nat} {l : List Bool} {p q : Nat} (h : SRd w base b rb l (some p)) (r : RRPost w base rb l q w1) (st : Option Nat) (hst : ∀ x, st = some x → x = q) :
    SRd (w1.setCell ⟨b, 1, none⟩ (.bool st.isNone)) base b rb l st ∧ Fr (fun k => k = b ∨ k = rb) w (w1.setCell ⟨b, 1, none⟩ (.bool st.isNone)) ∧ w1.cell? ⟨b, 1, none⟩ = some (.bool false) ∧ w1.frozen? ⟨b, 1, none⟩ = false := by
  obtain ⟨hr, hb, p0, hp, _⟩ := h
  obtain ⟨⟨cs, hcs⟩, _⟩ := hp.block
  have hne : b ≠ rb := fun e => by rw [e, hcs] at hr; simp at hr
  have hr1 := (r.2.block b (row_lt hr) hne).trans hr
  have c1 := cell_of_row w1 b 1 _ _ _ hr1
  simp at c1
  refine ⟨⟨(heap_setCell_row hr1 1 _).trans (by simp), hb, q, r.1.keep (S := fun k => k = b) (Fr.setCell (S := fun k => k = b) (Fr.refl _ _) (fun _ => rfl) _) (Ne.symm hne) (fun k cs hk e => by rw [e, hr1] at hk; simp at hk), fun x hx => (hst x hx).symm⟩, ?_, c1, free_row hr1 1⟩
  exact (r.2.mono (fun _ _ h => .inr h)).setCell (fun _ => .inl rfl) _

theorem rdBits_nat (f : Nat → Bool) (T p n : Nat) (hn : n ≤ 32) : rdBits f T p (n : Int) = if T - p < n then (0, 100, p) else (val (win f p n), 0, p + n) := by
  unfold rdBits
  rw [if_neg (show ¬ ((n : Int) < 0 ∨ 32 < (n : Int)) by omega)]
  by_cases h : T - p < n
  · rw [if_pos h, if_pos (by omega)]
  · rw [if_neg h, if_neg (by omega), Int.toNat_natCast]

end Go.Proofs.YthcbgijmnonckaaGreat
