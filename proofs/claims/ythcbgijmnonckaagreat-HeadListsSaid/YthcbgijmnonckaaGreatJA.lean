/- Layer 4: the program's may as one call. -/
import Derived.Test.YthcbgijmnonckaaGreatHS
import Derived.Test.YthcbgijmnonckaaGreatHU
import Derived.Test.YthcbgijmnonckaaGreatHE
import Derived.Test.YthcbgijmnonckaaGreatHB
namespace Go.Proofs.YthcbgijmnonckaaGreat
open Go.RowKit Zo Zp
set_option linter.unusedVariables false

/-- A header's lists lie in the world. -/
structure HeadRows (w : World) (h : HeadN) (m0 m1 q0 q1 os : Option Addr) : Prop where
  m0 : KRow 2 modI w m0 h.mods0
  m1 : KRow 2 modI w m1 h.mods1
  q0 : KRow 6 weightI w q0 h.w0
  q1 : KRow 6 weightI w q1 h.w1
  os : KRow 3 opI w os h.ops
  l0 : h.mods0.length ≤ 1000000000
  l1 : h.mods1.length ≤ 1000000000
  l2 : h.w0.length ≤ 1000000000
  l3 : h.w1.length ≤ 1000000000
  l4 : h.ops.length ≤ 1000000000

theorem HeadRows.below {w w' : World} {h : HeadN} {m0 m1 q0 q1 os : Option Addr} (r : HeadRows w h m0 m1 q0 q1 os) {B : Nat} (b : Below B w w') (hB : w.heap.size ≤ B) : HeadRows w' h m0 m1 q0 q1 os :=
  ⟨r.m0.below b hB, r.m1.below b hB, r.q0.below b hB, r.q1.below b hB, r.os.below b hB, r.l0, r.l1, r.l2, r.l3, r.l4⟩

set_option maxRecDepth 100000 in
theorem may_any (w : World) (s : SpsN) (sa : Option Addr) (scap : Nat) (p : PpsN) (ref : Int) (key : Bool) (h : HeadN) (m0 m1 q0 q1 os : Option Addr) (m0c m1c q0c q1c osc : Nat) (hs : s.may) (hp : p.may) (hr : inZ ref 0 3) (R : HeadRows w h m0 m1 q0 q1 os) :
    Calls Tryz.prog 40 #[.agg #[.int .i64 s.wide, .int .i64 s.high, .int .i64 s.fbits, .int .i64 s.ptype, .int .i64 s.pbits, .int .i64 s.nonref, .slice sa s.cycle.length scap, .int .i64 s.refs, .int .i64 s.delay, .bool p.cabac, .bool p.weighted, .int .i64 p.bipred, .int .i64 p.qp, .int .i64 p.chroma, .bool p.constrained, .bool p.deblock, .int .i64 p.act0, .int .i64 p.act1, .int .i64 ref, .bool key], .agg #[.int .i64 h.first, .int .i64 h.count, .int .i64 h.type, .int .i64 h.fnum, .int .i64 h.id, .int .i64 h.poc, .bool h.spatial, .int .i64 h.act0, .int .i64 h.act1, .slice m0 h.mods0.length m0c, .slice m1 h.mods1.length m1c, .int .i64 h.log, .int .i64 h.logc, .slice q0 h.w0.length q0c, .slice q1 h.w1.length q1c, .bool h.longkey, .slice os h.ops.length osc, .int .i64 h.qp, .bool h.off, .int .i64 h.a, .int .i64 h.b]] w fun e w' => e = .returned (.bool (decide (headMay h s p ref key))) ∧ Below w.heap.size w w' := by
  have hv : (decide (mayFirsts h s key) && (referB h.act0 h.mods0 (h.type == 0 || h.type == 1) && (referB h.act1 h.mods1 (h.type == 1) && (decide (mayWeights h (weighsN h.type p)) && (decide (mayMarks h ref key) && decide (mayEdges h p)))))) = decide (headMay h s p ref key) := by
    rw [refer_is, refer_is, Bool.eq_iff_iff, decide_eq_true_iff]
    simp only [Bool.and_eq_true, decide_eq_true_eq]
    unfold headMay
    have ht : mayFirsts h s key → (h.type == 0 || h.type == 1) = (h.type != 2) := by
      rintro ⟨_, _, _, ⟨a, b⟩, _⟩
      rcases (show h.type = 0 ∨ h.type = 1 ∨ h.type = 2 by omega) with e | e | e <;> rw [e] <;> rfl
    constructor
    · rintro ⟨a, b, c, d, e, g⟩
      rw [ht a] at b
      exact ⟨hs, hp, hr, a, b, c, d, e, g⟩
    · rintro ⟨_, _, _, a, b, c, d, e, g⟩
      rw [← ht a] at b
      exact ⟨a, b, c, d, e, g⟩
  rw [← hv]
  obtain ⟨u1, u2, u3, u4, u5, u6, u7, u8, _⟩ := id hs
  refine my_call w s sa scap p ref key h m0 m1 q0 q1 os m0c m1c q0c q1c osc (decide (mayFirsts h s key)) (decide (mayWeights h (weighsN h.type p))) (decide (mayMarks h ref key)) (decide (mayEdges h p)) (fun wr B => ?_) (fun wr B is => ?_) (fun wr B is => ?_) (fun wr B => ?_) (fun wr B => ?_) (fun wr B => ?_)
  · rw [← firsts_is]
    exact mb_call wr s sa scap p ref key h m0 m1 q0 q1 os m0c m1c q0c q1c osc ⟨by omega, by omega⟩ ⟨by omega, by omega⟩ ⟨by omega, by omega⟩ ⟨by omega, by omega⟩
  · have r := R.below B (Nat.le_refl _)
    exact mayRefer_any wr h.act0 h.mods0 m0 m0c is (allMod_any wr (fun x => decide x.may) h.mods0 m0 m0c r.m0 r.l0 (fun x w1 => mayMod_any w1 x))
  · have r := R.below B (Nat.le_refl _)
    exact mayRefer_any wr h.act1 h.mods1 m1 m1c is (allMod_any wr (fun x => decide x.may) h.mods1 m1 m1c r.m1 r.l1 (fun x w1 => mayMod_any w1 x))
  · rw [← weights_is]
    refine mw_call wr s sa scap p ref key h m0 m1 q0 q1 os m0c m1c q0c q1c osc (fun w2 B2 => ?_) (fun w2 B2 => ?_)
    · have r := (R.below B (Nat.le_refl _)).below B2 (Nat.le_refl _)
      exact allWeight_any w2 (fun x => decide x.may) h.w0 q0 q0c r.q0 r.l2 (fun x w1 => mayWeight_any w1 x)
    · have r := (R.below B (Nat.le_refl _)).below B2 (Nat.le_refl _)
      exact allWeight_any w2 (fun x => decide x.may) h.w1 q1 q1c r.q1 r.l3 (fun x w1 => mayWeight_any w1 x)
  · rw [← marks_is]
    refine mk_call wr s sa scap p ref key h m0 m1 q0 q1 os m0c m1c q0c q1c osc (fun w2 B2 => ?_)
    have r := (R.below B (Nat.le_refl _)).below B2 (Nat.le_refl _)
    exact allOp_any w2 (fun x => decide x.may) h.ops os osc r.os r.l4 (fun x w1 => mayOp_any w1 x)
  · rw [← end_is]
    cases hd : p.deblock <;> cases ho : h.off
    · exact mayEnd_ff wr s sa scap p ref key h h.qp h.a h.b m0 m1 q0 q1 os m0c m1c q0c q1c osc
    · exact mayEnd_ft wr s sa scap p ref key h h.qp h.a h.b m0 m1 q0 q1 os m0c m1c q0c q1c osc
    · exact mayEnd_tf wr s sa scap p ref key h h.qp h.a h.b m0 m1 q0 q1 os m0c m1c q0c q1c osc
    · exact mayEnd_tt wr s sa scap p ref key h h.qp h.a h.b m0 m1 q0 q1 os m0c m1c q0c q1c osc
end Go.Proofs.YthcbgijmnonckaaGreat
/- Layer 4: the program's stands, told what MaySps and MayPps answer. -/
namespace Go.Proofs.YthcbgijmnonckaaGreat
open Go.RowKit Zo Zp
set_option linter.unusedVariables false

set_option maxRecDepth 100000 in
set_option maxHeartbeats 8000000 in
theorem stands_any (w : World) (s : SpsN) (sa : Option Addr) (scap : Nat) (p : PpsN) (ref : Int) (key : Bool) (ms mp : Bool)
    (HS : ∀ wr : World, Below w.heap.size w wr → Calls Tryz.prog 73 #[.agg #[.int .i64 s.wide, .int .i64 s.high, .int .i64 s.fbits, .int .i64 s.ptype, .int .i64 s.pbits, .int .i64 s.nonref, .slice sa s.cycle.length scap, .int .i64 s.refs, .int .i64 s.delay]] wr fun e w' => e = .returned (.bool ms) ∧ Below wr.heap.size wr w')
    (HP : ∀ wr : World, Below w.heap.size w wr → Calls Tryz.prog 74 #[.agg #[.bool p.cabac, .bool p.weighted, .int .i64 p.bipred, .int .i64 p.qp, .int .i64 p.chroma, .bool p.constrained, .bool p.deblock, .int .i64 p.act0, .int .i64 p.act1]] wr fun e w' => e = .returned (.bool mp) ∧ Below wr.heap.size wr w') :
    Calls Tryz.prog 39 #[.agg #[.int .i64 s.wide, .int .i64 s.high, .int .i64 s.fbits, .int .i64 s.ptype, .int .i64 s.pbits, .int .i64 s.nonref, .slice sa s.cycle.length scap, .int .i64 s.refs, .int .i64 s.delay, .bool p.cabac, .bool p.weighted, .int .i64 p.bipred, .int .i64 p.qp, .int .i64 p.chroma, .bool p.constrained, .bool p.deblock, .int .i64 p.act0, .int .i64 p.act1, .int .i64 ref, .bool key]] w fun e w' => e = .returned (.bool (ms && (mp && inB ref 0 3))) ∧ Below w.heap.size w w' := by
  have HB := Lib.hid ((Below.refl w.heap.size w).alloc (Nat.le_refl _) (.cells #[.int .i64 s.wide, .int .i64 s.high, .int .i64 s.fbits, .int .i64 s.ptype, .int .i64 s.pbits, .int .i64 s.nonref, .slice sa s.cycle.length scap, .int .i64 s.refs, .int .i64 s.delay, .bool p.cabac, .bool p.weighted, .int .i64 p.bipred, .int .i64 p.qp, .int .i64 p.chroma, .bool p.constrained, .bool p.deblock, .int .i64 p.act0, .int .i64 p.act1, .int .i64 ref, .bool key] 87))
  have X := heap_alloc_last w (.cells #[.int .i64 s.wide, .int .i64 s.high, .int .i64 s.fbits, .int .i64 s.ptype, .int .i64 s.pbits, .int .i64 s.nonref, .slice sa s.cycle.length scap, .int .i64 s.refs, .int .i64 s.delay, .bool p.cabac, .bool p.weighted, .int .i64 p.bipred, .int .i64 p.qp, .int .i64 p.chroma, .bool p.constrained, .bool p.deblock, .int .i64 p.act0, .int .i64 p.act1, .int .i64 ref, .bool key] 87)
  have HSO := Lib.hid HS
  have HPO := Lib.hid HP
  clear HS HP
  cases ms
  · go_enter Tryz.func39, Tryz.ntmps39
    go_wp2_with fail
    refine (HSO.out _ HB.out).mono ?_
    rintro e w1 ⟨rfl, B1⟩
    have D1 := Lib.hid (HB.out.trans (B1.mono HB.out.size))
    clear B1
    go_wp2_with fail
    go_ret
    exact ⟨rfl, D1.out⟩
  · cases mp
    all_goals
      cases k3 : inB ref 0 3
      all_goals
        go_enter Tryz.func39, Tryz.ntmps39
        go_wp2_with fail
        refine (HSO.out _ HB.out).mono ?_
        rintro e w1 ⟨rfl, B1⟩
        have D1 := Lib.hid (HB.out.trans (B1.mono HB.out.size))
        have X1 := (B1.block w.heap.size (row_lt X)).trans X
        clear B1
        have c9 : w1.cell? ⟨w.heap.size, 9, none⟩ = some (.bool p.cabac) := cell_of_row w1 w.heap.size 9 _ _ _ X1
        have c10 : w1.cell? ⟨w.heap.size, 10, none⟩ = some (.bool p.weighted) := cell_of_row w1 w.heap.size 10 _ _ _ X1
        have c11 : w1.cell? ⟨w.heap.size, 11, none⟩ = some (.int .i64 p.bipred) := cell_of_row w1 w.heap.size 11 _ _ _ X1
        have c12 : w1.cell? ⟨w.heap.size, 12, none⟩ = some (.int .i64 p.qp) := cell_of_row w1 w.heap.size 12 _ _ _ X1
        have c13 : w1.cell? ⟨w.heap.size, 13, none⟩ = some (.int .i64 p.chroma) := cell_of_row w1 w.heap.size 13 _ _ _ X1
        have c14 : w1.cell? ⟨w.heap.size, 14, none⟩ = some (.bool p.constrained) := cell_of_row w1 w.heap.size 14 _ _ _ X1
        have c15 : w1.cell? ⟨w.heap.size, 15, none⟩ = some (.bool p.deblock) := cell_of_row w1 w.heap.size 15 _ _ _ X1
        have c16 : w1.cell? ⟨w.heap.size, 16, none⟩ = some (.int .i64 p.act0) := cell_of_row w1 w.heap.size 16 _ _ _ X1
        have c17 : w1.cell? ⟨w.heap.size, 17, none⟩ = some (.int .i64 p.act1) := cell_of_row w1 w.heap.size 17 _ _ _ X1
        go_wp2_with fail
        refine (HPO.out _ D1.out).mono ?_
        rintro e w2 ⟨rfl, B2⟩
        have D2 := Lib.hid (D1.out.trans (B2.mono D1.out.size))
        have d18 : w2.cell? ⟨w.heap.size, 18, none⟩ = some (.int .i64 ref) := cell_of_row w2 w.heap.size 18 _ _ _ ((B2.block w.heap.size (row_lt X1)).trans X1)
        clear B2 X1
        go_wp2_with (go_at_call 75; refine (within_any _ _ _ _).mono ?_; rintro e w' ⟨rfl, rfl⟩)
        go_ret
        exact ⟨ret_bool (by simp), D2.out⟩
end Go.Proofs.YthcbgijmnonckaaGreat
/- Layer 4: the walk over a header's fields as plain mathematics, whichever way the numbers go. No program is named here. -/
namespace Zp
open Zo
set_option linter.unusedVariables false

/-- What a way does to a number and to its own state: the number behind it, could it?, the state behind it. -/
structure WayFns (σ : Type) where
  plain : Int → Int → σ → Int × Bool × σ
  ue : Int → Int → σ → Int × Bool × σ
  se : Int → σ → Int × Bool × σ
  flag : Bool → σ → Bool × Bool × σ

/-- A walk's state: its fault (0: none so far) and its way's. -/
structure Ws (σ : Type) where
  c : Int
  s : σ

section
variable {σ : Type} (F : WayFns σ)

def stepW {α : Type} (r : α × Bool × σ) : α × Ws σ := (r.1, ⟨if r.2.1 then 0 else 400, r.2.2⟩)
def fPlain (x n : Int) (s : Ws σ) : Int × Ws σ := if s.c = 0 then stepW (F.plain x n s.s) else (x, s)
def fUe (x least : Int) (s : Ws σ) : Int × Ws σ := if s.c = 0 then stepW (F.ue x least s.s) else (x, s)
def fSe (x : Int) (s : Ws σ) : Int × Ws σ := if s.c = 0 then stepW (F.se x s.s) else (x, s)
def fFlag (x : Bool) (s : Ws σ) : Bool × Ws σ := if s.c = 0 then stepW (F.flag x s.s) else (x, s)
def fAsk (may : Bool) (s : Ws σ) : Ws σ := if s.c = 0 ∧ may = false then ⟨401, s.s⟩ else s

def fMany {α : Type} (item : α → Ws σ → α × Ws σ) : List α → Ws σ → List α × Ws σ
  | [], s => ([], s)
  | x :: l, s => ((item x s).1 :: (fMany item l (item x s).2).1, (fMany item l (item x s).2).2)

/-- The list that is walked: of n, where there are fewer. -/
def enough {α : Type} (zero : α) (n : Int) (l : List α) : List α := if (l.length : Int) < n then List.replicate n.toNat zero else l
def fList {α : Type} (zero : α) (item : α → Ws σ → α × Ws σ) (n : Int) (l : List α) (s : Ws σ) : List α × Ws σ :=
  if s.c = 0 then fMany item (enough zero n l) s else (l, s)
def fCounted {α : Type} (zero : α) (item : α → Ws σ → α × Ws σ) (most : Int) (l : List α) (s : Ws σ) : List α × Ws σ :=
  fList zero item (fUe F l.length 0 s).1 l (fAsk (decide ((fUe F l.length 0 s).1 ≤ most)) (fUe F l.length 0 s).2)

def ModN.zero : ModN := ⟨0, 0⟩
def OpN.zero : OpN := ⟨0, 0, 0⟩
def WeightN.zero : WeightN := ⟨0, 0, 0, 0, 0, 0⟩

def fMod (m : ModN) (s : Ws σ) : ModN × Ws σ :=
  let a := fUe F m.kind 0 s
  let b := fUe F m.v 0 a.2
  (⟨a.1, b.1⟩, b.2)

def fWeight (m : WeightN) (s : Ws σ) : WeightN × Ws σ :=
  let a := fSe F m.s0 s
  let b := fSe F m.o0 a.2
  let c := fSe F m.s1 b.2
  let d := fSe F m.o1 c.2
  let e := fSe F m.s2 d.2
  let g := fSe F m.o2 e.2
  (⟨a.1, c.1, e.1, b.1, d.1, g.1⟩, g.2)

/-- An operation of any kind has an A; a B. -/
def anyKind (k : Int) : Bool := decide (1 ≤ k ∧ k ≤ 6)
def anyA (k : Int) : Bool := anyKind k && k != 5
def anyB (k : Int) : Bool := k == 3

def fIf {α β : Type} (b : Bool) (f : α → Ws σ → β × Ws σ) (x : α) (y : β) (s : Ws σ) : β × Ws σ := if b then f x s else (y, s)

/-- The rest of an item of six numbers, from the j-th pair on. -/
def fPairs1 (m : WeightN) (s : Ws σ) : WeightN × Ws σ := ({ m with s2 := (fSe F m.s2 s).1, o2 := (fSe F m.o2 (fSe F m.s2 s).2).1 }, (fSe F m.o2 (fSe F m.s2 s).2).2)
def fPairs2 (m : WeightN) (s : Ws σ) : WeightN × Ws σ := fPairs1 F { m with s1 := (fSe F m.s1 s).1, o1 := (fSe F m.o1 (fSe F m.s1 s).2).1 } (fSe F m.o1 (fSe F m.s1 s).2).2
def fPairs3 (m : WeightN) (s : Ws σ) : WeightN × Ws σ := fPairs2 F { m with s0 := (fSe F m.s0 s).1, o0 := (fSe F m.o0 (fSe F m.s0 s).2).1 } (fSe F m.o0 (fSe F m.s0 s).2).2
def fPairs (k : Nat) (m : WeightN) (s : Ws σ) : WeightN × Ws σ := match k with
  | 0 => (m, s)
  | 1 => fPairs1 F m s
  | 2 => fPairs2 F m s
  | _ => fPairs3 F m s

theorem fPairs_all (m : WeightN) (s : Ws σ) : fPairs F 3 m s = fWeight F m s := rfl

def fOp (o : OpN) (s : Ws σ) : OpN × Ws σ :=
  let a := fUe F o.kind 0 s
  let b := fAsk (anyKind a.1) a.2
  let c := if anyA a.1 then fUe F o.a 0 b else (o.a, b)
  let d := if anyB a.1 then fUe F o.b 0 c.2 else (o.b, c.2)
  (⟨a.1, c.1, d.1⟩, d.2)

def oneFirst (t : Int) : Bool := t == 0 || t == 1

def fLists (h : HeadN) (s : Ws σ) : HeadN × Ws σ :=
  let a := if h.type == 1 then fFlag F h.spatial s else (h.spatial, s)
  let b := if oneFirst h.type then fUe F h.act0 1 a.2 else (h.act0, a.2)
  let c := if h.type == 1 then fUe F h.act1 1 b.2 else (h.act1, b.2)
  let d := fAsk (decide (b.1 ≤ 8) && decide (c.1 ≤ 8)) c.2
  let e := if oneFirst h.type then fCounted F ModN.zero (fMod F) 16 h.mods0 d else (h.mods0, d)
  let g := if h.type == 1 then fCounted F ModN.zero (fMod F) 16 h.mods1 e.2 else (h.mods1, e.2)
  ({ h with spatial := a.1, act0 := b.1, act1 := c.1, mods0 := e.1, mods1 := g.1 }, g.2)

def fWeights (h : HeadN) (s : Ws σ) : HeadN × Ws σ :=
  let a := fUe F h.log 0 s
  let b := fUe F h.logc 0 a.2
  let c := fList WeightN.zero (fWeight F) h.act0 h.w0 b.2
  let d := fList WeightN.zero (fWeight F) h.act1 h.w1 c.2
  ({ h with log := a.1, logc := b.1, w0 := c.1, w1 := d.1 }, d.2)

def fMarks (ref : Int) (key : Bool) (h : HeadN) (s : Ws σ) : HeadN × Ws σ :=
  let a := if key && decide (0 < ref) then fFlag F h.longkey s else (h.longkey, s)
  let b := if !key && decide (0 < ref) then fCounted F OpN.zero (fOp F) 16 h.ops a.2 else (h.ops, a.2)
  ({ h with longkey := a.1, ops := b.1 }, b.2)

def fEdges (h : HeadN) (s : Ws σ) : HeadN × Ws σ :=
  let a := fFlag F h.off s
  let b := if !a.1 then fSe F h.a a.2 else (h.a, a.2)
  let c := if !a.1 then fSe F h.b b.2 else (h.b, b.2)
  ({ h with off := a.1, a := b.1, b := c.1 }, c.2)

def fBegin (u : SpsN) (key : Bool) (h : HeadN) (s : Ws σ) : HeadN × Ws σ :=
  let a := fUe F h.first 0 s
  let b := fUe F h.count 1 a.2
  let c := fUe F h.type 0 b.2
  let d := fAsk (decide (c.1 ≤ 2)) c.2
  let e := fPlain F h.fnum u.fbits d
  let g := if key then fUe F h.id 0 e.2 else (h.id, e.2)
  let i := if u.ptype == 0 then fPlain F h.poc u.pbits g.2 else (h.poc, g.2)
  ({ h with first := a.1, count := b.1, type := c.1, fnum := e.1, id := g.1, poc := i.1 }, i.2)

def fEnd (p : PpsN) (h : HeadN) (s : Ws σ) : HeadN × Ws σ :=
  let a := fUe F h.qp 0 s
  if p.deblock then fEdges F { h with qp := a.1 } a.2 else ({ h with qp := a.1 }, a.2)

def fHead (u : SpsN) (p : PpsN) (ref : Int) (key : Bool) (h : HeadN) (s : Ws σ) : HeadN × Ws σ :=
  let a := fBegin F u key h s
  let b := fLists F a.1 a.2
  let c := if weighsN b.1.type p then fWeights F b.1 b.2 else b
  let d := fMarks F ref key c.1 c.2
  fEnd F p d.1 d.2

/-! ### Behind a fault nothing moves -/
section
variable {F} {s : Ws σ}
theorem fPlain_idle (h : s.c ≠ 0) (x n : Int) : fPlain F x n s = (x, s) := if_neg h
theorem fUe_idle (h : s.c ≠ 0) (x n : Int) : fUe F x n s = (x, s) := if_neg h
theorem fSe_idle (h : s.c ≠ 0) (x : Int) : fSe F x s = (x, s) := if_neg h
theorem fFlag_idle (h : s.c ≠ 0) (x : Bool) : fFlag F x s = (x, s) := if_neg h
theorem fAsk_idle (h : s.c ≠ 0) (m : Bool) : fAsk m s = s := if_neg (fun k => h k.1)
theorem fList_idle {α : Type} {zero : α} {item : α → Ws σ → α × Ws σ} (h : s.c ≠ 0) (n : Int) (l : List α) : fList zero item n l s = (l, s) := if_neg h
theorem fCounted_idle {α : Type} {zero : α} {item : α → Ws σ → α × Ws σ} (h : s.c ≠ 0) (n : Int) (l : List α) : fCounted F zero item n l s = (l, s) := by
  unfold fCounted
  rw [fUe_idle h]
  simp only
  rw [fAsk_idle h, fList_idle h]
theorem fLists_idle (h : s.c ≠ 0) (x : HeadN) : fLists F x s = (x, s) := by
  simp only [fLists, fFlag_idle h, fUe_idle h, fAsk_idle h, fCounted_idle h, ite_self]
theorem fWeights_idle (h : s.c ≠ 0) (x : HeadN) : fWeights F x s = (x, s) := by
  simp only [fWeights, fUe_idle h, fList_idle h]
theorem fMarks_idle (h : s.c ≠ 0) (ref : Int) (key : Bool) (x : HeadN) : fMarks F ref key x s = (x, s) := by
  simp only [fMarks, fFlag_idle h, fCounted_idle h, ite_self]
theorem fEdges_idle (h : s.c ≠ 0) (x : HeadN) : fEdges F x s = (x, s) := by
  simp only [fEdges, fFlag_idle h, fSe_idle h, ite_self]
theorem fEnd_idle (h : s.c ≠ 0) (p : PpsN) (x : HeadN) : fEnd F p x s = (x, s) := by
  simp only [fEnd, fUe_idle h, fEdges_idle h, ite_self]
end
end

theorem enough_length {α : Type} (zero : α) (n : Int) (l : List α) : (enough zero n l).length = l.length ∨ ((enough zero n l).length : Int) = n := by
  unfold enough
  split
  · right; rw [List.length_replicate]; omega
  · exact .inl rfl
end Zp
