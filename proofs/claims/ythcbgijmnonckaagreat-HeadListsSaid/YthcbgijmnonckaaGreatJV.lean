/- Layer 4: the program's Put. -/
import Derived.Test.YthcbgijmnonckaaGreatJU
import Derived.Test.YthcbgijmnonckaaGreatJO
import Derived.Test.YthcbgijmnonckaaGreatJP
namespace Go.Proofs.YthcbgijmnonckaaGreat
open Go.RowKit Zo Zp
set_option linter.unusedVariables false
set_option linter.unusedSimpArgs false

def pq_o0 : Oper := { dst := some 22, op := Op.load 87 (Operand.tmp 13), type := 87, pos := "head.go:23", after := #[], guard := none }
def pq_o1 : Oper := { dst := some 23, op := Op.call { callee := Callee.value (Operand.func 39), args := #[Operand.tmp 22], argTypes := #[87] }, type := 4, pos := "head.go:23", after := #[{ on := 0, ground := Ground.data }], guard := none }
def pq_o2 : Oper := { dst := some 24, op := Op.unOp UnOp.not 4 (Operand.tmp 23), type := 4, pos := "head.go:23", after := #[{ on := 1, ground := Ground.data }], guard := none }
def pq_o3 : Oper := { dst := some 25, op := Op.move (Operand.tmp 24), type := 4, pos := "head.go:23", after := #[{ on := 2, ground := Ground.data }, { on := 1, ground := Ground.chain }], guard := none }
def pq_o4 : Oper := { dst := some 26, op := Op.load 87 (Operand.tmp 13), type := 87, pos := "head.go:23", after := #[{ on := 3, ground := Ground.guard }], guard := some (3, false) }
def pq_o5 : Oper := { dst := some 27, op := Op.load 26 (Operand.tmp 7), type := 26, pos := "head.go:23", after := #[{ on := 3, ground := Ground.guard }], guard := some (3, false) }
def pq_o6 : Oper := { dst := some 28, op := Op.call { callee := Callee.value (Operand.func 40), args := #[Operand.tmp 26, Operand.tmp 27], argTypes := #[87, 26] }, type := 4, pos := "head.go:23", after := #[{ on := 4, ground := Ground.data }, { on := 5, ground := Ground.data }, { on := 3, ground := Ground.chain }, { on := 3, ground := Ground.guard }], guard := some (3, false) }
def pq_o7 : Oper := { dst := some 29, op := Op.unOp UnOp.not 4 (Operand.tmp 28), type := 4, pos := "head.go:23", after := #[{ on := 6, ground := Ground.data }, { on := 3, ground := Ground.guard }], guard := some (3, false) }
def pq_o8 : Oper := { dst := some 30, op := Op.pick (Operand.tmp 25) (Operand.const (Value.bool true)) (Operand.tmp 29), type := 4, pos := "head.go:23", after := #[{ on := 3, ground := Ground.data }, { on := 7, ground := Ground.data }], guard := none }
def pq_ops : Array Oper := #[pq_o0, pq_o1, pq_o2, pq_o3, pq_o4, pq_o5, pq_o6, pq_o7, pq_o8]
def pq_V (ub hb : Nat) (s : SpsN) (sa : Option Addr) (scap : Nat) (p : PpsN) (ref : Int) (key : Bool) (h : HeadN) (m0 m1 q0 q1 os : Option Addr) (m0c m1c q0c q1c osc : Nat) (st mv : Bool) (x1 : Bool) (x2 : Bool) (x6 : Bool) (x7 : Bool) (x8 : Bool) : List (Bool × Value) := [(true, .agg #[.int .i64 s.wide, .int .i64 s.high, .int .i64 s.fbits, .int .i64 s.ptype, .int .i64 s.pbits, .int .i64 s.nonref, .slice sa s.cycle.length scap, .int .i64 s.refs, .int .i64 s.delay, .bool p.cabac, .bool p.weighted, .int .i64 p.bipred, .int .i64 p.qp, .int .i64 p.chroma, .bool p.constrained, .bool p.deblock, .int .i64 p.act0, .int .i64 p.act1, .int .i64 ref, .bool key]), (true, .bool x1), (true, .bool x2), (true, .bool x2), ((true && (x2 == false)), .agg #[.int .i64 s.wide, .int .i64 s.high, .int .i64 s.fbits, .int .i64 s.ptype, .int .i64 s.pbits, .int .i64 s.nonref, .slice sa s.cycle.length scap, .int .i64 s.refs, .int .i64 s.delay, .bool p.cabac, .bool p.weighted, .int .i64 p.bipred, .int .i64 p.qp, .int .i64 p.chroma, .bool p.constrained, .bool p.deblock, .int .i64 p.act0, .int .i64 p.act1, .int .i64 ref, .bool key]), ((true && (x2 == false)), .agg #[.int .i64 h.first, .int .i64 h.count, .int .i64 h.type, .int .i64 h.fnum, .int .i64 h.id, .int .i64 h.poc, .bool h.spatial, .int .i64 h.act0, .int .i64 h.act1, .slice m0 h.mods0.length m0c, .slice m1 h.mods1.length m1c, .int .i64 h.log, .int .i64 h.logc, .slice q0 h.w0.length q0c, .slice q1 h.w1.length q1c, .bool h.longkey, .slice os h.ops.length osc, .int .i64 h.qp, .bool h.off, .int .i64 h.a, .int .i64 h.b]), ((true && (x2 == false)), .bool x6), ((true && (x2 == false)), .bool x7), (true, .bool x8)]
section
set_option maxRecDepth 100000
set_option maxHeartbeats 1000000
variable {ub hb : Nat} {s : SpsN} {sa : Option Addr} {scap : Nat} {p : PpsN} {ref : Int} {key : Bool} {h : HeadN} {m0 m1 q0 q1 os : Option Addr} {m0c m1c q0c q1c osc : Nat} {st mv : Bool} {x1 : Bool} {x2 : Bool} {x6 : Bool} {x7 : Bool} {x8 : Bool} {Q : Exit → Act → World → Prop} {a0 : Act} {W0 : World}
theorem pq_s0 (X : W0.heap[ub]? = some (.cells #[.int .i64 s.wide, .int .i64 s.high, .int .i64 s.fbits, .int .i64 s.ptype, .int .i64 s.pbits, .int .i64 s.nonref, .slice sa s.cycle.length scap, .int .i64 s.refs, .int .i64 s.delay, .bool p.cabac, .bool p.weighted, .int .i64 p.bipred, .int .i64 p.qp, .int .i64 p.chroma, .bool p.constrained, .bool p.deblock, .int .i64 p.act0, .int .i64 p.act1, .int .i64 ref, .bool key] 87 (0, 0))) (A13 : a0.tmps[13]? = some (.pointer (some ⟨ub, 0, none⟩))) : StepOk Tryz.prog pq_ops Q a0 (qI W0) (qV (pq_V ub hb s sa scap p ref key h m0 m1 q0 q1 os m0c m1c q0c q1c osc st mv x1 x2 x6 x7 x8)) 0 := by
  refine stepP pq_o0 (by kernel_rfl) rfl rfl ?_
  intro a w ho hI hp hB K hK
  have t13 := (ho 13 (by kernel_rfl)).trans A13
  have e13 := eval_slot t13
  clear ho hp
  refine wp_load_mid (P := Tryz.prog) 87 (.tmp 13) rfl ub 0 e13 [.int .i64 s.wide, .int .i64 s.high, .int .i64 s.fbits, .int .i64 s.ptype, .int .i64 s.pbits, .int .i64 s.nonref, .slice sa s.cycle.length scap, .int .i64 s.refs, .int .i64 s.delay, .bool p.cabac, .bool p.weighted, .int .i64 p.bipred, .int .i64 p.qp, .int .i64 p.chroma, .bool p.constrained, .bool p.deblock, .int .i64 p.act0, .int .i64 p.act1, .int .i64 ref, .bool key] _ (fun j v hv => qcell hI X (0 + j) v (by rw [Nat.zero_add]; simpa using hv)) Tryz.underlying87 rfl (by kernel_rfl) ?_
  exact hK _ _ hI rfl
theorem pq_s1 (HST : ∀ wr : World, qI W0 wr → Calls Tryz.prog 39 #[.agg #[.int .i64 s.wide, .int .i64 s.high, .int .i64 s.fbits, .int .i64 s.ptype, .int .i64 s.pbits, .int .i64 s.nonref, .slice sa s.cycle.length scap, .int .i64 s.refs, .int .i64 s.delay, .bool p.cabac, .bool p.weighted, .int .i64 p.bipred, .int .i64 p.qp, .int .i64 p.chroma, .bool p.constrained, .bool p.deblock, .int .i64 p.act0, .int .i64 p.act1, .int .i64 ref, .bool key]] wr fun e w' => e = .returned (.bool st) ∧ Below wr.heap.size wr w') (hx : x1 = (st)) : StepOk Tryz.prog pq_ops Q a0 (qI W0) (qV (pq_V ub hb s sa scap p ref key h m0 m1 q0 q1 os m0c m1c q0c q1c osc st mv x1 x2 x6 x7 x8)) 1 := by
  refine stepP pq_o1 (by kernel_rfl) rfl rfl ?_
  intro a w ho hI hp hB K hK
  have t22 : a.tmps[22]? = some (.agg #[.int .i64 s.wide, .int .i64 s.high, .int .i64 s.fbits, .int .i64 s.ptype, .int .i64 s.pbits, .int .i64 s.nonref, .slice sa s.cycle.length scap, .int .i64 s.refs, .int .i64 s.delay, .bool p.cabac, .bool p.weighted, .int .i64 p.bipred, .int .i64 p.qp, .int .i64 p.chroma, .bool p.constrained, .bool p.deblock, .int .i64 p.act0, .int .i64 p.act1, .int .i64 ref, .bool key]) := qt (hp 0 22 (by kernel_rfl)) _ rfl rfl
  have e22 := eval_slot t22
  clear ho hp
  unfold pq_o1
  go_simp
  refine (HST w hI).mono ?_
  rintro e w' ⟨rfl, b⟩
  exact hK _ _ (hI.step b) (congrArg (Value.bool) hx.symm)
theorem pq_s2 (hx : x2 = (!x1)) : StepOk Tryz.prog pq_ops Q a0 (qI W0) (qV (pq_V ub hb s sa scap p ref key h m0 m1 q0 q1 os m0c m1c q0c q1c osc st mv x1 x2 x6 x7 x8)) 2 := by
  refine stepP pq_o2 (by kernel_rfl) rfl rfl ?_
  intro a w ho hI hp hB K hK
  have t23 : a.tmps[23]? = some (.bool x1) := qt (hp 1 23 (by kernel_rfl)) _ rfl rfl
  have e23 := eval_slot t23
  clear ho hp
  unfold pq_o2
  go_simp
  exact hK _ _ hI (congrArg (Value.bool) hx.symm)
theorem pq_s3 : StepOk Tryz.prog pq_ops Q a0 (qI W0) (qV (pq_V ub hb s sa scap p ref key h m0 m1 q0 q1 os m0c m1c q0c q1c osc st mv x1 x2 x6 x7 x8)) 3 := by
  refine stepP pq_o3 (by kernel_rfl) rfl rfl ?_
  intro a w ho hI hp hB K hK
  have t24 : a.tmps[24]? = some (.bool x2) := qt (hp 2 24 (by kernel_rfl)) _ rfl rfl
  have e24 := eval_slot t24
  clear ho hp
  unfold pq_o3
  go_simp
  exact hK _ _ hI rfl
theorem pq_s4 (X : W0.heap[ub]? = some (.cells #[.int .i64 s.wide, .int .i64 s.high, .int .i64 s.fbits, .int .i64 s.ptype, .int .i64 s.pbits, .int .i64 s.nonref, .slice sa s.cycle.length scap, .int .i64 s.refs, .int .i64 s.delay, .bool p.cabac, .bool p.weighted, .int .i64 p.bipred, .int .i64 p.qp, .int .i64 p.chroma, .bool p.constrained, .bool p.deblock, .int .i64 p.act0, .int .i64 p.act1, .int .i64 ref, .bool key] 87 (0, 0))) (A13 : a0.tmps[13]? = some (.pointer (some ⟨ub, 0, none⟩))) : StepOk Tryz.prog pq_ops Q a0 (qI W0) (qV (pq_V ub hb s sa scap p ref key h m0 m1 q0 q1 os m0c m1c q0c q1c osc st mv x1 x2 x6 x7 x8)) 4 := by
  refine stepG pq_o4 3 25 (by kernel_rfl) rfl (by kernel_rfl) (by kernel_rfl) rfl rfl ?_
  intro a w ho hI hp hB K hK
  have t13 := (ho 13 (by kernel_rfl)).trans A13
  have e13 := eval_slot t13
  clear ho hp
  refine wp_load_mid (P := Tryz.prog) 87 (.tmp 13) rfl ub 0 e13 [.int .i64 s.wide, .int .i64 s.high, .int .i64 s.fbits, .int .i64 s.ptype, .int .i64 s.pbits, .int .i64 s.nonref, .slice sa s.cycle.length scap, .int .i64 s.refs, .int .i64 s.delay, .bool p.cabac, .bool p.weighted, .int .i64 p.bipred, .int .i64 p.qp, .int .i64 p.chroma, .bool p.constrained, .bool p.deblock, .int .i64 p.act0, .int .i64 p.act1, .int .i64 ref, .bool key] _ (fun j v hv => qcell hI X (0 + j) v (by rw [Nat.zero_add]; simpa using hv)) Tryz.underlying87 rfl (by kernel_rfl) ?_
  exact hK _ _ hI rfl
theorem pq_s5 (Y : W0.heap[hb]? = some (.cells #[.int .i64 h.first, .int .i64 h.count, .int .i64 h.type, .int .i64 h.fnum, .int .i64 h.id, .int .i64 h.poc, .bool h.spatial, .int .i64 h.act0, .int .i64 h.act1, .slice m0 h.mods0.length m0c, .slice m1 h.mods1.length m1c, .int .i64 h.log, .int .i64 h.logc, .slice q0 h.w0.length q0c, .slice q1 h.w1.length q1c, .bool h.longkey, .slice os h.ops.length osc, .int .i64 h.qp, .bool h.off, .int .i64 h.a, .int .i64 h.b] 26 (0, 0))) (A7 : a0.tmps[7]? = some (.pointer (some ⟨hb, 0, none⟩))) : StepOk Tryz.prog pq_ops Q a0 (qI W0) (qV (pq_V ub hb s sa scap p ref key h m0 m1 q0 q1 os m0c m1c q0c q1c osc st mv x1 x2 x6 x7 x8)) 5 := by
  refine stepG pq_o5 3 25 (by kernel_rfl) rfl (by kernel_rfl) (by kernel_rfl) rfl rfl ?_
  intro a w ho hI hp hB K hK
  have t7 := (ho 7 (by kernel_rfl)).trans A7
  have e7 := eval_slot t7
  clear ho hp
  refine wp_load_mid (P := Tryz.prog) 26 (.tmp 7) rfl hb 0 e7 [.int .i64 h.first, .int .i64 h.count, .int .i64 h.type, .int .i64 h.fnum, .int .i64 h.id, .int .i64 h.poc, .bool h.spatial, .int .i64 h.act0, .int .i64 h.act1, .slice m0 h.mods0.length m0c, .slice m1 h.mods1.length m1c, .int .i64 h.log, .int .i64 h.logc, .slice q0 h.w0.length q0c, .slice q1 h.w1.length q1c, .bool h.longkey, .slice os h.ops.length osc, .int .i64 h.qp, .bool h.off, .int .i64 h.a, .int .i64 h.b] _ (fun j v hv => qcell hI Y (0 + j) v (by rw [Nat.zero_add]; simpa using hv)) Tryz.underlying26 rfl (by kernel_rfl) ?_
  exact hK _ _ hI rfl
theorem pq_s6 (HMY : ∀ wr : World, qI W0 wr → x2 = false → Calls Tryz.prog 40 #[.agg #[.int .i64 s.wide, .int .i64 s.high, .int .i64 s.fbits, .int .i64 s.ptype, .int .i64 s.pbits, .int .i64 s.nonref, .slice sa s.cycle.length scap, .int .i64 s.refs, .int .i64 s.delay, .bool p.cabac, .bool p.weighted, .int .i64 p.bipred, .int .i64 p.qp, .int .i64 p.chroma, .bool p.constrained, .bool p.deblock, .int .i64 p.act0, .int .i64 p.act1, .int .i64 ref, .bool key], .agg #[.int .i64 h.first, .int .i64 h.count, .int .i64 h.type, .int .i64 h.fnum, .int .i64 h.id, .int .i64 h.poc, .bool h.spatial, .int .i64 h.act0, .int .i64 h.act1, .slice m0 h.mods0.length m0c, .slice m1 h.mods1.length m1c, .int .i64 h.log, .int .i64 h.logc, .slice q0 h.w0.length q0c, .slice q1 h.w1.length q1c, .bool h.longkey, .slice os h.ops.length osc, .int .i64 h.qp, .bool h.off, .int .i64 h.a, .int .i64 h.b]] wr fun e w' => e = .returned (.bool mv) ∧ Below wr.heap.size wr w') (hx : x6 = (mv)) : StepOk Tryz.prog pq_ops Q a0 (qI W0) (qV (pq_V ub hb s sa scap p ref key h m0 m1 q0 q1 os m0c m1c q0c q1c osc st mv x1 x2 x6 x7 x8)) 6 := by
  refine stepG pq_o6 3 25 (by kernel_rfl) rfl (by kernel_rfl) (by kernel_rfl) rfl rfl ?_
  intro a w ho hI hp hB K hK
  have t26 : a.tmps[26]? = some (.agg #[.int .i64 s.wide, .int .i64 s.high, .int .i64 s.fbits, .int .i64 s.ptype, .int .i64 s.pbits, .int .i64 s.nonref, .slice sa s.cycle.length scap, .int .i64 s.refs, .int .i64 s.delay, .bool p.cabac, .bool p.weighted, .int .i64 p.bipred, .int .i64 p.qp, .int .i64 p.chroma, .bool p.constrained, .bool p.deblock, .int .i64 p.act0, .int .i64 p.act1, .int .i64 ref, .bool key]) := qt (hp 4 26 (by kernel_rfl)) _ rfl hB
  have e26 := eval_slot t26
  have t27 : a.tmps[27]? = some (.agg #[.int .i64 h.first, .int .i64 h.count, .int .i64 h.type, .int .i64 h.fnum, .int .i64 h.id, .int .i64 h.poc, .bool h.spatial, .int .i64 h.act0, .int .i64 h.act1, .slice m0 h.mods0.length m0c, .slice m1 h.mods1.length m1c, .int .i64 h.log, .int .i64 h.logc, .slice q0 h.w0.length q0c, .slice q1 h.w1.length q1c, .bool h.longkey, .slice os h.ops.length osc, .int .i64 h.qp, .bool h.off, .int .i64 h.a, .int .i64 h.b]) := qt (hp 5 27 (by kernel_rfl)) _ rfl hB
  have e27 := eval_slot t27
  clear ho hp
  unfold pq_o6
  go_simp
  refine (HMY w hI (by simpa using hB)).mono ?_
  rintro e w' ⟨rfl, b⟩
  exact hK _ _ (hI.step b) (congrArg (Value.bool) hx.symm)
theorem pq_s7 (hx : x7 = (!x6)) : StepOk Tryz.prog pq_ops Q a0 (qI W0) (qV (pq_V ub hb s sa scap p ref key h m0 m1 q0 q1 os m0c m1c q0c q1c osc st mv x1 x2 x6 x7 x8)) 7 := by
  refine stepG pq_o7 3 25 (by kernel_rfl) rfl (by kernel_rfl) (by kernel_rfl) rfl rfl ?_
  intro a w ho hI hp hB K hK
  have t28 : a.tmps[28]? = some (.bool x6) := qt (hp 6 28 (by kernel_rfl)) _ rfl hB
  have e28 := eval_slot t28
  clear ho hp
  unfold pq_o7
  go_simp
  exact hK _ _ hI (congrArg (Value.bool) hx.symm)
theorem pq_s8 (hx : x8 = (x2 || x7)) : StepOk Tryz.prog pq_ops Q a0 (qI W0) (qV (pq_V ub hb s sa scap p ref key h m0 m1 q0 q1 os m0c m1c q0c q1c osc st mv x1 x2 x6 x7 x8)) 8 := by
  refine stepP pq_o8 (by kernel_rfl) rfl rfl ?_
  intro a w ho hI hp hB K hK
  have t25 : a.tmps[25]? = some (.bool x2) := qt (hp 3 25 (by kernel_rfl)) _ rfl rfl
  have e25 := eval_slot t25
  clear ho
  cases hq : x2 with
  | true =>
    have hz := hx.trans (by rw [hq]; rfl : _ = true)
    clear hp
    rw [hq] at e25
    unfold pq_o8
    go_simp
    exact hK _ _ hI (congrArg Value.bool hz.symm)
  | false =>
    have hz := hx.trans (by rw [hq]; rfl : _ = x7)
    have t29 : a.tmps[29]? = some (.bool x7) := qt (hp 7 29 (by kernel_rfl)) _ rfl (by rw [hq]; rfl)
    have e29 := eval_slot t29
    clear hp
    rw [hq] at e25
    unfold pq_o8
    go_simp
    exact hK _ _ hI (congrArg Value.bool hz.symm)
end
set_option maxRecDepth 100000 in
set_option maxHeartbeats 4000000 in
theorem pq_reg {Q : Exit → Act → World → Prop} {a : Act} {w : World} (ub hb : Nat) (s : SpsN) (sa : Option Addr) (scap : Nat) (p : PpsN) (ref : Int) (key : Bool) (h : HeadN) (m0 m1 q0 q1 os : Option Addr) (m0c m1c q0c q1c osc : Nat) (st mv : Bool) (X : w.heap[ub]? = some (.cells #[.int .i64 s.wide, .int .i64 s.high, .int .i64 s.fbits, .int .i64 s.ptype, .int .i64 s.pbits, .int .i64 s.nonref, .slice sa s.cycle.length scap, .int .i64 s.refs, .int .i64 s.delay, .bool p.cabac, .bool p.weighted, .int .i64 p.bipred, .int .i64 p.qp, .int .i64 p.chroma, .bool p.constrained, .bool p.deblock, .int .i64 p.act0, .int .i64 p.act1, .int .i64 ref, .bool key] 87 (0, 0))) (Y : w.heap[hb]? = some (.cells #[.int .i64 h.first, .int .i64 h.count, .int .i64 h.type, .int .i64 h.fnum, .int .i64 h.id, .int .i64 h.poc, .bool h.spatial, .int .i64 h.act0, .int .i64 h.act1, .slice m0 h.mods0.length m0c, .slice m1 h.mods1.length m1c, .int .i64 h.log, .int .i64 h.logc, .slice q0 h.w0.length q0c, .slice q1 h.w1.length q1c, .bool h.longkey, .slice os h.ops.length osc, .int .i64 h.qp, .bool h.off, .int .i64 h.a, .int .i64 h.b] 26 (0, 0))) (HST : ∀ wr : World, qI w wr → Calls Tryz.prog 39 #[.agg #[.int .i64 s.wide, .int .i64 s.high, .int .i64 s.fbits, .int .i64 s.ptype, .int .i64 s.pbits, .int .i64 s.nonref, .slice sa s.cycle.length scap, .int .i64 s.refs, .int .i64 s.delay, .bool p.cabac, .bool p.weighted, .int .i64 p.bipred, .int .i64 p.qp, .int .i64 p.chroma, .bool p.constrained, .bool p.deblock, .int .i64 p.act0, .int .i64 p.act1, .int .i64 ref, .bool key]] wr fun e w' => e = .returned (.bool st) ∧ Below wr.heap.size wr w') (HMY : ∀ wr : World, qI w wr → (!st) = false → Calls Tryz.prog 40 #[.agg #[.int .i64 s.wide, .int .i64 s.high, .int .i64 s.fbits, .int .i64 s.ptype, .int .i64 s.pbits, .int .i64 s.nonref, .slice sa s.cycle.length scap, .int .i64 s.refs, .int .i64 s.delay, .bool p.cabac, .bool p.weighted, .int .i64 p.bipred, .int .i64 p.qp, .int .i64 p.chroma, .bool p.constrained, .bool p.deblock, .int .i64 p.act0, .int .i64 p.act1, .int .i64 ref, .bool key], .agg #[.int .i64 h.first, .int .i64 h.count, .int .i64 h.type, .int .i64 h.fnum, .int .i64 h.id, .int .i64 h.poc, .bool h.spatial, .int .i64 h.act0, .int .i64 h.act1, .slice m0 h.mods0.length m0c, .slice m1 h.mods1.length m1c, .int .i64 h.log, .int .i64 h.logc, .slice q0 h.w0.length q0c, .slice q1 h.w1.length q1c, .bool h.longkey, .slice os h.ops.length osc, .int .i64 h.qp, .bool h.off, .int .i64 h.a, .int .i64 h.b]] wr fun e w' => e = .returned (.bool mv) ∧ Below wr.heap.size wr w') (hn : a.tmps.size = 43) (e13 : a.tmps[13]? = some (.pointer (some ⟨ub, 0, none⟩))) (e7 : a.tmps[7]? = some (.pointer (some ⟨hb, 0, none⟩)))
    (hK : ∀ w', Below w.heap.size w w' → Q .normal (Act.put (Act.put (Act.put (Act.put (Act.put (Act.put (Act.put (Act.put (Act.put a (some 22) (.agg #[.int .i64 s.wide, .int .i64 s.high, .int .i64 s.fbits, .int .i64 s.ptype, .int .i64 s.pbits, .int .i64 s.nonref, .slice sa s.cycle.length scap, .int .i64 s.refs, .int .i64 s.delay, .bool p.cabac, .bool p.weighted, .int .i64 p.bipred, .int .i64 p.qp, .int .i64 p.chroma, .bool p.constrained, .bool p.deblock, .int .i64 p.act0, .int .i64 p.act1, .int .i64 ref, .bool key])) (some 23) (.bool (st))) (some 24) (.bool (!st))) (some 25) (.bool (!st))) (some 26) (if (true && ((!st) == false)) = true then .agg #[.int .i64 s.wide, .int .i64 s.high, .int .i64 s.fbits, .int .i64 s.ptype, .int .i64 s.pbits, .int .i64 s.nonref, .slice sa s.cycle.length scap, .int .i64 s.refs, .int .i64 s.delay, .bool p.cabac, .bool p.weighted, .int .i64 p.bipred, .int .i64 p.qp, .int .i64 p.chroma, .bool p.constrained, .bool p.deblock, .int .i64 p.act0, .int .i64 p.act1, .int .i64 ref, .bool key] else undef)) (some 27) (if (true && ((!st) == false)) = true then .agg #[.int .i64 h.first, .int .i64 h.count, .int .i64 h.type, .int .i64 h.fnum, .int .i64 h.id, .int .i64 h.poc, .bool h.spatial, .int .i64 h.act0, .int .i64 h.act1, .slice m0 h.mods0.length m0c, .slice m1 h.mods1.length m1c, .int .i64 h.log, .int .i64 h.logc, .slice q0 h.w0.length q0c, .slice q1 h.w1.length q1c, .bool h.longkey, .slice os h.ops.length osc, .int .i64 h.qp, .bool h.off, .int .i64 h.a, .int .i64 h.b] else undef)) (some 28) (if (true && ((!st) == false)) = true then .bool (mv) else undef)) (some 29) (if (true && ((!st) == false)) = true then .bool (!mv) else undef)) (some 30) (.bool ((!st) || (!mv)))) w') : (Code.region 4 pq_ops false).wp Tryz.prog Q a w := by
  refine wp_region_row (ops := pq_ops) (qI w) (qV (pq_V ub hb s sa scap p ref key h m0 m1 q0 q1 os m0c m1c q0c q1c osc st mv (st) (!st) (mv) (!mv) ((!st) || (!mv)))) (by rw [hn]; kernel_rfl) ((Below.refl _ _)) (fun i hi => ?_) (fun b wz M => ?_)
  · match i, hi with | 0, _ => exact pq_s0 X e13 | 1, _ => exact pq_s1 HST rfl | 2, _ => exact pq_s2 rfl | 3, _ => exact pq_s3 | 4, _ => exact pq_s4 X e13 | 5, _ => exact pq_s5 Y e7 | 6, _ => exact pq_s6 HMY rfl | 7, _ => exact pq_s7 rfl | 8, _ => exact pq_s8 rfl | k + 9, h => exact absurd h (by simp [pq_ops])
  · have e : b = (Act.put (Act.put (Act.put (Act.put (Act.put (Act.put (Act.put (Act.put (Act.put a (some 22) (.agg #[.int .i64 s.wide, .int .i64 s.high, .int .i64 s.fbits, .int .i64 s.ptype, .int .i64 s.pbits, .int .i64 s.nonref, .slice sa s.cycle.length scap, .int .i64 s.refs, .int .i64 s.delay, .bool p.cabac, .bool p.weighted, .int .i64 p.bipred, .int .i64 p.qp, .int .i64 p.chroma, .bool p.constrained, .bool p.deblock, .int .i64 p.act0, .int .i64 p.act1, .int .i64 ref, .bool key])) (some 23) (.bool (st))) (some 24) (.bool (!st))) (some 25) (.bool (!st))) (some 26) (if (true && ((!st) == false)) = true then .agg #[.int .i64 s.wide, .int .i64 s.high, .int .i64 s.fbits, .int .i64 s.ptype, .int .i64 s.pbits, .int .i64 s.nonref, .slice sa s.cycle.length scap, .int .i64 s.refs, .int .i64 s.delay, .bool p.cabac, .bool p.weighted, .int .i64 p.bipred, .int .i64 p.qp, .int .i64 p.chroma, .bool p.constrained, .bool p.deblock, .int .i64 p.act0, .int .i64 p.act1, .int .i64 ref, .bool key] else undef)) (some 27) (if (true && ((!st) == false)) = true then .agg #[.int .i64 h.first, .int .i64 h.count, .int .i64 h.type, .int .i64 h.fnum, .int .i64 h.id, .int .i64 h.poc, .bool h.spatial, .int .i64 h.act0, .int .i64 h.act1, .slice m0 h.mods0.length m0c, .slice m1 h.mods1.length m1c, .int .i64 h.log, .int .i64 h.logc, .slice q0 h.w0.length q0c, .slice q1 h.w1.length q1c, .bool h.longkey, .slice os h.ops.length osc, .int .i64 h.qp, .bool h.off, .int .i64 h.a, .int .i64 h.b] else undef)) (some 28) (if (true && ((!st) == false)) = true then .bool (mv) else undef)) (some 29) (if (true && ((!st) == false)) = true then .bool (!mv) else undef)) (some 30) (.bool ((!st) || (!mv)))) := by
      refine act_ext (by rw [M.defers]; simp only [put_defers]) (fun d => ?_)
      simp only [put_at, put_size, hn]
      by_cases k0 : d = 22
      · subst k0
        obtain ⟨v, t, g⟩ := M.get 0 22 (by kernel_rfl)
        have := g (true, .agg #[.int .i64 s.wide, .int .i64 s.high, .int .i64 s.fbits, .int .i64 s.ptype, .int .i64 s.pbits, .int .i64 s.nonref, .slice sa s.cycle.length scap, .int .i64 s.refs, .int .i64 s.delay, .bool p.cabac, .bool p.weighted, .int .i64 p.bipred, .int .i64 p.qp, .int .i64 p.chroma, .bool p.constrained, .bool p.deblock, .int .i64 p.act0, .int .i64 p.act1, .int .i64 ref, .bool key]) rfl
        simp only at this
        rw [t, this]
        simp
      by_cases k1 : d = 23
      · subst k1
        obtain ⟨v, t, g⟩ := M.get 1 23 (by kernel_rfl)
        have := g (true, .bool (st)) rfl
        simp only at this
        rw [t, this]
        simp
      by_cases k2 : d = 24
      · subst k2
        obtain ⟨v, t, g⟩ := M.get 2 24 (by kernel_rfl)
        have := g (true, .bool (!st)) rfl
        simp only at this
        rw [t, this]
        simp
      by_cases k3 : d = 25
      · subst k3
        obtain ⟨v, t, g⟩ := M.get 3 25 (by kernel_rfl)
        have := g (true, .bool (!st)) rfl
        simp only at this
        rw [t, this]
        simp
      by_cases k4 : d = 26
      · subst k4
        obtain ⟨v, t, g⟩ := M.get 4 26 (by kernel_rfl)
        have := g ((true && ((!st) == false)), .agg #[.int .i64 s.wide, .int .i64 s.high, .int .i64 s.fbits, .int .i64 s.ptype, .int .i64 s.pbits, .int .i64 s.nonref, .slice sa s.cycle.length scap, .int .i64 s.refs, .int .i64 s.delay, .bool p.cabac, .bool p.weighted, .int .i64 p.bipred, .int .i64 p.qp, .int .i64 p.chroma, .bool p.constrained, .bool p.deblock, .int .i64 p.act0, .int .i64 p.act1, .int .i64 ref, .bool key]) rfl
        simp only at this
        rw [t, this]
        simp
      by_cases k5 : d = 27
      · subst k5
        obtain ⟨v, t, g⟩ := M.get 5 27 (by kernel_rfl)
        have := g ((true && ((!st) == false)), .agg #[.int .i64 h.first, .int .i64 h.count, .int .i64 h.type, .int .i64 h.fnum, .int .i64 h.id, .int .i64 h.poc, .bool h.spatial, .int .i64 h.act0, .int .i64 h.act1, .slice m0 h.mods0.length m0c, .slice m1 h.mods1.length m1c, .int .i64 h.log, .int .i64 h.logc, .slice q0 h.w0.length q0c, .slice q1 h.w1.length q1c, .bool h.longkey, .slice os h.ops.length osc, .int .i64 h.qp, .bool h.off, .int .i64 h.a, .int .i64 h.b]) rfl
        simp only at this
        rw [t, this]
        simp
      by_cases k6 : d = 28
      · subst k6
        obtain ⟨v, t, g⟩ := M.get 6 28 (by kernel_rfl)
        have := g ((true && ((!st) == false)), .bool (mv)) rfl
        simp only at this
        rw [t, this]
        simp
      by_cases k7 : d = 29
      · subst k7
        obtain ⟨v, t, g⟩ := M.get 7 29 (by kernel_rfl)
        have := g ((true && ((!st) == false)), .bool (!mv)) rfl
        simp only at this
        rw [t, this]
        simp
      by_cases k8 : d = 30
      · subst k8
        obtain ⟨v, t, g⟩ := M.get 8 30 (by kernel_rfl)
        have := g (true, .bool ((!st) || (!mv))) rfl
        simp only at this
        rw [t, this]
        simp
      have ho : outB pq_ops d = true := by
        simp [outB, pq_ops, pq_o0, pq_o1, pq_o2, pq_o3, pq_o4, pq_o5, pq_o6, pq_o7, pq_o8, Ne.symm k0, Ne.symm k1, Ne.symm k2, Ne.symm k3, Ne.symm k4, Ne.symm k5, Ne.symm k6, Ne.symm k7, Ne.symm k8]
      rw [M.out d ho]
      rw [if_neg (Ne.symm k8), if_neg (Ne.symm k7), if_neg (Ne.symm k6), if_neg (Ne.symm k5), if_neg (Ne.symm k4), if_neg (Ne.symm k3), if_neg (Ne.symm k2), if_neg (Ne.symm k1), if_neg (Ne.symm k0)]
    rw [e]
    exact hK wz M.inv

/-- A header's lists lie below B. -/
structure HeadLow (B : Nat) (h : HeadN) (m0 m1 q0 q1 os : Option Addr) : Prop where
  m0 : ∀ x, h.mods0 ≠ [] → m0 = some x → x.block < B
  m1 : ∀ x, h.mods1 ≠ [] → m1 = some x → x.block < B
  q0 : ∀ x, h.w0 ≠ [] → q0 = some x → x.block < B
  q1 : ∀ x, h.w1 ≠ [] → q1 = some x → x.block < B
  os : ∀ x, h.ops ≠ [] → os = some x → x.block < B

def putCtx (B kb b : Nat) (s : SpsN) (sa : Option Addr) (scap : Nat) (p : PpsN) (ref : Int) (key : Bool) : Ctx := ⟨B, kb, false, s, sa, scap, p, ref, key, wwv b, wown, fun _ _ e => by rcases e with e | e; exact .inl e; exact .inr (.inl e)⟩

theorem low_row {α : Type} {k : Nat} {cells : α → List Int} {B kb b : Nat} {s : SpsN} {sa : Option Addr} {scap : Nat} {p : PpsN} {ref : Int} {key : Bool} {w : World} {a : Option Addr} {l : List α} (h : KRow k cells w a l) (hl : ∀ x, l ≠ [] → a = some x → x.block < B) (hk : B ≤ kb) : RowOk (putCtx B kb b s sa scap p ref key) k cells w w a l :=
  ⟨h, fun x h1 h2 => ⟨.inl (hl x h1 h2), by have := hl x h1 h2; simp only [putCtx]; omega⟩, fun e => by cases e⟩

theorem may_few {h : HeadN} {s : SpsN} {p : PpsN} {ref : Int} {key : Bool} (hm : headMay h s p ref key) (C : Ctx) (hC : C.moves = false) (hp : C.p = p) : HeadIn C h := by
  obtain ⟨ms, mp, mr, mf, ml0, ml1, mw, mk, me⟩ := hm
  have n : ∀ {P : Prop}, C.moves = true → P := fun e => by rw [hC] at e; cases e
  have few : ∀ {act : Int} {l : List ModN} {is : Bool}, mayList act l is → l.length ≤ 16 ∧ act ≤ 8 := fun {act l is} hl => by
    unfold mayList at hl
    split at hl
    · exact ⟨hl.2.1, hl.1.2⟩
    · rw [hl.1, hl.2]; exact ⟨by simp, by omega⟩
  have f0 := few ml0
  have f1 := few ml1
  have hw : h.w0.length ≤ 16 ∧ h.w1.length ≤ 16 := by
    unfold mayWeights at mw
    split at mw
    · exact ⟨by omega, by omega⟩
    · obtain ⟨_, _, e1, e2⟩ := mw
      rw [e1, e2]; exact ⟨by simp, by simp⟩
  refine ⟨n, n, n, n, n, f0.1, f1.1, hw.1, hw.2, mk.2.2.1, fun _ e => ?_⟩
  rw [hp] at e
  rw [mayWeights, if_pos e] at mw
  exact ⟨by omega, by omega⟩

theorem putNil_any (w : World) (s : SpsN) (sa : Option Addr) (scap : Nat) (p : PpsN) (ref : Int) (key : Bool) (h : HeadN) (m0 m1 q0 q1 os : Option Addr) (m0c m1c q0c q1c osc : Nat) : Calls Tryz.prog 13 #[.pointer none, .agg #[.int .i64 h.first, .int .i64 h.count, .int .i64 h.type, .int .i64 h.fnum, .int .i64 h.id, .int .i64 h.poc, .bool h.spatial, .int .i64 h.act0, .int .i64 h.act1, .slice m0 h.mods0.length m0c, .slice m1 h.mods1.length m1c, .int .i64 h.log, .int .i64 h.logc, .slice q0 h.w0.length q0c, .slice q1 h.w1.length q1c, .bool h.longkey, .slice os h.ops.length osc, .int .i64 h.qp, .bool h.off, .int .i64 h.a, .int .i64 h.b], .agg #[.int .i64 s.wide, .int .i64 s.high, .int .i64 s.fbits, .int .i64 s.ptype, .int .i64 s.pbits, .int .i64 s.nonref, .slice sa s.cycle.length scap, .int .i64 s.refs, .int .i64 s.delay], .agg #[.bool p.cabac, .bool p.weighted, .int .i64 p.bipred, .int .i64 p.qp, .int .i64 p.chroma, .bool p.constrained, .bool p.deblock, .int .i64 p.act0, .int .i64 p.act1], .int .i64 ref, .bool key] w fun e w' => e = .returned (.int .i64 1) ∧ Below w.heap.size w w' := by
  obtain ⟨r1, r2, r3, B3, z3⟩ := boxes3 w #[.int .i64 h.first, .int .i64 h.count, .int .i64 h.type, .int .i64 h.fnum, .int .i64 h.id, .int .i64 h.poc, .bool h.spatial, .int .i64 h.act0, .int .i64 h.act1, .slice m0 h.mods0.length m0c, .slice m1 h.mods1.length m1c, .int .i64 h.log, .int .i64 h.logc, .slice q0 h.w0.length q0c, .slice q1 h.w1.length q1c, .bool h.longkey, .slice os h.ops.length osc, .int .i64 h.qp, .bool h.off, .int .i64 h.a, .int .i64 h.b] #[.int .i64 s.wide, .int .i64 s.high, .int .i64 s.fbits, .int .i64 s.ptype, .int .i64 s.pbits, .int .i64 s.nonref, .slice sa s.cycle.length scap, .int .i64 s.refs, .int .i64 s.delay] #[.bool p.cabac, .bool p.weighted, .int .i64 p.bipred, .int .i64 p.qp, .int .i64 p.chroma, .bool p.constrained, .bool p.deblock, .int .i64 p.act0, .int .i64 p.act1] 26 29 31
  have BB := Lib.hid B3
  clear r1 r2 r3 B3 z3
  go_enter Tryz.func13, Tryz.ntmps13
  go_wp2_with fail
  go_ret
  exact ⟨rfl, BB.out⟩

set_option maxRecDepth 100000 in
set_option maxHeartbeats 4000000 in
theorem putNo_any (w : World) (wb : Addr) (s : SpsN) (sa : Option Addr) (scap : Nat) (p : PpsN) (ref : Int) (key : Bool) (h : HeadN) (m0 m1 q0 q1 os : Option Addr) (m0c m1c q0c q1c osc : Nat) (hs : IntRow w sa s.cycle) (hl : s.cycle.length ≤ 1000000000) (R : HeadRows w h m0 m1 q0 q1 os) (hm : ¬ headMay h s p ref key) :
    Calls Tryz.prog 13 #[.pointer (some wb), .agg #[.int .i64 h.first, .int .i64 h.count, .int .i64 h.type, .int .i64 h.fnum, .int .i64 h.id, .int .i64 h.poc, .bool h.spatial, .int .i64 h.act0, .int .i64 h.act1, .slice m0 h.mods0.length m0c, .slice m1 h.mods1.length m1c, .int .i64 h.log, .int .i64 h.logc, .slice q0 h.w0.length q0c, .slice q1 h.w1.length q1c, .bool h.longkey, .slice os h.ops.length osc, .int .i64 h.qp, .bool h.off, .int .i64 h.a, .int .i64 h.b], .agg #[.int .i64 s.wide, .int .i64 s.high, .int .i64 s.fbits, .int .i64 s.ptype, .int .i64 s.pbits, .int .i64 s.nonref, .slice sa s.cycle.length scap, .int .i64 s.refs, .int .i64 s.delay], .agg #[.bool p.cabac, .bool p.weighted, .int .i64 p.bipred, .int .i64 p.qp, .int .i64 p.chroma, .bool p.constrained, .bool p.deblock, .int .i64 p.act0, .int .i64 p.act1], .int .i64 ref, .bool key] w fun e w' => e = .returned (.int .i64 401) ∧ Below w.heap.size w w' := by
  obtain ⟨r1, r2, r3, B3, z3⟩ := boxes3 w #[.int .i64 h.first, .int .i64 h.count, .int .i64 h.type, .int .i64 h.fnum, .int .i64 h.id, .int .i64 h.poc, .bool h.spatial, .int .i64 h.act0, .int .i64 h.act1, .slice m0 h.mods0.length m0c, .slice m1 h.mods1.length m1c, .int .i64 h.log, .int .i64 h.logc, .slice q0 h.w0.length q0c, .slice q1 h.w1.length q1c, .bool h.longkey, .slice os h.ops.length osc, .int .i64 h.qp, .bool h.off, .int .i64 h.a, .int .i64 h.b] #[.int .i64 s.wide, .int .i64 s.high, .int .i64 s.fbits, .int .i64 s.ptype, .int .i64 s.pbits, .int .i64 s.nonref, .slice sa s.cycle.length scap, .int .i64 s.refs, .int .i64 s.delay] #[.bool p.cabac, .bool p.weighted, .int .i64 p.bipred, .int .i64 p.qp, .int .i64 p.chroma, .bool p.constrained, .bool p.deblock, .int .i64 p.act0, .int .i64 p.act1] 26 29 31
  have RS := Lib.hid r2
  have RP := Lib.hid r3
  have q1' := box_more r1 (.cells #[.int .i64 0, .int .i64 0, .int .i64 0, .int .i64 0, .int .i64 0, .int .i64 0, .slice none 0 0, .int .i64 0, .int .i64 0, .bool false, .bool false, .int .i64 0, .int .i64 0, .int .i64 0, .bool false, .bool false, .int .i64 0, .int .i64 0, .int .i64 0, .bool false] 87)
  have q4' := heap_alloc_last (((w.alloc (.cells #[.int .i64 h.first, .int .i64 h.count, .int .i64 h.type, .int .i64 h.fnum, .int .i64 h.id, .int .i64 h.poc, .bool h.spatial, .int .i64 h.act0, .int .i64 h.act1, .slice m0 h.mods0.length m0c, .slice m1 h.mods1.length m1c, .int .i64 h.log, .int .i64 h.logc, .slice q0 h.w0.length q0c, .slice q1 h.w1.length q1c, .bool h.longkey, .slice os h.ops.length osc, .int .i64 h.qp, .bool h.off, .int .i64 h.a, .int .i64 h.b] 26)).alloc (.cells #[.int .i64 s.wide, .int .i64 s.high, .int .i64 s.fbits, .int .i64 s.ptype, .int .i64 s.pbits, .int .i64 s.nonref, .slice sa s.cycle.length scap, .int .i64 s.refs, .int .i64 s.delay] 29)).alloc (.cells #[.bool p.cabac, .bool p.weighted, .int .i64 p.bipred, .int .i64 p.qp, .int .i64 p.chroma, .bool p.constrained, .bool p.deblock, .int .i64 p.act0, .int .i64 p.act1] 31)) (.cells #[.int .i64 0, .int .i64 0, .int .i64 0, .int .i64 0, .int .i64 0, .int .i64 0, .slice none 0 0, .int .i64 0, .int .i64 0, .bool false, .bool false, .int .i64 0, .int .i64 0, .int .i64 0, .bool false, .bool false, .int .i64 0, .int .i64 0, .int .i64 0, .bool false] 87)
  rw [z3] at q4'
  have Z4 := Lib.hid q4'
  have B4 : Below w.heap.size w ((((w.alloc (.cells #[.int .i64 h.first, .int .i64 h.count, .int .i64 h.type, .int .i64 h.fnum, .int .i64 h.id, .int .i64 h.poc, .bool h.spatial, .int .i64 h.act0, .int .i64 h.act1, .slice m0 h.mods0.length m0c, .slice m1 h.mods1.length m1c, .int .i64 h.log, .int .i64 h.logc, .slice q0 h.w0.length q0c, .slice q1 h.w1.length q1c, .bool h.longkey, .slice os h.ops.length osc, .int .i64 h.qp, .bool h.off, .int .i64 h.a, .int .i64 h.b] 26)).alloc (.cells #[.int .i64 s.wide, .int .i64 s.high, .int .i64 s.fbits, .int .i64 s.ptype, .int .i64 s.pbits, .int .i64 s.nonref, .slice sa s.cycle.length scap, .int .i64 s.refs, .int .i64 s.delay] 29)).alloc (.cells #[.bool p.cabac, .bool p.weighted, .int .i64 p.bipred, .int .i64 p.qp, .int .i64 p.chroma, .bool p.constrained, .bool p.deblock, .int .i64 p.act0, .int .i64 p.act1] 31)).alloc (.cells #[.int .i64 0, .int .i64 0, .int .i64 0, .int .i64 0, .int .i64 0, .int .i64 0, .slice none 0 0, .int .i64 0, .int .i64 0, .bool false, .bool false, .int .i64 0, .int .i64 0, .int .i64 0, .bool false, .bool false, .int .i64 0, .int .i64 0, .int .i64 0, .bool false] 87)) := B3.alloc B3.size _
  have FIN := Lib.hid (fun wz (fz : Fr (fun k => k = w.heap.size + 1 + 1 + 1) ((((w.alloc (.cells #[.int .i64 h.first, .int .i64 h.count, .int .i64 h.type, .int .i64 h.fnum, .int .i64 h.id, .int .i64 h.poc, .bool h.spatial, .int .i64 h.act0, .int .i64 h.act1, .slice m0 h.mods0.length m0c, .slice m1 h.mods1.length m1c, .int .i64 h.log, .int .i64 h.logc, .slice q0 h.w0.length q0c, .slice q1 h.w1.length q1c, .bool h.longkey, .slice os h.ops.length osc, .int .i64 h.qp, .bool h.off, .int .i64 h.a, .int .i64 h.b] 26)).alloc (.cells #[.int .i64 s.wide, .int .i64 s.high, .int .i64 s.fbits, .int .i64 s.ptype, .int .i64 s.pbits, .int .i64 s.nonref, .slice sa s.cycle.length scap, .int .i64 s.refs, .int .i64 s.delay] 29)).alloc (.cells #[.bool p.cabac, .bool p.weighted, .int .i64 p.bipred, .int .i64 p.qp, .int .i64 p.chroma, .bool p.constrained, .bool p.deblock, .int .i64 p.act0, .int .i64 p.act1] 31)).alloc (.cells #[.int .i64 0, .int .i64 0, .int .i64 0, .int .i64 0, .int .i64 0, .int .i64 0, .slice none 0 0, .int .i64 0, .int .i64 0, .bool false, .bool false, .int .i64 0, .int .i64 0, .int .i64 0, .bool false, .bool false, .int .i64 0, .int .i64 0, .int .i64 0, .bool false] 87)) wz) => (⟨B4.trans (Fr.below fz B4.size (fun k e => by omega)), (fz.block _ (row_lt q1') (by omega)).trans q1'⟩ : Below w.heap.size w wz ∧ wz.heap[w.heap.size]? = some (.cells #[.int .i64 h.first, .int .i64 h.count, .int .i64 h.type, .int .i64 h.fnum, .int .i64 h.id, .int .i64 h.poc, .bool h.spatial, .int .i64 h.act0, .int .i64 h.act1, .slice m0 h.mods0.length m0c, .slice m1 h.mods1.length m1c, .int .i64 h.log, .int .i64 h.logc, .slice q0 h.w0.length q0c, .slice q1 h.w1.length q1c, .bool h.longkey, .slice os h.ops.length osc, .int .i64 h.qp, .bool h.off, .int .i64 h.a, .int .i64 h.b] 26 (0, 0))))
  obtain ⟨sv, hsv⟩ : ∃ b, b = decide (mayStand s p ref) := ⟨_, rfl⟩
  have HST := Lib.hid (fun w0 (B0 : Below w.heap.size w w0) wr (b : qI w0 wr) => stands_is wr s sa scap p ref key ((hs.below B0 (Nat.le_refl _)).below b (Nat.le_refl _)) hl)
  rw [← hsv] at HST
  have HMY := Lib.hid (fun w0 (B0 : Below w.heap.size w w0) wr (b : qI w0 wr) (st : mayStand s p ref) => mayS_any wr s sa scap p ref key h m0 m1 q0 q1 os m0c m1c q0c q1c osc st ((R.below B0 (Nat.le_refl _)).below b (Nat.le_refl _)))
  rw [decide_eq_false hm] at HMY
  have HSV := Lib.hid hsv
  clear r1 r2 r3 B3 z3 q1' q4' B4 hs R hsv hm
  go_enter Tryz.func13, Tryz.ntmps13
  go_upto_region 4 with (first | (refine wpList_load_row rfl 29 (.tmp 8) rfl (w.heap.size + 1) rfl 29 #[.int .i64 s.wide, .int .i64 s.high, .int .i64 s.fbits, .int .i64 s.ptype, .int .i64 s.pbits, .int .i64 s.nonref, .slice sa s.cycle.length scap, .int .i64 s.refs, .int .i64 s.delay] (0, 0) _ RS.out Tryz.underlying29 rfl (by kernel_rfl) ?_) | (refine wpList_load_row rfl 31 (.tmp 9) rfl (w.heap.size + 1 + 1) rfl 31 #[.bool p.cabac, .bool p.weighted, .int .i64 p.bipred, .int .i64 p.qp, .int .i64 p.chroma, .bool p.constrained, .bool p.deblock, .int .i64 p.act0, .int .i64 p.act1] (0, 0) _ RP.out Tryz.underlying31 rfl (by kernel_rfl) ?_) | (refine wpList_store_whole rfl 87 (.tmp 13) (.tmp 21) rfl (w.heap.size + 1 + 1 + 1) #[.int .i64 s.wide, .int .i64 s.high, .int .i64 s.fbits, .int .i64 s.ptype, .int .i64 s.pbits, .int .i64 s.nonref, .slice sa s.cycle.length scap, .int .i64 s.refs, .int .i64 s.delay, .bool p.cabac, .bool p.weighted, .int .i64 p.bipred, .int .i64 p.qp, .int .i64 p.chroma, .bool p.constrained, .bool p.deblock, .int .i64 p.act0, .int .i64 p.act1, .int .i64 ref, .bool key] ?_ ?_ 87 #[.int .i64 0, .int .i64 0, .int .i64 0, .int .i64 0, .int .i64 0, .int .i64 0, .slice none 0 0, .int .i64 0, .int .i64 0, .bool false, .bool false, .int .i64 0, .int .i64 0, .int .i64 0, .bool false, .bool false, .int .i64 0, .int .i64 0, .int .i64 0, .bool false] Z4.out ?_ ?_ ?_ ?_; rfl; rfl; kernel_rfl; rfl; (simp [Value.oneCell']); intro wz hz fz))
  obtain ⟨BZ', hh⟩ := FIN.out _ fz
  have BZ := Lib.hid BZ'
  clear FIN RS RP Z4 BZ' fz
  cases sv
  · refine pq_reg (w.heap.size + 1 + 1 + 1) w.heap.size s sa scap p ref key h m0 m1 q0 q1 os m0c m1c q0c q1c osc false false hz hh (HST.out _ BZ.out) (fun _ _ e => by cases e) rfl rfl rfl (fun w' b => ?_)
    simp only [Act.put, List.setIfInBounds_toArray, List.set_cons_zero, List.set_cons_succ, Bool.and_false, Bool.and_true, Bool.false_and, Bool.true_and, beq_self_eq_true, if_true, if_false, Bool.not_true, Bool.not_false, Bool.or_false, Bool.or_true, Bool.false_or, Bool.true_or]
    go_wp2_with fail
    go_ret
    exact ⟨rfl, BZ.out.trans (b.mono BZ.out.size)⟩
  · refine pq_reg (w.heap.size + 1 + 1 + 1) w.heap.size s sa scap p ref key h m0 m1 q0 q1 os m0c m1c q0c q1c osc true false hz hh (HST.out _ BZ.out) (fun wr b _ => HMY.out _ BZ.out wr b (of_decide_eq_true HSV.out.symm)) rfl rfl rfl (fun w' b => ?_)
    simp only [Act.put, List.setIfInBounds_toArray, List.set_cons_zero, List.set_cons_succ, Bool.and_false, Bool.and_true, Bool.false_and, Bool.true_and, beq_self_eq_true, if_true, if_false, Bool.not_true, Bool.not_false, Bool.or_false, Bool.or_true, Bool.false_or, Bool.true_or]
    go_wp2_with fail
    go_ret
    exact ⟨rfl, BZ.out.trans (b.mono BZ.out.size)⟩

set_option maxRecDepth 100000 in
set_option maxHeartbeats 8000000 in
theorem putYes_any (w : World) (B wb : Nat) (wo : Option Nat) (bits : List Bool) (s : SpsN) (sa : Option Addr) (scap : Nat) (p : PpsN) (ref : Int) (key : Bool) (h : HeadN) (m0 m1 q0 q1 os : Option Addr) (m0c m1c q0c q1c osc : Nat) (hs : IntRow w sa s.cycle) (hl : s.cycle.length ≤ 1000000000) (R : HeadRows w h m0 m1 q0 q1 os) (L : HeadLow B h m0 m1 q0 q1 os) (hw : Wr w B wb wo bits) (hbits : bits.length ≤ 900000) (hm : headMay h s p ref key) :
    Calls Tryz.prog 13 #[.pointer (some ⟨wb, 0, none⟩), .agg #[.int .i64 h.first, .int .i64 h.count, .int .i64 h.type, .int .i64 h.fnum, .int .i64 h.id, .int .i64 h.poc, .bool h.spatial, .int .i64 h.act0, .int .i64 h.act1, .slice m0 h.mods0.length m0c, .slice m1 h.mods1.length m1c, .int .i64 h.log, .int .i64 h.logc, .slice q0 h.w0.length q0c, .slice q1 h.w1.length q1c, .bool h.longkey, .slice os h.ops.length osc, .int .i64 h.qp, .bool h.off, .int .i64 h.a, .int .i64 h.b], .agg #[.int .i64 s.wide, .int .i64 s.high, .int .i64 s.fbits, .int .i64 s.ptype, .int .i64 s.pbits, .int .i64 s.nonref, .slice sa s.cycle.length scap, .int .i64 s.refs, .int .i64 s.delay], .agg #[.bool p.cabac, .bool p.weighted, .int .i64 p.bipred, .int .i64 p.qp, .int .i64 p.chroma, .bool p.constrained, .bool p.deblock, .int .i64 p.act0, .int .i64 p.act1], .int .i64 ref, .bool key] w fun e w' => e = .returned (.int .i64 0) ∧ WNext w B wb (bits ++ headB h s p ref key) w' := by
  have hB : B < w.heap.size := hw.lt
  obtain ⟨r1, r2, r3, B3, z3⟩ := boxes3 w #[.int .i64 h.first, .int .i64 h.count, .int .i64 h.type, .int .i64 h.fnum, .int .i64 h.id, .int .i64 h.poc, .bool h.spatial, .int .i64 h.act0, .int .i64 h.act1, .slice m0 h.mods0.length m0c, .slice m1 h.mods1.length m1c, .int .i64 h.log, .int .i64 h.logc, .slice q0 h.w0.length q0c, .slice q1 h.w1.length q1c, .bool h.longkey, .slice os h.ops.length osc, .int .i64 h.qp, .bool h.off, .int .i64 h.a, .int .i64 h.b] #[.int .i64 s.wide, .int .i64 s.high, .int .i64 s.fbits, .int .i64 s.ptype, .int .i64 s.pbits, .int .i64 s.nonref, .slice sa s.cycle.length scap, .int .i64 s.refs, .int .i64 s.delay] #[.bool p.cabac, .bool p.weighted, .int .i64 p.bipred, .int .i64 p.qp, .int .i64 p.chroma, .bool p.constrained, .bool p.deblock, .int .i64 p.act0, .int .i64 p.act1] 26 29 31
  have RS := Lib.hid r2
  have RP := Lib.hid r3
  have q1' := box_more r1 (.cells #[.int .i64 0, .int .i64 0, .int .i64 0, .int .i64 0, .int .i64 0, .int .i64 0, .slice none 0 0, .int .i64 0, .int .i64 0, .bool false, .bool false, .int .i64 0, .int .i64 0, .int .i64 0, .bool false, .bool false, .int .i64 0, .int .i64 0, .int .i64 0, .bool false] 87)
  have q4' := heap_alloc_last (((w.alloc (.cells #[.int .i64 h.first, .int .i64 h.count, .int .i64 h.type, .int .i64 h.fnum, .int .i64 h.id, .int .i64 h.poc, .bool h.spatial, .int .i64 h.act0, .int .i64 h.act1, .slice m0 h.mods0.length m0c, .slice m1 h.mods1.length m1c, .int .i64 h.log, .int .i64 h.logc, .slice q0 h.w0.length q0c, .slice q1 h.w1.length q1c, .bool h.longkey, .slice os h.ops.length osc, .int .i64 h.qp, .bool h.off, .int .i64 h.a, .int .i64 h.b] 26)).alloc (.cells #[.int .i64 s.wide, .int .i64 s.high, .int .i64 s.fbits, .int .i64 s.ptype, .int .i64 s.pbits, .int .i64 s.nonref, .slice sa s.cycle.length scap, .int .i64 s.refs, .int .i64 s.delay] 29)).alloc (.cells #[.bool p.cabac, .bool p.weighted, .int .i64 p.bipred, .int .i64 p.qp, .int .i64 p.chroma, .bool p.constrained, .bool p.deblock, .int .i64 p.act0, .int .i64 p.act1] 31)) (.cells #[.int .i64 0, .int .i64 0, .int .i64 0, .int .i64 0, .int .i64 0, .int .i64 0, .slice none 0 0, .int .i64 0, .int .i64 0, .bool false, .bool false, .int .i64 0, .int .i64 0, .int .i64 0, .bool false, .bool false, .int .i64 0, .int .i64 0, .int .i64 0, .bool false] 87)
  rw [z3] at q4'
  have Z4 := Lib.hid q4'
  have B4 : Below w.heap.size w ((((w.alloc (.cells #[.int .i64 h.first, .int .i64 h.count, .int .i64 h.type, .int .i64 h.fnum, .int .i64 h.id, .int .i64 h.poc, .bool h.spatial, .int .i64 h.act0, .int .i64 h.act1, .slice m0 h.mods0.length m0c, .slice m1 h.mods1.length m1c, .int .i64 h.log, .int .i64 h.logc, .slice q0 h.w0.length q0c, .slice q1 h.w1.length q1c, .bool h.longkey, .slice os h.ops.length osc, .int .i64 h.qp, .bool h.off, .int .i64 h.a, .int .i64 h.b] 26)).alloc (.cells #[.int .i64 s.wide, .int .i64 s.high, .int .i64 s.fbits, .int .i64 s.ptype, .int .i64 s.pbits, .int .i64 s.nonref, .slice sa s.cycle.length scap, .int .i64 s.refs, .int .i64 s.delay] 29)).alloc (.cells #[.bool p.cabac, .bool p.weighted, .int .i64 p.bipred, .int .i64 p.qp, .int .i64 p.chroma, .bool p.constrained, .bool p.deblock, .int .i64 p.act0, .int .i64 p.act1] 31)).alloc (.cells #[.int .i64 0, .int .i64 0, .int .i64 0, .int .i64 0, .int .i64 0, .int .i64 0, .slice none 0 0, .int .i64 0, .int .i64 0, .bool false, .bool false, .int .i64 0, .int .i64 0, .int .i64 0, .bool false, .bool false, .int .i64 0, .int .i64 0, .int .i64 0, .bool false] 87)) := B3.alloc B3.size _
  have FIN := Lib.hid (fun wz (fz : Fr (fun k => k = w.heap.size + 1 + 1 + 1) ((((w.alloc (.cells #[.int .i64 h.first, .int .i64 h.count, .int .i64 h.type, .int .i64 h.fnum, .int .i64 h.id, .int .i64 h.poc, .bool h.spatial, .int .i64 h.act0, .int .i64 h.act1, .slice m0 h.mods0.length m0c, .slice m1 h.mods1.length m1c, .int .i64 h.log, .int .i64 h.logc, .slice q0 h.w0.length q0c, .slice q1 h.w1.length q1c, .bool h.longkey, .slice os h.ops.length osc, .int .i64 h.qp, .bool h.off, .int .i64 h.a, .int .i64 h.b] 26)).alloc (.cells #[.int .i64 s.wide, .int .i64 s.high, .int .i64 s.fbits, .int .i64 s.ptype, .int .i64 s.pbits, .int .i64 s.nonref, .slice sa s.cycle.length scap, .int .i64 s.refs, .int .i64 s.delay] 29)).alloc (.cells #[.bool p.cabac, .bool p.weighted, .int .i64 p.bipred, .int .i64 p.qp, .int .i64 p.chroma, .bool p.constrained, .bool p.deblock, .int .i64 p.act0, .int .i64 p.act1] 31)).alloc (.cells #[.int .i64 0, .int .i64 0, .int .i64 0, .int .i64 0, .int .i64 0, .int .i64 0, .slice none 0 0, .int .i64 0, .int .i64 0, .bool false, .bool false, .int .i64 0, .int .i64 0, .int .i64 0, .bool false, .bool false, .int .i64 0, .int .i64 0, .int .i64 0, .bool false] 87)) wz) => (⟨B4.trans (Fr.below fz B4.size (fun k e => by omega)), (fz.block _ (row_lt q1') (by omega)).trans q1'⟩ : Below w.heap.size w wz ∧ wz.heap[w.heap.size]? = some (.cells #[.int .i64 h.first, .int .i64 h.count, .int .i64 h.type, .int .i64 h.fnum, .int .i64 h.id, .int .i64 h.poc, .bool h.spatial, .int .i64 h.act0, .int .i64 h.act1, .slice m0 h.mods0.length m0c, .slice m1 h.mods1.length m1c, .int .i64 h.log, .int .i64 h.logc, .slice q0 h.w0.length q0c, .slice q1 h.w1.length q1c, .bool h.longkey, .slice os h.ops.length osc, .int .i64 h.qp, .bool h.off, .int .i64 h.a, .int .i64 h.b] 26 (0, 0))))
  obtain ⟨sv, hsv⟩ : ∃ b, b = decide (mayStand s p ref) := ⟨_, rfl⟩
  have HST := Lib.hid (fun w0 (B0 : Below w.heap.size w w0) wr (b : qI w0 wr) => stands_is wr s sa scap p ref key ((hs.below B0 (Nat.le_refl _)).below b (Nat.le_refl _)) hl)
  rw [← hsv] at HST
  have HMY := Lib.hid (fun w0 (B0 : Below w.heap.size w w0) wr (b : qI w0 wr) (st : mayStand s p ref) => mayS_any wr s sa scap p ref key h m0 m1 q0 q1 os m0c m1c q0c q1c osc st ((R.below B0 (Nat.le_refl _)).below b (Nat.le_refl _)))
  rw [decide_eq_true hm] at HMY
  have hst := headMay_stands hm
  rw [decide_eq_true hst] at hsv
  subst hsv
  have HSS := Lib.hid hst
  obtain ⟨q', hq'⟩ := puts_head hm bits 1000
  have GO := Lib.hid (fun (w2 : World) (b2 : Below w.heap.size w w2) (hh : w2.heap[w.heap.size]? = some (.cells #[.int .i64 h.first, .int .i64 h.count, .int .i64 h.type, .int .i64 h.fnum, .int .i64 h.id, .int .i64 h.poc, .bool h.spatial, .int .i64 h.act0, .int .i64 h.act1, .slice m0 h.mods0.length m0c, .slice m1 h.mods1.length m1c, .int .i64 h.log, .int .i64 h.logc, .slice q0 h.w0.length q0c, .slice q1 h.w1.length q1c, .bool h.longkey, .slice os h.ops.length osc, .int .i64 h.qp, .bool h.off, .int .i64 h.a, .int .i64 h.b] 26 (0, 0))) => by
    have hW : Wr (w2.alloc (.cells #[.int .i64 s.wide, .int .i64 s.high, .int .i64 s.fbits, .int .i64 s.ptype, .int .i64 s.pbits, .int .i64 s.nonref, .slice sa s.cycle.length scap, .int .i64 s.refs, .int .i64 s.delay, .bool p.cabac, .bool p.weighted, .int .i64 p.bipred, .int .i64 p.qp, .int .i64 p.chroma, .bool p.constrained, .bool p.deblock, .int .i64 p.act0, .int .i64 p.act1, .int .i64 ref, .bool key, wwv wb, .int .i64 0] 95)) B wb wo bits := (hw.fr (S := fun _ => False) (Fr.of_below b2) (fun _ _ e => e)).fr (S := fun _ => False) ((Fr.refl _ _).alloc _) (fun _ _ e => e)
    have kr := heap_alloc_last w2 (.cells #[.int .i64 s.wide, .int .i64 s.high, .int .i64 s.fbits, .int .i64 s.ptype, .int .i64 s.pbits, .int .i64 s.nonref, .slice sa s.cycle.length scap, .int .i64 s.refs, .int .i64 s.delay, .bool p.cabac, .bool p.weighted, .int .i64 p.bipred, .int .i64 p.qp, .int .i64 p.chroma, .bool p.constrained, .bool p.deblock, .int .i64 p.act0, .int .i64 p.act1, .int .i64 ref, .bool key, wwv wb, .int .i64 0] 95)
    have hr := box_more hh (.cells #[.int .i64 s.wide, .int .i64 s.high, .int .i64 s.fbits, .int .i64 s.ptype, .int .i64 s.pbits, .int .i64 s.nonref, .slice sa s.cycle.length scap, .int .i64 s.refs, .int .i64 s.delay, .bool p.cabac, .bool p.weighted, .int .i64 p.bipred, .int .i64 p.qp, .int .i64 p.chroma, .bool p.constrained, .bool p.deblock, .int .i64 p.act0, .int .i64 p.act1, .int .i64 ref, .bool key, wwv wb, .int .i64 0] 95)
    have z2 := b2.size
    have bw : Below w.heap.size w (w2.alloc (.cells #[.int .i64 s.wide, .int .i64 s.high, .int .i64 s.fbits, .int .i64 s.ptype, .int .i64 s.pbits, .int .i64 s.nonref, .slice sa s.cycle.length scap, .int .i64 s.refs, .int .i64 s.delay, .bool p.cabac, .bool p.weighted, .int .i64 p.bipred, .int .i64 p.qp, .int .i64 p.chroma, .bool p.constrained, .bool p.deblock, .int .i64 p.act0, .int .i64 p.act1, .int .i64 ref, .bool key, wwv wb, .int .i64 0] 95)) := b2.alloc b2.size _
    have R2 := R.below bw (Nat.le_refl _)
    have lk : w.heap.size < w2.heap.size := row_lt hh
    have st : St (putCtx B w2.heap.size wb s sa scap p ref key) (fun t : Wbits => t.2) (wway B wb) (0 + 1000) (w2.alloc (.cells #[.int .i64 s.wide, .int .i64 s.high, .int .i64 s.fbits, .int .i64 s.ptype, .int .i64 s.pbits, .int .i64 s.nonref, .slice sa s.cycle.length scap, .int .i64 s.refs, .int .i64 s.delay, .bool p.cabac, .bool p.weighted, .int .i64 p.bipred, .int .i64 p.qp, .int .i64 p.chroma, .bool p.constrained, .bool p.deblock, .int .i64 p.act0, .int .i64 p.act1, .int .i64 ref, .bool key, wwv wb, .int .i64 0] 95)) ⟨0, bits, 1000⟩ := ⟨⟨kr, by show B ≤ w2.heap.size; omega⟩, ⟨⟨wo, hW⟩, by show bits.length + 100 * 1000 ≤ 1000000; omega⟩, by show 0 + 1000 ≤ 1000; omega⟩
    have at' : At (putCtx B w2.heap.size wb s sa scap p ref key) (w2.alloc (.cells #[.int .i64 s.wide, .int .i64 s.high, .int .i64 s.fbits, .int .i64 s.ptype, .int .i64 s.pbits, .int .i64 s.nonref, .slice sa s.cycle.length scap, .int .i64 s.refs, .int .i64 s.delay, .bool p.cabac, .bool p.weighted, .int .i64 p.bipred, .int .i64 p.qp, .int .i64 p.chroma, .bool p.constrained, .bool p.deblock, .int .i64 p.act0, .int .i64 p.act1, .int .i64 ref, .bool key, wwv wb, .int .i64 0] 95)) (w2.alloc (.cells #[.int .i64 s.wide, .int .i64 s.high, .int .i64 s.fbits, .int .i64 s.ptype, .int .i64 s.pbits, .int .i64 s.nonref, .slice sa s.cycle.length scap, .int .i64 s.refs, .int .i64 s.delay, .bool p.cabac, .bool p.weighted, .int .i64 p.bipred, .int .i64 p.qp, .int .i64 p.chroma, .bool p.constrained, .bool p.deblock, .int .i64 p.act0, .int .i64 p.act1, .int .i64 ref, .bool key, wwv wb, .int .i64 0] 95)) w.heap.size h ⟨m0, m1, q0, q1, os, m0c, m1c, q0c, q1c, osc⟩ :=
      ⟨hr, by show w.heap.size ≠ w2.heap.size; omega, by show B ≤ w.heap.size; omega, row_lt hr, Fr.refl _ _, low_row R2.m0 L.m0 (by omega), low_row R2.m1 L.m1 (by omega), low_row R2.q0 L.q0 (by omega), low_row R2.q1 L.q1 (by omega), low_row R2.os L.os (by omega)⟩
    have hb := hm.1
    have c := head_any (F := writeF) (write_ok (putCtx B w2.heap.size wb s sa scap p ref key) wb rfl rfl) (w2.alloc (.cells #[.int .i64 s.wide, .int .i64 s.high, .int .i64 s.fbits, .int .i64 s.ptype, .int .i64 s.pbits, .int .i64 s.nonref, .slice sa s.cycle.length scap, .int .i64 s.refs, .int .i64 s.delay, .bool p.cabac, .bool p.weighted, .int .i64 p.bipred, .int .i64 p.qp, .int .i64 p.chroma, .bool p.constrained, .bool p.deblock, .int .i64 p.act0, .int .i64 p.act1, .int .i64 ref, .bool key, wwv wb, .int .i64 0] 95)) (w2.alloc (.cells #[.int .i64 s.wide, .int .i64 s.high, .int .i64 s.fbits, .int .i64 s.ptype, .int .i64 s.pbits, .int .i64 s.nonref, .slice sa s.cycle.length scap, .int .i64 s.refs, .int .i64 s.delay, .bool p.cabac, .bool p.weighted, .int .i64 p.bipred, .int .i64 p.qp, .int .i64 p.chroma, .bool p.constrained, .bool p.deblock, .int .i64 p.act0, .int .i64 p.act1, .int .i64 ref, .bool key, wwv wb, .int .i64 0] 95)) 0 ⟨0, bits, 1000⟩ w.heap.size h ⟨m0, m1, q0, q1, os, m0c, m1c, q0c, q1c, osc⟩ st at' (may_few hm _ rfl rfl) ⟨⟨by have := hb.2.2.2.2.1; show 0 ≤ s.fbits; omega, by have := hb.2.2.2.2.2.1; show s.fbits ≤ 32; omega⟩, by have := hb.2.2.2.2.2.2.1; show 0 ≤ s.pbits; omega, by have := hb.2.2.2.2.2.2.2.1; show s.pbits ≤ 32; omega⟩
    have hq2 : fHead writeF ((putCtx B w2.heap.size wb s sa scap p ref key)).s ((putCtx B w2.heap.size wb s sa scap p ref key)).p ((putCtx B w2.heap.size wb s sa scap p ref key)).ref ((putCtx B w2.heap.size wb s sa scap p ref key)).key h ⟨0, bits, 1000⟩ = (h, ⟨0, bits ++ headB h s p ref key, q'⟩) := hq'
    rw [hq2] at c
    refine c.mono (R' := fun e w' => e = .returned (.tuple #[]) ∧ WNext w B wb (bits ++ headB h s p ref key) w' ∧ w'.cell? ⟨w2.heap.size, 21, none⟩ = some (.int .i64 0)) ?_
    rintro e w' ⟨he, s', A', a'⟩
    obtain ⟨⟨o', w''⟩, _⟩ := s'.way
    have bel : Below B w w' := (bw.mono (by omega)).trans (Fr.below a'.fr (by simp; omega) (fun k hk => by
      rcases hk with hk | hk | ⟨hk, _⟩
      · exact Nat.le_of_not_lt (fun e => hk (.inl e))
      · rw [hk]; show B ≤ w2.heap.size; omega
      · cases hk))
    refine ⟨he, ⟨⟨o', w''⟩, bel, fun b' s0 p0 hr0 => ?_⟩, s'.k.cell 21 _ rfl⟩
    have hr2 := hr0.fr (S := fun _ => False) (Fr.of_below bw) (fun e => e)
    refine hr2.fr a'.fr ?_
    obtain ⟨⟨cs, hcs⟩, _⟩ := hr2.row
    refine not_un (.inr ⟨cs, _, hcs, fun e => ?_⟩) (fun e => ?_) (fun e => by cases e)
    · rcases e with e | e <;> exact absurd e (by decide)
    · have e' : b' = w2.heap.size := e
      rw [e', kr] at hcs
      simp at hcs)
  clear r1 r2 r3 B3 z3 q1' q4' B4 hs R hm hst hq' L hw hB
  go_enter Tryz.func13, Tryz.ntmps13
  go_upto_region 4 with (first | (refine wpList_load_row rfl 29 (.tmp 8) rfl (w.heap.size + 1) rfl 29 #[.int .i64 s.wide, .int .i64 s.high, .int .i64 s.fbits, .int .i64 s.ptype, .int .i64 s.pbits, .int .i64 s.nonref, .slice sa s.cycle.length scap, .int .i64 s.refs, .int .i64 s.delay] (0, 0) _ RS.out Tryz.underlying29 rfl (by kernel_rfl) ?_) | (refine wpList_load_row rfl 31 (.tmp 9) rfl (w.heap.size + 1 + 1) rfl 31 #[.bool p.cabac, .bool p.weighted, .int .i64 p.bipred, .int .i64 p.qp, .int .i64 p.chroma, .bool p.constrained, .bool p.deblock, .int .i64 p.act0, .int .i64 p.act1] (0, 0) _ RP.out Tryz.underlying31 rfl (by kernel_rfl) ?_) | (refine wpList_store_whole rfl 87 (.tmp 13) (.tmp 21) rfl (w.heap.size + 1 + 1 + 1) #[.int .i64 s.wide, .int .i64 s.high, .int .i64 s.fbits, .int .i64 s.ptype, .int .i64 s.pbits, .int .i64 s.nonref, .slice sa s.cycle.length scap, .int .i64 s.refs, .int .i64 s.delay, .bool p.cabac, .bool p.weighted, .int .i64 p.bipred, .int .i64 p.qp, .int .i64 p.chroma, .bool p.constrained, .bool p.deblock, .int .i64 p.act0, .int .i64 p.act1, .int .i64 ref, .bool key] ?_ ?_ 87 #[.int .i64 0, .int .i64 0, .int .i64 0, .int .i64 0, .int .i64 0, .int .i64 0, .slice none 0 0, .int .i64 0, .int .i64 0, .bool false, .bool false, .int .i64 0, .int .i64 0, .int .i64 0, .bool false, .bool false, .int .i64 0, .int .i64 0, .int .i64 0, .bool false] Z4.out ?_ ?_ ?_ ?_; rfl; rfl; kernel_rfl; rfl; (simp [Value.oneCell']); intro wz hz fz))
  obtain ⟨BZ', hh⟩ := FIN.out _ fz
  have BZ := Lib.hid BZ'
  clear FIN RS RP Z4 BZ' fz
  refine pq_reg (w.heap.size + 1 + 1 + 1) w.heap.size s sa scap p ref key h m0 m1 q0 q1 os m0c m1c q0c q1c osc true true hz hh (HST.out _ BZ.out) (fun wr b _ => HMY.out _ BZ.out wr b HSS.out) rfl rfl rfl (fun w2 b2 => ?_)
  simp only [Act.put, List.setIfInBounds_toArray, List.set_cons_zero, List.set_cons_succ, Bool.and_false, Bool.and_true, Bool.false_and, Bool.true_and, beq_self_eq_true, if_true, if_false, Bool.not_true, Bool.not_false, Bool.or_false, Bool.or_true, Bool.false_or, Bool.true_or]
  have hz2 := (b2.block _ (row_lt hz)).trans hz
  have hh2 := (b2.block _ (row_lt hh)).trans hh
  have GG := Lib.hid (GO.out w2 (BZ.out.trans (b2.mono BZ.out.size)) hh2)
  clear b2 hh hz GO
  go_wp2_with (first | (refine wpList_load_row rfl 87 (.tmp 13) rfl (w.heap.size + 1 + 1 + 1) rfl 87 #[.int .i64 s.wide, .int .i64 s.high, .int .i64 s.fbits, .int .i64 s.ptype, .int .i64 s.pbits, .int .i64 s.nonref, .slice sa s.cycle.length scap, .int .i64 s.refs, .int .i64 s.delay, .bool p.cabac, .bool p.weighted, .int .i64 p.bipred, .int .i64 p.qp, .int .i64 p.chroma, .bool p.constrained, .bool p.deblock, .int .i64 p.act0, .int .i64 p.act1, .int .i64 ref, .bool key] (0, 0) _ hz2 Tryz.underlying87 rfl (by kernel_rfl) ?_))
  refine GG.out.mono ?_
  rintro e w4 ⟨rfl, n4, c21⟩
  have NN := Lib.hid n4
  clear n4
  go_wp2_with fail
  go_ret
  exact ⟨rfl, NN.out⟩

end Go.Proofs.YthcbgijmnonckaaGreat
