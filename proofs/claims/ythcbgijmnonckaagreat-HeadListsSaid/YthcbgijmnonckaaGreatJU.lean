/- Layer 4: the program's May. -/
import Derived.Test.YthcbgijmnonckaaGreatJS
import Derived.Test.YthcbgijmnonckaaGreatHL
namespace Go.Proofs.YthcbgijmnonckaaGreat
open Go.RowKit Zo Zp
set_option linter.unusedVariables false
set_option linter.unusedSimpArgs false

def pm_o0 : Oper := { dst := some 17, op := Op.load 87 (Operand.tmp 11), type := 87, pos := "head.go:13", after := #[], guard := none }
def pm_o1 : Oper := { dst := some 18, op := Op.call { callee := Callee.value (Operand.func 39), args := #[Operand.tmp 17], argTypes := #[87] }, type := 4, pos := "head.go:13", after := #[{ on := 0, ground := Ground.data }], guard := none }
def pm_o2 : Oper := { dst := some 19, op := Op.move (Operand.tmp 18), type := 4, pos := "head.go:13", after := #[{ on := 1, ground := Ground.data }, { on := 1, ground := Ground.chain }], guard := none }
def pm_o3 : Oper := { dst := some 20, op := Op.load 87 (Operand.tmp 11), type := 87, pos := "head.go:13", after := #[{ on := 2, ground := Ground.guard }], guard := some (2, true) }
def pm_o4 : Oper := { dst := some 21, op := Op.load 26 (Operand.tmp 5), type := 26, pos := "head.go:13", after := #[{ on := 2, ground := Ground.guard }], guard := some (2, true) }
def pm_o5 : Oper := { dst := some 22, op := Op.call { callee := Callee.value (Operand.func 40), args := #[Operand.tmp 20, Operand.tmp 21], argTypes := #[87, 26] }, type := 4, pos := "head.go:13", after := #[{ on := 3, ground := Ground.data }, { on := 4, ground := Ground.data }, { on := 2, ground := Ground.chain }, { on := 2, ground := Ground.guard }], guard := some (2, true) }
def pm_o6 : Oper := { dst := some 23, op := Op.pick (Operand.tmp 19) (Operand.tmp 22) (Operand.const (Value.bool false)), type := 4, pos := "head.go:13", after := #[{ on := 2, ground := Ground.data }, { on := 5, ground := Ground.data }], guard := none }
def pm_o7 : Oper := { dst := some 10, op := Op.assign (Operand.tmp 23), type := 4, pos := "head.go:13", after := #[{ on := 6, ground := Ground.data }, { on := 5, ground := Ground.chain }, { on := 0, ground := Ground.phase }, { on := 1, ground := Ground.phase }, { on := 2, ground := Ground.phase }, { on := 3, ground := Ground.phase }, { on := 4, ground := Ground.phase }, { on := 5, ground := Ground.phase }, { on := 6, ground := Ground.phase }], guard := none }
def pm_ops : Array Oper := #[pm_o0, pm_o1, pm_o2, pm_o3, pm_o4, pm_o5, pm_o6, pm_o7]
def pm_V (ub hb : Nat) (s : SpsN) (sa : Option Addr) (scap : Nat) (p : PpsN) (ref : Int) (key : Bool) (h : HeadN) (m0 m1 q0 q1 os : Option Addr) (m0c m1c q0c q1c osc : Nat) (st mv : Bool) (x1 : Bool) (x5 : Bool) (x6 : Bool) : List (Bool × Value) := [(true, .agg #[.int .i64 s.wide, .int .i64 s.high, .int .i64 s.fbits, .int .i64 s.ptype, .int .i64 s.pbits, .int .i64 s.nonref, .slice sa s.cycle.length scap, .int .i64 s.refs, .int .i64 s.delay, .bool p.cabac, .bool p.weighted, .int .i64 p.bipred, .int .i64 p.qp, .int .i64 p.chroma, .bool p.constrained, .bool p.deblock, .int .i64 p.act0, .int .i64 p.act1, .int .i64 ref, .bool key]), (true, .bool x1), (true, .bool x1), ((true && (x1 == true)), .agg #[.int .i64 s.wide, .int .i64 s.high, .int .i64 s.fbits, .int .i64 s.ptype, .int .i64 s.pbits, .int .i64 s.nonref, .slice sa s.cycle.length scap, .int .i64 s.refs, .int .i64 s.delay, .bool p.cabac, .bool p.weighted, .int .i64 p.bipred, .int .i64 p.qp, .int .i64 p.chroma, .bool p.constrained, .bool p.deblock, .int .i64 p.act0, .int .i64 p.act1, .int .i64 ref, .bool key]), ((true && (x1 == true)), .agg #[.int .i64 h.first, .int .i64 h.count, .int .i64 h.type, .int .i64 h.fnum, .int .i64 h.id, .int .i64 h.poc, .bool h.spatial, .int .i64 h.act0, .int .i64 h.act1, .slice m0 h.mods0.length m0c, .slice m1 h.mods1.length m1c, .int .i64 h.log, .int .i64 h.logc, .slice q0 h.w0.length q0c, .slice q1 h.w1.length q1c, .bool h.longkey, .slice os h.ops.length osc, .int .i64 h.qp, .bool h.off, .int .i64 h.a, .int .i64 h.b]), ((true && (x1 == true)), .bool x5), (true, .bool x6), (true, .bool x6)]
section
set_option maxRecDepth 100000
set_option maxHeartbeats 1000000
variable {ub hb : Nat} {s : SpsN} {sa : Option Addr} {scap : Nat} {p : PpsN} {ref : Int} {key : Bool} {h : HeadN} {m0 m1 q0 q1 os : Option Addr} {m0c m1c q0c q1c osc : Nat} {st mv : Bool} {x1 : Bool} {x5 : Bool} {x6 : Bool} {Q : Exit → Act → World → Prop} {a0 : Act} {W0 : World}
theorem pm_s0 (X : W0.heap[ub]? = some (.cells #[.int .i64 s.wide, .int .i64 s.high, .int .i64 s.fbits, .int .i64 s.ptype, .int .i64 s.pbits, .int .i64 s.nonref, .slice sa s.cycle.length scap, .int .i64 s.refs, .int .i64 s.delay, .bool p.cabac, .bool p.weighted, .int .i64 p.bipred, .int .i64 p.qp, .int .i64 p.chroma, .bool p.constrained, .bool p.deblock, .int .i64 p.act0, .int .i64 p.act1, .int .i64 ref, .bool key] 87 (0, 0))) (A11 : a0.tmps[11]? = some (.pointer (some ⟨ub, 0, none⟩))) : StepOk Tryz.prog pm_ops Q a0 (qI W0) (qV (pm_V ub hb s sa scap p ref key h m0 m1 q0 q1 os m0c m1c q0c q1c osc st mv x1 x5 x6)) 0 := by
  refine stepP pm_o0 (by kernel_rfl) rfl rfl ?_
  intro a w ho hI hp hB K hK
  have t11 := (ho 11 (by kernel_rfl)).trans A11
  have e11 := eval_slot t11
  clear ho hp
  refine wp_load_mid (P := Tryz.prog) 87 (.tmp 11) rfl ub 0 e11 [.int .i64 s.wide, .int .i64 s.high, .int .i64 s.fbits, .int .i64 s.ptype, .int .i64 s.pbits, .int .i64 s.nonref, .slice sa s.cycle.length scap, .int .i64 s.refs, .int .i64 s.delay, .bool p.cabac, .bool p.weighted, .int .i64 p.bipred, .int .i64 p.qp, .int .i64 p.chroma, .bool p.constrained, .bool p.deblock, .int .i64 p.act0, .int .i64 p.act1, .int .i64 ref, .bool key] _ (fun j v hv => qcell hI X (0 + j) v (by rw [Nat.zero_add]; simpa using hv)) Tryz.underlying87 rfl (by kernel_rfl) ?_
  exact hK _ _ hI rfl
theorem pm_s1 (HST : ∀ wr : World, qI W0 wr → Calls Tryz.prog 39 #[.agg #[.int .i64 s.wide, .int .i64 s.high, .int .i64 s.fbits, .int .i64 s.ptype, .int .i64 s.pbits, .int .i64 s.nonref, .slice sa s.cycle.length scap, .int .i64 s.refs, .int .i64 s.delay, .bool p.cabac, .bool p.weighted, .int .i64 p.bipred, .int .i64 p.qp, .int .i64 p.chroma, .bool p.constrained, .bool p.deblock, .int .i64 p.act0, .int .i64 p.act1, .int .i64 ref, .bool key]] wr fun e w' => e = .returned (.bool st) ∧ Below wr.heap.size wr w') (hx : x1 = (st)) : StepOk Tryz.prog pm_ops Q a0 (qI W0) (qV (pm_V ub hb s sa scap p ref key h m0 m1 q0 q1 os m0c m1c q0c q1c osc st mv x1 x5 x6)) 1 := by
  refine stepP pm_o1 (by kernel_rfl) rfl rfl ?_
  intro a w ho hI hp hB K hK
  have t17 : a.tmps[17]? = some (.agg #[.int .i64 s.wide, .int .i64 s.high, .int .i64 s.fbits, .int .i64 s.ptype, .int .i64 s.pbits, .int .i64 s.nonref, .slice sa s.cycle.length scap, .int .i64 s.refs, .int .i64 s.delay, .bool p.cabac, .bool p.weighted, .int .i64 p.bipred, .int .i64 p.qp, .int .i64 p.chroma, .bool p.constrained, .bool p.deblock, .int .i64 p.act0, .int .i64 p.act1, .int .i64 ref, .bool key]) := qt (hp 0 17 (by kernel_rfl)) _ rfl rfl
  have e17 := eval_slot t17
  clear ho hp
  unfold pm_o1
  go_simp
  refine (HST w hI).mono ?_
  rintro e w' ⟨rfl, b⟩
  exact hK _ _ (hI.step b) (congrArg (Value.bool) hx.symm)
theorem pm_s2 : StepOk Tryz.prog pm_ops Q a0 (qI W0) (qV (pm_V ub hb s sa scap p ref key h m0 m1 q0 q1 os m0c m1c q0c q1c osc st mv x1 x5 x6)) 2 := by
  refine stepP pm_o2 (by kernel_rfl) rfl rfl ?_
  intro a w ho hI hp hB K hK
  have t18 : a.tmps[18]? = some (.bool x1) := qt (hp 1 18 (by kernel_rfl)) _ rfl rfl
  have e18 := eval_slot t18
  clear ho hp
  unfold pm_o2
  go_simp
  exact hK _ _ hI rfl
theorem pm_s3 (X : W0.heap[ub]? = some (.cells #[.int .i64 s.wide, .int .i64 s.high, .int .i64 s.fbits, .int .i64 s.ptype, .int .i64 s.pbits, .int .i64 s.nonref, .slice sa s.cycle.length scap, .int .i64 s.refs, .int .i64 s.delay, .bool p.cabac, .bool p.weighted, .int .i64 p.bipred, .int .i64 p.qp, .int .i64 p.chroma, .bool p.constrained, .bool p.deblock, .int .i64 p.act0, .int .i64 p.act1, .int .i64 ref, .bool key] 87 (0, 0))) (A11 : a0.tmps[11]? = some (.pointer (some ⟨ub, 0, none⟩))) : StepOk Tryz.prog pm_ops Q a0 (qI W0) (qV (pm_V ub hb s sa scap p ref key h m0 m1 q0 q1 os m0c m1c q0c q1c osc st mv x1 x5 x6)) 3 := by
  refine stepG pm_o3 2 19 (by kernel_rfl) rfl (by kernel_rfl) (by kernel_rfl) rfl rfl ?_
  intro a w ho hI hp hB K hK
  have t11 := (ho 11 (by kernel_rfl)).trans A11
  have e11 := eval_slot t11
  clear ho hp
  refine wp_load_mid (P := Tryz.prog) 87 (.tmp 11) rfl ub 0 e11 [.int .i64 s.wide, .int .i64 s.high, .int .i64 s.fbits, .int .i64 s.ptype, .int .i64 s.pbits, .int .i64 s.nonref, .slice sa s.cycle.length scap, .int .i64 s.refs, .int .i64 s.delay, .bool p.cabac, .bool p.weighted, .int .i64 p.bipred, .int .i64 p.qp, .int .i64 p.chroma, .bool p.constrained, .bool p.deblock, .int .i64 p.act0, .int .i64 p.act1, .int .i64 ref, .bool key] _ (fun j v hv => qcell hI X (0 + j) v (by rw [Nat.zero_add]; simpa using hv)) Tryz.underlying87 rfl (by kernel_rfl) ?_
  exact hK _ _ hI rfl
theorem pm_s4 (Y : W0.heap[hb]? = some (.cells #[.int .i64 h.first, .int .i64 h.count, .int .i64 h.type, .int .i64 h.fnum, .int .i64 h.id, .int .i64 h.poc, .bool h.spatial, .int .i64 h.act0, .int .i64 h.act1, .slice m0 h.mods0.length m0c, .slice m1 h.mods1.length m1c, .int .i64 h.log, .int .i64 h.logc, .slice q0 h.w0.length q0c, .slice q1 h.w1.length q1c, .bool h.longkey, .slice os h.ops.length osc, .int .i64 h.qp, .bool h.off, .int .i64 h.a, .int .i64 h.b] 26 (0, 0))) (A5 : a0.tmps[5]? = some (.pointer (some ⟨hb, 0, none⟩))) : StepOk Tryz.prog pm_ops Q a0 (qI W0) (qV (pm_V ub hb s sa scap p ref key h m0 m1 q0 q1 os m0c m1c q0c q1c osc st mv x1 x5 x6)) 4 := by
  refine stepG pm_o4 2 19 (by kernel_rfl) rfl (by kernel_rfl) (by kernel_rfl) rfl rfl ?_
  intro a w ho hI hp hB K hK
  have t5 := (ho 5 (by kernel_rfl)).trans A5
  have e5 := eval_slot t5
  clear ho hp
  refine wp_load_mid (P := Tryz.prog) 26 (.tmp 5) rfl hb 0 e5 [.int .i64 h.first, .int .i64 h.count, .int .i64 h.type, .int .i64 h.fnum, .int .i64 h.id, .int .i64 h.poc, .bool h.spatial, .int .i64 h.act0, .int .i64 h.act1, .slice m0 h.mods0.length m0c, .slice m1 h.mods1.length m1c, .int .i64 h.log, .int .i64 h.logc, .slice q0 h.w0.length q0c, .slice q1 h.w1.length q1c, .bool h.longkey, .slice os h.ops.length osc, .int .i64 h.qp, .bool h.off, .int .i64 h.a, .int .i64 h.b] _ (fun j v hv => qcell hI Y (0 + j) v (by rw [Nat.zero_add]; simpa using hv)) Tryz.underlying26 rfl (by kernel_rfl) ?_
  exact hK _ _ hI rfl
theorem pm_s5 (HMY : ∀ wr : World, qI W0 wr → x1 = true → Calls Tryz.prog 40 #[.agg #[.int .i64 s.wide, .int .i64 s.high, .int .i64 s.fbits, .int .i64 s.ptype, .int .i64 s.pbits, .int .i64 s.nonref, .slice sa s.cycle.length scap, .int .i64 s.refs, .int .i64 s.delay, .bool p.cabac, .bool p.weighted, .int .i64 p.bipred, .int .i64 p.qp, .int .i64 p.chroma, .bool p.constrained, .bool p.deblock, .int .i64 p.act0, .int .i64 p.act1, .int .i64 ref, .bool key], .agg #[.int .i64 h.first, .int .i64 h.count, .int .i64 h.type, .int .i64 h.fnum, .int .i64 h.id, .int .i64 h.poc, .bool h.spatial, .int .i64 h.act0, .int .i64 h.act1, .slice m0 h.mods0.length m0c, .slice m1 h.mods1.length m1c, .int .i64 h.log, .int .i64 h.logc, .slice q0 h.w0.length q0c, .slice q1 h.w1.length q1c, .bool h.longkey, .slice os h.ops.length osc, .int .i64 h.qp, .bool h.off, .int .i64 h.a, .int .i64 h.b]] wr fun e w' => e = .returned (.bool mv) ∧ Below wr.heap.size wr w') (hx : x5 = (mv)) : StepOk Tryz.prog pm_ops Q a0 (qI W0) (qV (pm_V ub hb s sa scap p ref key h m0 m1 q0 q1 os m0c m1c q0c q1c osc st mv x1 x5 x6)) 5 := by
  refine stepG pm_o5 2 19 (by kernel_rfl) rfl (by kernel_rfl) (by kernel_rfl) rfl rfl ?_
  intro a w ho hI hp hB K hK
  have t20 : a.tmps[20]? = some (.agg #[.int .i64 s.wide, .int .i64 s.high, .int .i64 s.fbits, .int .i64 s.ptype, .int .i64 s.pbits, .int .i64 s.nonref, .slice sa s.cycle.length scap, .int .i64 s.refs, .int .i64 s.delay, .bool p.cabac, .bool p.weighted, .int .i64 p.bipred, .int .i64 p.qp, .int .i64 p.chroma, .bool p.constrained, .bool p.deblock, .int .i64 p.act0, .int .i64 p.act1, .int .i64 ref, .bool key]) := qt (hp 3 20 (by kernel_rfl)) _ rfl hB
  have e20 := eval_slot t20
  have t21 : a.tmps[21]? = some (.agg #[.int .i64 h.first, .int .i64 h.count, .int .i64 h.type, .int .i64 h.fnum, .int .i64 h.id, .int .i64 h.poc, .bool h.spatial, .int .i64 h.act0, .int .i64 h.act1, .slice m0 h.mods0.length m0c, .slice m1 h.mods1.length m1c, .int .i64 h.log, .int .i64 h.logc, .slice q0 h.w0.length q0c, .slice q1 h.w1.length q1c, .bool h.longkey, .slice os h.ops.length osc, .int .i64 h.qp, .bool h.off, .int .i64 h.a, .int .i64 h.b]) := qt (hp 4 21 (by kernel_rfl)) _ rfl hB
  have e21 := eval_slot t21
  clear ho hp
  unfold pm_o5
  go_simp
  refine (HMY w hI (by simpa using hB)).mono ?_
  rintro e w' ⟨rfl, b⟩
  exact hK _ _ (hI.step b) (congrArg (Value.bool) hx.symm)
theorem pm_s6 (hx : x6 = (x1 && x5)) : StepOk Tryz.prog pm_ops Q a0 (qI W0) (qV (pm_V ub hb s sa scap p ref key h m0 m1 q0 q1 os m0c m1c q0c q1c osc st mv x1 x5 x6)) 6 := by
  refine stepP pm_o6 (by kernel_rfl) rfl rfl ?_
  intro a w ho hI hp hB K hK
  have t19 : a.tmps[19]? = some (.bool x1) := qt (hp 2 19 (by kernel_rfl)) _ rfl rfl
  have e19 := eval_slot t19
  clear ho
  cases hq : x1 with
  | false =>
    have hz := hx.trans (by rw [hq]; rfl : _ = false)
    clear hp
    rw [hq] at e19
    unfold pm_o6
    go_simp
    exact hK _ _ hI (congrArg Value.bool hz.symm)
  | true =>
    have hz := hx.trans (by rw [hq]; rfl : _ = x5)
    have t22 : a.tmps[22]? = some (.bool x5) := qt (hp 5 22 (by kernel_rfl)) _ rfl (by rw [hq]; rfl)
    have e22 := eval_slot t22
    clear hp
    rw [hq] at e19
    unfold pm_o6
    go_simp
    exact hK _ _ hI (congrArg Value.bool hz.symm)
theorem pm_s7 : StepOk Tryz.prog pm_ops Q a0 (qI W0) (qV (pm_V ub hb s sa scap p ref key h m0 m1 q0 q1 os m0c m1c q0c q1c osc st mv x1 x5 x6)) 7 := by
  refine stepP pm_o7 (by kernel_rfl) rfl rfl ?_
  intro a w ho hI hp hB K hK
  have t23 : a.tmps[23]? = some (.bool x6) := qt (hp 6 23 (by kernel_rfl)) _ rfl rfl
  have e23 := eval_slot t23
  clear ho hp
  unfold pm_o7
  go_simp
  exact hK _ _ hI rfl
end
set_option maxRecDepth 100000 in
set_option maxHeartbeats 4000000 in
theorem pm_reg {Q : Exit → Act → World → Prop} {a : Act} {w : World} (ub hb : Nat) (s : SpsN) (sa : Option Addr) (scap : Nat) (p : PpsN) (ref : Int) (key : Bool) (h : HeadN) (m0 m1 q0 q1 os : Option Addr) (m0c m1c q0c q1c osc : Nat) (st mv : Bool) (X : w.heap[ub]? = some (.cells #[.int .i64 s.wide, .int .i64 s.high, .int .i64 s.fbits, .int .i64 s.ptype, .int .i64 s.pbits, .int .i64 s.nonref, .slice sa s.cycle.length scap, .int .i64 s.refs, .int .i64 s.delay, .bool p.cabac, .bool p.weighted, .int .i64 p.bipred, .int .i64 p.qp, .int .i64 p.chroma, .bool p.constrained, .bool p.deblock, .int .i64 p.act0, .int .i64 p.act1, .int .i64 ref, .bool key] 87 (0, 0))) (Y : w.heap[hb]? = some (.cells #[.int .i64 h.first, .int .i64 h.count, .int .i64 h.type, .int .i64 h.fnum, .int .i64 h.id, .int .i64 h.poc, .bool h.spatial, .int .i64 h.act0, .int .i64 h.act1, .slice m0 h.mods0.length m0c, .slice m1 h.mods1.length m1c, .int .i64 h.log, .int .i64 h.logc, .slice q0 h.w0.length q0c, .slice q1 h.w1.length q1c, .bool h.longkey, .slice os h.ops.length osc, .int .i64 h.qp, .bool h.off, .int .i64 h.a, .int .i64 h.b] 26 (0, 0))) (HST : ∀ wr : World, qI w wr → Calls Tryz.prog 39 #[.agg #[.int .i64 s.wide, .int .i64 s.high, .int .i64 s.fbits, .int .i64 s.ptype, .int .i64 s.pbits, .int .i64 s.nonref, .slice sa s.cycle.length scap, .int .i64 s.refs, .int .i64 s.delay, .bool p.cabac, .bool p.weighted, .int .i64 p.bipred, .int .i64 p.qp, .int .i64 p.chroma, .bool p.constrained, .bool p.deblock, .int .i64 p.act0, .int .i64 p.act1, .int .i64 ref, .bool key]] wr fun e w' => e = .returned (.bool st) ∧ Below wr.heap.size wr w') (HMY : ∀ wr : World, qI w wr → (st) = true → Calls Tryz.prog 40 #[.agg #[.int .i64 s.wide, .int .i64 s.high, .int .i64 s.fbits, .int .i64 s.ptype, .int .i64 s.pbits, .int .i64 s.nonref, .slice sa s.cycle.length scap, .int .i64 s.refs, .int .i64 s.delay, .bool p.cabac, .bool p.weighted, .int .i64 p.bipred, .int .i64 p.qp, .int .i64 p.chroma, .bool p.constrained, .bool p.deblock, .int .i64 p.act0, .int .i64 p.act1, .int .i64 ref, .bool key], .agg #[.int .i64 h.first, .int .i64 h.count, .int .i64 h.type, .int .i64 h.fnum, .int .i64 h.id, .int .i64 h.poc, .bool h.spatial, .int .i64 h.act0, .int .i64 h.act1, .slice m0 h.mods0.length m0c, .slice m1 h.mods1.length m1c, .int .i64 h.log, .int .i64 h.logc, .slice q0 h.w0.length q0c, .slice q1 h.w1.length q1c, .bool h.longkey, .slice os h.ops.length osc, .int .i64 h.qp, .bool h.off, .int .i64 h.a, .int .i64 h.b]] wr fun e w' => e = .returned (.bool mv) ∧ Below wr.heap.size wr w') (hn : a.tmps.size = 24) (e11 : a.tmps[11]? = some (.pointer (some ⟨ub, 0, none⟩))) (e5 : a.tmps[5]? = some (.pointer (some ⟨hb, 0, none⟩)))
    (hK : ∀ w', Below w.heap.size w w' → Q .normal (Act.put (Act.put (Act.put (Act.put (Act.put (Act.put (Act.put (Act.put a (some 17) (.agg #[.int .i64 s.wide, .int .i64 s.high, .int .i64 s.fbits, .int .i64 s.ptype, .int .i64 s.pbits, .int .i64 s.nonref, .slice sa s.cycle.length scap, .int .i64 s.refs, .int .i64 s.delay, .bool p.cabac, .bool p.weighted, .int .i64 p.bipred, .int .i64 p.qp, .int .i64 p.chroma, .bool p.constrained, .bool p.deblock, .int .i64 p.act0, .int .i64 p.act1, .int .i64 ref, .bool key])) (some 18) (.bool (st))) (some 19) (.bool (st))) (some 20) (if (true && ((st) == true)) = true then .agg #[.int .i64 s.wide, .int .i64 s.high, .int .i64 s.fbits, .int .i64 s.ptype, .int .i64 s.pbits, .int .i64 s.nonref, .slice sa s.cycle.length scap, .int .i64 s.refs, .int .i64 s.delay, .bool p.cabac, .bool p.weighted, .int .i64 p.bipred, .int .i64 p.qp, .int .i64 p.chroma, .bool p.constrained, .bool p.deblock, .int .i64 p.act0, .int .i64 p.act1, .int .i64 ref, .bool key] else undef)) (some 21) (if (true && ((st) == true)) = true then .agg #[.int .i64 h.first, .int .i64 h.count, .int .i64 h.type, .int .i64 h.fnum, .int .i64 h.id, .int .i64 h.poc, .bool h.spatial, .int .i64 h.act0, .int .i64 h.act1, .slice m0 h.mods0.length m0c, .slice m1 h.mods1.length m1c, .int .i64 h.log, .int .i64 h.logc, .slice q0 h.w0.length q0c, .slice q1 h.w1.length q1c, .bool h.longkey, .slice os h.ops.length osc, .int .i64 h.qp, .bool h.off, .int .i64 h.a, .int .i64 h.b] else undef)) (some 22) (if (true && ((st) == true)) = true then .bool (mv) else undef)) (some 23) (.bool (st && mv))) (some 10) (.bool (st && mv))) w') : (Code.region 2 pm_ops false).wp Tryz.prog Q a w := by
  refine wp_region_row (ops := pm_ops) (qI w) (qV (pm_V ub hb s sa scap p ref key h m0 m1 q0 q1 os m0c m1c q0c q1c osc st mv (st) (mv) (st && mv))) (by rw [hn]; kernel_rfl) ((Below.refl _ _)) (fun i hi => ?_) (fun b wz M => ?_)
  · match i, hi with | 0, _ => exact pm_s0 X e11 | 1, _ => exact pm_s1 HST rfl | 2, _ => exact pm_s2 | 3, _ => exact pm_s3 X e11 | 4, _ => exact pm_s4 Y e5 | 5, _ => exact pm_s5 HMY rfl | 6, _ => exact pm_s6 rfl | 7, _ => exact pm_s7 | k + 8, h => exact absurd h (by simp [pm_ops])
  · have e : b = (Act.put (Act.put (Act.put (Act.put (Act.put (Act.put (Act.put (Act.put a (some 17) (.agg #[.int .i64 s.wide, .int .i64 s.high, .int .i64 s.fbits, .int .i64 s.ptype, .int .i64 s.pbits, .int .i64 s.nonref, .slice sa s.cycle.length scap, .int .i64 s.refs, .int .i64 s.delay, .bool p.cabac, .bool p.weighted, .int .i64 p.bipred, .int .i64 p.qp, .int .i64 p.chroma, .bool p.constrained, .bool p.deblock, .int .i64 p.act0, .int .i64 p.act1, .int .i64 ref, .bool key])) (some 18) (.bool (st))) (some 19) (.bool (st))) (some 20) (if (true && ((st) == true)) = true then .agg #[.int .i64 s.wide, .int .i64 s.high, .int .i64 s.fbits, .int .i64 s.ptype, .int .i64 s.pbits, .int .i64 s.nonref, .slice sa s.cycle.length scap, .int .i64 s.refs, .int .i64 s.delay, .bool p.cabac, .bool p.weighted, .int .i64 p.bipred, .int .i64 p.qp, .int .i64 p.chroma, .bool p.constrained, .bool p.deblock, .int .i64 p.act0, .int .i64 p.act1, .int .i64 ref, .bool key] else undef)) (some 21) (if (true && ((st) == true)) = true then .agg #[.int .i64 h.first, .int .i64 h.count, .int .i64 h.type, .int .i64 h.fnum, .int .i64 h.id, .int .i64 h.poc, .bool h.spatial, .int .i64 h.act0, .int .i64 h.act1, .slice m0 h.mods0.length m0c, .slice m1 h.mods1.length m1c, .int .i64 h.log, .int .i64 h.logc, .slice q0 h.w0.length q0c, .slice q1 h.w1.length q1c, .bool h.longkey, .slice os h.ops.length osc, .int .i64 h.qp, .bool h.off, .int .i64 h.a, .int .i64 h.b] else undef)) (some 22) (if (true && ((st) == true)) = true then .bool (mv) else undef)) (some 23) (.bool (st && mv))) (some 10) (.bool (st && mv))) := by
      refine act_ext (by rw [M.defers]; simp only [put_defers]) (fun d => ?_)
      simp only [put_at, put_size, hn]
      by_cases k0 : d = 17
      · subst k0
        obtain ⟨v, t, g⟩ := M.get 0 17 (by kernel_rfl)
        have := g (true, .agg #[.int .i64 s.wide, .int .i64 s.high, .int .i64 s.fbits, .int .i64 s.ptype, .int .i64 s.pbits, .int .i64 s.nonref, .slice sa s.cycle.length scap, .int .i64 s.refs, .int .i64 s.delay, .bool p.cabac, .bool p.weighted, .int .i64 p.bipred, .int .i64 p.qp, .int .i64 p.chroma, .bool p.constrained, .bool p.deblock, .int .i64 p.act0, .int .i64 p.act1, .int .i64 ref, .bool key]) rfl
        simp only at this
        rw [t, this]
        simp
      by_cases k1 : d = 18
      · subst k1
        obtain ⟨v, t, g⟩ := M.get 1 18 (by kernel_rfl)
        have := g (true, .bool (st)) rfl
        simp only at this
        rw [t, this]
        simp
      by_cases k2 : d = 19
      · subst k2
        obtain ⟨v, t, g⟩ := M.get 2 19 (by kernel_rfl)
        have := g (true, .bool (st)) rfl
        simp only at this
        rw [t, this]
        simp
      by_cases k3 : d = 20
      · subst k3
        obtain ⟨v, t, g⟩ := M.get 3 20 (by kernel_rfl)
        have := g ((true && ((st) == true)), .agg #[.int .i64 s.wide, .int .i64 s.high, .int .i64 s.fbits, .int .i64 s.ptype, .int .i64 s.pbits, .int .i64 s.nonref, .slice sa s.cycle.length scap, .int .i64 s.refs, .int .i64 s.delay, .bool p.cabac, .bool p.weighted, .int .i64 p.bipred, .int .i64 p.qp, .int .i64 p.chroma, .bool p.constrained, .bool p.deblock, .int .i64 p.act0, .int .i64 p.act1, .int .i64 ref, .bool key]) rfl
        simp only at this
        rw [t, this]
        simp
      by_cases k4 : d = 21
      · subst k4
        obtain ⟨v, t, g⟩ := M.get 4 21 (by kernel_rfl)
        have := g ((true && ((st) == true)), .agg #[.int .i64 h.first, .int .i64 h.count, .int .i64 h.type, .int .i64 h.fnum, .int .i64 h.id, .int .i64 h.poc, .bool h.spatial, .int .i64 h.act0, .int .i64 h.act1, .slice m0 h.mods0.length m0c, .slice m1 h.mods1.length m1c, .int .i64 h.log, .int .i64 h.logc, .slice q0 h.w0.length q0c, .slice q1 h.w1.length q1c, .bool h.longkey, .slice os h.ops.length osc, .int .i64 h.qp, .bool h.off, .int .i64 h.a, .int .i64 h.b]) rfl
        simp only at this
        rw [t, this]
        simp
      by_cases k5 : d = 22
      · subst k5
        obtain ⟨v, t, g⟩ := M.get 5 22 (by kernel_rfl)
        have := g ((true && ((st) == true)), .bool (mv)) rfl
        simp only at this
        rw [t, this]
        simp
      by_cases k6 : d = 23
      · subst k6
        obtain ⟨v, t, g⟩ := M.get 6 23 (by kernel_rfl)
        have := g (true, .bool (st && mv)) rfl
        simp only at this
        rw [t, this]
        simp
      by_cases k7 : d = 10
      · subst k7
        obtain ⟨v, t, g⟩ := M.get 7 10 (by kernel_rfl)
        have := g (true, .bool (st && mv)) rfl
        simp only at this
        rw [t, this]
        simp
      have ho : outB pm_ops d = true := by
        simp [outB, pm_ops, pm_o0, pm_o1, pm_o2, pm_o3, pm_o4, pm_o5, pm_o6, pm_o7, Ne.symm k0, Ne.symm k1, Ne.symm k2, Ne.symm k3, Ne.symm k4, Ne.symm k5, Ne.symm k6, Ne.symm k7]
      rw [M.out d ho]
      rw [if_neg (Ne.symm k7), if_neg (Ne.symm k6), if_neg (Ne.symm k5), if_neg (Ne.symm k4), if_neg (Ne.symm k3), if_neg (Ne.symm k2), if_neg (Ne.symm k1), if_neg (Ne.symm k0)]
    rw [e]
    exact hK wz M.inv

set_option maxRecDepth 100000 in
set_option maxHeartbeats 4000000 in
theorem may_is (w : World) (s : SpsN) (sa : Option Addr) (scap : Nat) (p : PpsN) (ref : Int) (key : Bool) (h : HeadN) (m0 m1 q0 q1 os : Option Addr) (m0c m1c q0c q1c osc : Nat) (hs : IntRow w sa s.cycle) (hl : s.cycle.length ≤ 1000000000) (R : HeadRows w h m0 m1 q0 q1 os) :
    Calls Tryz.prog 16 #[.agg #[.int .i64 h.first, .int .i64 h.count, .int .i64 h.type, .int .i64 h.fnum, .int .i64 h.id, .int .i64 h.poc, .bool h.spatial, .int .i64 h.act0, .int .i64 h.act1, .slice m0 h.mods0.length m0c, .slice m1 h.mods1.length m1c, .int .i64 h.log, .int .i64 h.logc, .slice q0 h.w0.length q0c, .slice q1 h.w1.length q1c, .bool h.longkey, .slice os h.ops.length osc, .int .i64 h.qp, .bool h.off, .int .i64 h.a, .int .i64 h.b], .agg #[.int .i64 s.wide, .int .i64 s.high, .int .i64 s.fbits, .int .i64 s.ptype, .int .i64 s.pbits, .int .i64 s.nonref, .slice sa s.cycle.length scap, .int .i64 s.refs, .int .i64 s.delay], .agg #[.bool p.cabac, .bool p.weighted, .int .i64 p.bipred, .int .i64 p.qp, .int .i64 p.chroma, .bool p.constrained, .bool p.deblock, .int .i64 p.act0, .int .i64 p.act1], .int .i64 ref, .bool key] w fun e w' => e = .returned (.bool (decide (headMay h s p ref key))) ∧ Below w.heap.size w w' := by
  obtain ⟨r1, r2, r3, B3, z3⟩ := boxes3 w #[.int .i64 h.first, .int .i64 h.count, .int .i64 h.type, .int .i64 h.fnum, .int .i64 h.id, .int .i64 h.poc, .bool h.spatial, .int .i64 h.act0, .int .i64 h.act1, .slice m0 h.mods0.length m0c, .slice m1 h.mods1.length m1c, .int .i64 h.log, .int .i64 h.logc, .slice q0 h.w0.length q0c, .slice q1 h.w1.length q1c, .bool h.longkey, .slice os h.ops.length osc, .int .i64 h.qp, .bool h.off, .int .i64 h.a, .int .i64 h.b] #[.int .i64 s.wide, .int .i64 s.high, .int .i64 s.fbits, .int .i64 s.ptype, .int .i64 s.pbits, .int .i64 s.nonref, .slice sa s.cycle.length scap, .int .i64 s.refs, .int .i64 s.delay] #[.bool p.cabac, .bool p.weighted, .int .i64 p.bipred, .int .i64 p.qp, .int .i64 p.chroma, .bool p.constrained, .bool p.deblock, .int .i64 p.act0, .int .i64 p.act1] 26 29 31
  have RS := Lib.hid r2
  have RP := Lib.hid r3
  have q1' := box_more r1 (.cells #[.int .i64 0, .int .i64 0, .int .i64 0, .int .i64 0, .int .i64 0, .int .i64 0, .slice none 0 0, .int .i64 0, .int .i64 0, .bool false, .bool false, .int .i64 0, .int .i64 0, .int .i64 0, .bool false, .bool false, .int .i64 0, .int .i64 0, .int .i64 0, .bool false] 87)
  have q4' := heap_alloc_last (((w.alloc (.cells #[.int .i64 h.first, .int .i64 h.count, .int .i64 h.type, .int .i64 h.fnum, .int .i64 h.id, .int .i64 h.poc, .bool h.spatial, .int .i64 h.act0, .int .i64 h.act1, .slice m0 h.mods0.length m0c, .slice m1 h.mods1.length m1c, .int .i64 h.log, .int .i64 h.logc, .slice q0 h.w0.length q0c, .slice q1 h.w1.length q1c, .bool h.longkey, .slice os h.ops.length osc, .int .i64 h.qp, .bool h.off, .int .i64 h.a, .int .i64 h.b] 26)).alloc (.cells #[.int .i64 s.wide, .int .i64 s.high, .int .i64 s.fbits, .int .i64 s.ptype, .int .i64 s.pbits, .int .i64 s.nonref, .slice sa s.cycle.length scap, .int .i64 s.refs, .int .i64 s.delay] 29)).alloc (.cells #[.bool p.cabac, .bool p.weighted, .int .i64 p.bipred, .int .i64 p.qp, .int .i64 p.chroma, .bool p.constrained, .bool p.deblock, .int .i64 p.act0, .int .i64 p.act1] 31)) (.cells #[.int .i64 0, .int .i64 0, .int .i64 0, .int .i64 0, .int .i64 0, .int .i64 0, .slice none 0 0, .int .i64 0, .int .i64 0, .bool false, .bool false, .int .i64 0, .int .i64 0, .int .i64 0, .bool false, .bool false, .int .i64 0, .int .i64 0, .int .i64 0, .bool false] 87)
  rw [z3] at q4'
  have Z4 := Lib.hid q4'
  have B4 : Below w.heap.size w ((((w.alloc (.cells #[.int .i64 h.first, .int .i64 h.count, .int .i64 h.type, .int .i64 h.fnum, .int .i64 h.id, .int .i64 h.poc, .bool h.spatial, .int .i64 h.act0, .int .i64 h.act1, .slice m0 h.mods0.length m0c, .slice m1 h.mods1.length m1c, .int .i64 h.log, .int .i64 h.logc, .slice q0 h.w0.length q0c, .slice q1 h.w1.length q1c, .bool h.longkey, .slice os h.ops.length osc, .int .i64 h.qp, .bool h.off, .int .i64 h.a, .int .i64 h.b] 26)).alloc (.cells #[.int .i64 s.wide, .int .i64 s.high, .int .i64 s.fbits, .int .i64 s.ptype, .int .i64 s.pbits, .int .i64 s.nonref, .slice sa s.cycle.length scap, .int .i64 s.refs, .int .i64 s.delay] 29)).alloc (.cells #[.bool p.cabac, .bool p.weighted, .int .i64 p.bipred, .int .i64 p.qp, .int .i64 p.chroma, .bool p.constrained, .bool p.deblock, .int .i64 p.act0, .int .i64 p.act1] 31)).alloc (.cells #[.int .i64 0, .int .i64 0, .int .i64 0, .int .i64 0, .int .i64 0, .int .i64 0, .slice none 0 0, .int .i64 0, .int .i64 0, .bool false, .bool false, .int .i64 0, .int .i64 0, .int .i64 0, .bool false, .bool false, .int .i64 0, .int .i64 0, .int .i64 0, .bool false] 87)) := B3.alloc B3.size _
  have FIN := Lib.hid (fun wz (fz : Fr (fun k => k = w.heap.size + 1 + 1 + 1) ((((w.alloc (.cells #[.int .i64 h.first, .int .i64 h.count, .int .i64 h.type, .int .i64 h.fnum, .int .i64 h.id, .int .i64 h.poc, .bool h.spatial, .int .i64 h.act0, .int .i64 h.act1, .slice m0 h.mods0.length m0c, .slice m1 h.mods1.length m1c, .int .i64 h.log, .int .i64 h.logc, .slice q0 h.w0.length q0c, .slice q1 h.w1.length q1c, .bool h.longkey, .slice os h.ops.length osc, .int .i64 h.qp, .bool h.off, .int .i64 h.a, .int .i64 h.b] 26)).alloc (.cells #[.int .i64 s.wide, .int .i64 s.high, .int .i64 s.fbits, .int .i64 s.ptype, .int .i64 s.pbits, .int .i64 s.nonref, .slice sa s.cycle.length scap, .int .i64 s.refs, .int .i64 s.delay] 29)).alloc (.cells #[.bool p.cabac, .bool p.weighted, .int .i64 p.bipred, .int .i64 p.qp, .int .i64 p.chroma, .bool p.constrained, .bool p.deblock, .int .i64 p.act0, .int .i64 p.act1] 31)).alloc (.cells #[.int .i64 0, .int .i64 0, .int .i64 0, .int .i64 0, .int .i64 0, .int .i64 0, .slice none 0 0, .int .i64 0, .int .i64 0, .bool false, .bool false, .int .i64 0, .int .i64 0, .int .i64 0, .bool false, .bool false, .int .i64 0, .int .i64 0, .int .i64 0, .bool false] 87)) wz) => (⟨B4.trans (Fr.below fz B4.size (fun k e => by omega)), (fz.block _ (row_lt q1') (by omega)).trans q1'⟩ : Below w.heap.size w wz ∧ wz.heap[w.heap.size]? = some (.cells #[.int .i64 h.first, .int .i64 h.count, .int .i64 h.type, .int .i64 h.fnum, .int .i64 h.id, .int .i64 h.poc, .bool h.spatial, .int .i64 h.act0, .int .i64 h.act1, .slice m0 h.mods0.length m0c, .slice m1 h.mods1.length m1c, .int .i64 h.log, .int .i64 h.logc, .slice q0 h.w0.length q0c, .slice q1 h.w1.length q1c, .bool h.longkey, .slice os h.ops.length osc, .int .i64 h.qp, .bool h.off, .int .i64 h.a, .int .i64 h.b] 26 (0, 0))))
  obtain ⟨mv, hmv⟩ : ∃ b, b = decide (headMay h s p ref key) := ⟨_, rfl⟩
  obtain ⟨sv, hsv⟩ : ∃ b, b = decide (mayStand s p ref) := ⟨_, rfl⟩
  have HFIN : (sv && mv) = mv := by
    rw [hmv, hsv]
    by_cases hm : headMay h s p ref key
    · rw [decide_eq_true hm, decide_eq_true (headMay_stands hm)]; rfl
    · rw [decide_eq_false hm, Bool.and_false]
  have HST := Lib.hid (fun w0 (B0 : Below w.heap.size w w0) wr (b : qI w0 wr) => stands_is wr s sa scap p ref key ((hs.below B0 (Nat.le_refl _)).below b (Nat.le_refl _)) hl)
  rw [← hsv] at HST
  have HMY := Lib.hid (fun w0 (B0 : Below w.heap.size w w0) wr (b : qI w0 wr) (st : mayStand s p ref) => mayS_any wr s sa scap p ref key h m0 m1 q0 q1 os m0c m1c q0c q1c osc st ((R.below B0 (Nat.le_refl _)).below b (Nat.le_refl _)))
  rw [← hmv] at HMY
  rw [← hmv]
  have HSV := Lib.hid hsv
  have HF := Lib.hid HFIN
  clear r1 r2 r3 B3 z3 q1' q4' B4 hs R hmv hsv HFIN
  go_enter Tryz.func16, Tryz.ntmps16
  go_upto_region 2 with (first | (refine wpList_load_row rfl 29 (.tmp 6) rfl (w.heap.size + 1) rfl 29 #[.int .i64 s.wide, .int .i64 s.high, .int .i64 s.fbits, .int .i64 s.ptype, .int .i64 s.pbits, .int .i64 s.nonref, .slice sa s.cycle.length scap, .int .i64 s.refs, .int .i64 s.delay] (0, 0) _ RS.out Tryz.underlying29 rfl (by kernel_rfl) ?_) | (refine wpList_load_row rfl 31 (.tmp 7) rfl (w.heap.size + 1 + 1) rfl 31 #[.bool p.cabac, .bool p.weighted, .int .i64 p.bipred, .int .i64 p.qp, .int .i64 p.chroma, .bool p.constrained, .bool p.deblock, .int .i64 p.act0, .int .i64 p.act1] (0, 0) _ RP.out Tryz.underlying31 rfl (by kernel_rfl) ?_) | (refine wpList_store_whole rfl 87 (.tmp 11) (.tmp 16) rfl (w.heap.size + 1 + 1 + 1) #[.int .i64 s.wide, .int .i64 s.high, .int .i64 s.fbits, .int .i64 s.ptype, .int .i64 s.pbits, .int .i64 s.nonref, .slice sa s.cycle.length scap, .int .i64 s.refs, .int .i64 s.delay, .bool p.cabac, .bool p.weighted, .int .i64 p.bipred, .int .i64 p.qp, .int .i64 p.chroma, .bool p.constrained, .bool p.deblock, .int .i64 p.act0, .int .i64 p.act1, .int .i64 ref, .bool key] ?_ ?_ 87 #[.int .i64 0, .int .i64 0, .int .i64 0, .int .i64 0, .int .i64 0, .int .i64 0, .slice none 0 0, .int .i64 0, .int .i64 0, .bool false, .bool false, .int .i64 0, .int .i64 0, .int .i64 0, .bool false, .bool false, .int .i64 0, .int .i64 0, .int .i64 0, .bool false] Z4.out ?_ ?_ ?_ ?_; rfl; rfl; kernel_rfl; rfl; (simp [Value.oneCell']); intro wz hz fz))
  obtain ⟨BZ', hh⟩ := FIN.out _ fz
  have BZ := Lib.hid BZ'
  clear FIN RS RP Z4 BZ' fz
  cases sv
  · refine pm_reg (w.heap.size + 1 + 1 + 1) w.heap.size s sa scap p ref key h m0 m1 q0 q1 os m0c m1c q0c q1c osc false mv hz hh (HST.out _ BZ.out) (fun _ _ e => by cases e) rfl rfl rfl (fun w' b => ?_)
    simp only [Act.put, List.setIfInBounds_toArray, List.set_cons_zero, List.set_cons_succ, Bool.and_false, Bool.true_and, Bool.false_and]
    go_wp2_with fail
    go_ret
    exact ⟨ret_bool HF.out, BZ.out.trans (b.mono BZ.out.size)⟩
  · refine pm_reg (w.heap.size + 1 + 1 + 1) w.heap.size s sa scap p ref key h m0 m1 q0 q1 os m0c m1c q0c q1c osc true mv hz hh (HST.out _ BZ.out) (fun wr b _ => HMY.out _ BZ.out wr b (of_decide_eq_true HSV.out.symm)) rfl rfl rfl (fun w' b => ?_)
    simp only [Act.put, List.setIfInBounds_toArray, List.set_cons_zero, List.set_cons_succ, Bool.and_true, beq_self_eq_true, if_true, Bool.true_and]
    go_wp2_with fail
    go_ret
    exact ⟨rfl, BZ.out.trans (b.mono BZ.out.size)⟩
end Go.Proofs.YthcbgijmnonckaaGreat
