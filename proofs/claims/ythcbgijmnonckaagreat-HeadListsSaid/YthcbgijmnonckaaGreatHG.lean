/- Layer 4: the program's mayMark: its region, operation by operation. -/
import Derived.Test.YthcbgijmnonckaaGreatHE
namespace Go.Proofs.YthcbgijmnonckaaGreat
open Go.RowKit Zo Zp
set_option linter.unusedVariables false

theorem marksKey_any (w : World) (s : SpsN) (sa : Option Addr) (scap : Nat) (p : PpsN) (ref : Int) (key : Bool) : Calls Tryz.prog 106 #[.agg #[.int .i64 s.wide, .int .i64 s.high, .int .i64 s.fbits, .int .i64 s.ptype, .int .i64 s.pbits, .int .i64 s.nonref, .slice sa s.cycle.length scap, .int .i64 s.refs, .int .i64 s.delay, .bool p.cabac, .bool p.weighted, .int .i64 p.bipred, .int .i64 p.qp, .int .i64 p.chroma, .bool p.constrained, .bool p.deblock, .int .i64 p.act0, .int .i64 p.act1, .int .i64 ref, .bool key]] w fun e w' => e = .returned (.bool (key && decide (0 < ref))) ∧ Below w.heap.size w w' := by
  have HB := Lib.hid ((Below.refl w.heap.size w).alloc (Nat.le_refl _) (.cells #[.int .i64 s.wide, .int .i64 s.high, .int .i64 s.fbits, .int .i64 s.ptype, .int .i64 s.pbits, .int .i64 s.nonref, .slice sa s.cycle.length scap, .int .i64 s.refs, .int .i64 s.delay, .bool p.cabac, .bool p.weighted, .int .i64 p.bipred, .int .i64 p.qp, .int .i64 p.chroma, .bool p.constrained, .bool p.deblock, .int .i64 p.act0, .int .i64 p.act1, .int .i64 ref, .bool key] 87))
  cases key
  all_goals
    go_enter Tryz.func106, Tryz.ntmps106
    go_wp2
    go_ret
    exact ⟨ret_bool (by simp), HB.out⟩

theorem marksOther_any (w : World) (s : SpsN) (sa : Option Addr) (scap : Nat) (p : PpsN) (ref : Int) (key : Bool) : Calls Tryz.prog 107 #[.agg #[.int .i64 s.wide, .int .i64 s.high, .int .i64 s.fbits, .int .i64 s.ptype, .int .i64 s.pbits, .int .i64 s.nonref, .slice sa s.cycle.length scap, .int .i64 s.refs, .int .i64 s.delay, .bool p.cabac, .bool p.weighted, .int .i64 p.bipred, .int .i64 p.qp, .int .i64 p.chroma, .bool p.constrained, .bool p.deblock, .int .i64 p.act0, .int .i64 p.act1, .int .i64 ref, .bool key]] w fun e w' => e = .returned (.bool (!key && decide (0 < ref))) ∧ Below w.heap.size w w' := by
  have HB := Lib.hid ((Below.refl w.heap.size w).alloc (Nat.le_refl _) (.cells #[.int .i64 s.wide, .int .i64 s.high, .int .i64 s.fbits, .int .i64 s.ptype, .int .i64 s.pbits, .int .i64 s.nonref, .slice sa s.cycle.length scap, .int .i64 s.refs, .int .i64 s.delay, .bool p.cabac, .bool p.weighted, .int .i64 p.bipred, .int .i64 p.qp, .int .i64 p.chroma, .bool p.constrained, .bool p.deblock, .int .i64 p.act0, .int .i64 p.act1, .int .i64 ref, .bool key] 87))
  cases key
  all_goals
    go_enter Tryz.func107, Tryz.ntmps107
    go_wp2
    go_ret
    exact ⟨ret_bool (by simp), HB.out⟩

def mk_o0 : Oper := { dst := some 5, op := Op.fieldAddr 26 (Operand.tmp 3) 15, type := 0, pos := "may.go:131", after := #[], guard := none }
def mk_o1 : Oper := { dst := some 6, op := Op.load 4 (Operand.tmp 5), type := 4, pos := "may.go:131", after := #[{ on := 0, ground := Ground.data }], guard := none }
def mk_o2 : Oper := { dst := some 7, op := Op.unOp UnOp.not 4 (Operand.tmp 6), type := 4, pos := "may.go:131", after := #[{ on := 1, ground := Ground.data }], guard := none }
def mk_o3 : Oper := { dst := some 8, op := Op.move (Operand.tmp 7), type := 4, pos := "may.go:131", after := #[{ on := 2, ground := Ground.data }], guard := none }
def mk_o4 : Oper := { dst := some 9, op := Op.load 87 (Operand.tmp 2), type := 87, pos := "may.go:131", after := #[{ on := 3, ground := Ground.guard }], guard := some (3, false) }
def mk_o5 : Oper := { dst := some 10, op := Op.call { callee := Callee.value (Operand.func 106), args := #[Operand.tmp 9], argTypes := #[87] }, type := 4, pos := "may.go:131", after := #[{ on := 4, ground := Ground.data }, { on := 3, ground := Ground.chain }, { on := 3, ground := Ground.guard }], guard := some (3, false) }
def mk_o6 : Oper := { dst := some 11, op := Op.pick (Operand.tmp 8) (Operand.const (Value.bool true)) (Operand.tmp 10), type := 4, pos := "may.go:131", after := #[{ on := 3, ground := Ground.data }, { on := 5, ground := Ground.data }], guard := none }
def mk_o7 : Oper := { dst := some 12, op := Op.move (Operand.tmp 11), type := 4, pos := "may.go:131", after := #[{ on := 6, ground := Ground.data }, { on := 5, ground := Ground.chain }], guard := none }
def mk_o8 : Oper := { dst := some 13, op := Op.fieldAddr 26 (Operand.tmp 3) 16, type := 0, pos := "may.go:131", after := #[{ on := 7, ground := Ground.guard }], guard := some (7, true) }
def mk_o9 : Oper := { dst := some 14, op := Op.load 24 (Operand.tmp 13), type := 24, pos := "may.go:131", after := #[{ on := 8, ground := Ground.data }, { on := 7, ground := Ground.guard }], guard := some (7, true) }
def mk_o10 : Oper := { dst := some 15, op := Op.call { callee := Callee.builtin Builtin.len, args := #[Operand.tmp 14], argTypes := #[24] }, type := 3, pos := "may.go:131", after := #[{ on := 9, ground := Ground.data }, { on := 7, ground := Ground.guard }], guard := some (7, true) }
def mk_o11 : Oper := { dst := some 16, op := Op.load 87 (Operand.tmp 2), type := 87, pos := "may.go:131", after := #[{ on := 7, ground := Ground.guard }], guard := some (7, true) }
def mk_o12 : Oper := { dst := some 17, op := Op.call { callee := Callee.value (Operand.func 107), args := #[Operand.tmp 16], argTypes := #[87] }, type := 4, pos := "may.go:131", after := #[{ on := 11, ground := Ground.data }, { on := 7, ground := Ground.chain }, { on := 7, ground := Ground.guard }], guard := some (7, true) }
def mk_o13 : Oper := { dst := some 18, op := Op.call { callee := Callee.value (Operand.func 101), args := #[Operand.tmp 17, Operand.const (Value.int IntKind.i64 16)], argTypes := #[4, 3] }, type := 3, pos := "may.go:131", after := #[{ on := 12, ground := Ground.data }, { on := 12, ground := Ground.chain }, { on := 7, ground := Ground.guard }], guard := some (7, true) }
def mk_o14 : Oper := { dst := some 19, op := Op.binOp BinOp.leq 3 (Operand.tmp 15) (Operand.tmp 18) 3, type := 4, pos := "may.go:131", after := #[{ on := 10, ground := Ground.data }, { on := 13, ground := Ground.data }, { on := 7, ground := Ground.guard }], guard := some (7, true) }
def mk_o15 : Oper := { dst := some 20, op := Op.pick (Operand.tmp 12) (Operand.tmp 19) (Operand.const (Value.bool false)), type := 4, pos := "may.go:131", after := #[{ on := 7, ground := Ground.data }, { on := 14, ground := Ground.data }], guard := none }
def mk_o16 : Oper := { dst := some 21, op := Op.move (Operand.tmp 20), type := 4, pos := "may.go:131", after := #[{ on := 15, ground := Ground.data }, { on := 13, ground := Ground.chain }], guard := none }
def mk_o17 : Oper := { dst := some 22, op := Op.fieldAddr 26 (Operand.tmp 3) 16, type := 0, pos := "may.go:131", after := #[{ on := 16, ground := Ground.guard }], guard := some (16, true) }
def mk_o18 : Oper := { dst := some 23, op := Op.load 24 (Operand.tmp 22), type := 24, pos := "may.go:131", after := #[{ on := 17, ground := Ground.data }, { on := 16, ground := Ground.guard }], guard := some (16, true) }
def mk_o19 : Oper := { dst := some 24, op := Op.call { callee := Callee.value (Operand.func 108), args := #[Operand.tmp 23, Operand.func 109], argTypes := #[24, 164] }, type := 4, pos := "may.go:131", after := #[{ on := 18, ground := Ground.data }, { on := 16, ground := Ground.chain }, { on := 16, ground := Ground.guard }], guard := some (16, true) }
def mk_o20 : Oper := { dst := some 25, op := Op.pick (Operand.tmp 21) (Operand.tmp 24) (Operand.const (Value.bool false)), type := 4, pos := "may.go:131", after := #[{ on := 16, ground := Ground.data }, { on := 19, ground := Ground.data }], guard := none }
def mk_o21 : Oper := { dst := some 4, op := Op.assign (Operand.tmp 25), type := 4, pos := "may.go:131", after := #[{ on := 20, ground := Ground.data }, { on := 19, ground := Ground.chain }, { on := 0, ground := Ground.phase }, { on := 1, ground := Ground.phase }, { on := 2, ground := Ground.phase }, { on := 3, ground := Ground.phase }, { on := 4, ground := Ground.phase }, { on := 5, ground := Ground.phase }, { on := 6, ground := Ground.phase }, { on := 7, ground := Ground.phase }, { on := 8, ground := Ground.phase }, { on := 9, ground := Ground.phase }, { on := 10, ground := Ground.phase }, { on := 11, ground := Ground.phase }, { on := 12, ground := Ground.phase }, { on := 13, ground := Ground.phase }, { on := 14, ground := Ground.phase }, { on := 15, ground := Ground.phase }, { on := 16, ground := Ground.phase }, { on := 17, ground := Ground.phase }, { on := 18, ground := Ground.phase }, { on := 19, ground := Ground.phase }, { on := 20, ground := Ground.phase }], guard := none }
def mk_ops : Array Oper := #[mk_o0, mk_o1, mk_o2, mk_o3, mk_o4, mk_o5, mk_o6, mk_o7, mk_o8, mk_o9, mk_o10, mk_o11, mk_o12, mk_o13, mk_o14, mk_o15, mk_o16, mk_o17, mk_o18, mk_o19, mk_o20, mk_o21]
def mk_V (ub hb : Nat) (s : SpsN) (sa : Option Addr) (scap : Nat) (p : PpsN) (ref : Int) (key : Bool) (h : HeadN) (m0 m1 q0 q1 os : Option Addr) (m0c m1c q0c q1c osc : Nat) (x2 : Bool) (x5 : Bool) (x6 : Bool) (x12 : Bool) (x13 : Int) (x14 : Bool) (x15 : Bool) (x19 : Bool) (x20 : Bool) : List (Bool × Value) := [(true, .pointer (some ⟨hb, 15, none⟩)), (true, .bool h.longkey), (true, .bool x2), (true, .bool x2), ((true && (x2 == false)), .agg #[.int .i64 s.wide, .int .i64 s.high, .int .i64 s.fbits, .int .i64 s.ptype, .int .i64 s.pbits, .int .i64 s.nonref, .slice sa s.cycle.length scap, .int .i64 s.refs, .int .i64 s.delay, .bool p.cabac, .bool p.weighted, .int .i64 p.bipred, .int .i64 p.qp, .int .i64 p.chroma, .bool p.constrained, .bool p.deblock, .int .i64 p.act0, .int .i64 p.act1, .int .i64 ref, .bool key]), ((true && (x2 == false)), .bool x5), (true, .bool x6), (true, .bool x6), ((true && (x6 == true)), .pointer (some ⟨hb, 16, none⟩)), ((true && (x6 == true)), .slice os h.ops.length osc), ((true && (x6 == true)), .int .i64 (h.ops.length : Int)), ((true && (x6 == true)), .agg #[.int .i64 s.wide, .int .i64 s.high, .int .i64 s.fbits, .int .i64 s.ptype, .int .i64 s.pbits, .int .i64 s.nonref, .slice sa s.cycle.length scap, .int .i64 s.refs, .int .i64 s.delay, .bool p.cabac, .bool p.weighted, .int .i64 p.bipred, .int .i64 p.qp, .int .i64 p.chroma, .bool p.constrained, .bool p.deblock, .int .i64 p.act0, .int .i64 p.act1, .int .i64 ref, .bool key]), ((true && (x6 == true)), .bool x12), ((true && (x6 == true)), .int .i64 x13), ((true && (x6 == true)), .bool x14), (true, .bool x15), (true, .bool x15), ((true && (x15 == true)), .pointer (some ⟨hb, 16, none⟩)), ((true && (x15 == true)), .slice os h.ops.length osc), ((true && (x15 == true)), .bool x19), (true, .bool x20), (true, .bool x20)]
section
set_option maxRecDepth 100000
set_option maxHeartbeats 1000000
variable {ub hb : Nat} {s : SpsN} {sa : Option Addr} {scap : Nat} {p : PpsN} {ref : Int} {key : Bool} {h : HeadN} {m0 m1 q0 q1 os : Option Addr} {m0c m1c q0c q1c osc : Nat} {x2 : Bool} {x5 : Bool} {x6 : Bool} {x12 : Bool} {x13 : Int} {x14 : Bool} {x15 : Bool} {x19 : Bool} {x20 : Bool} {Q : Exit → Act → World → Prop} {a0 : Act} {W0 : World}
theorem mk_s0 (A3 : a0.tmps[3]? = some (.pointer (some ⟨hb, 0, none⟩))) : StepOk Tryz.prog mk_ops Q a0 (qI W0) (qV (mk_V ub hb s sa scap p ref key h m0 m1 q0 q1 os m0c m1c q0c q1c osc x2 x5 x6 x12 x13 x14 x15 x19 x20)) 0 := by
  refine stepP mk_o0 (by kernel_rfl) rfl rfl ?_
  intro a w ho hI hp hB K hK
  have t3 := (ho 3 (by kernel_rfl)).trans A3
  have e3 := eval_slot t3
  clear ho hp
  unfold mk_o0
  go_simp
  exact hK _ _ hI rfl
theorem mk_s1 (Y : W0.heap[hb]? = some (.cells #[.int .i64 h.first, .int .i64 h.count, .int .i64 h.type, .int .i64 h.fnum, .int .i64 h.id, .int .i64 h.poc, .bool h.spatial, .int .i64 h.act0, .int .i64 h.act1, .slice m0 h.mods0.length m0c, .slice m1 h.mods1.length m1c, .int .i64 h.log, .int .i64 h.logc, .slice q0 h.w0.length q0c, .slice q1 h.w1.length q1c, .bool h.longkey, .slice os h.ops.length osc, .int .i64 h.qp, .bool h.off, .int .i64 h.a, .int .i64 h.b] 26 (0, 0))) : StepOk Tryz.prog mk_ops Q a0 (qI W0) (qV (mk_V ub hb s sa scap p ref key h m0 m1 q0 q1 os m0c m1c q0c q1c osc x2 x5 x6 x12 x13 x14 x15 x19 x20)) 1 := by
  refine stepP mk_o1 (by kernel_rfl) rfl rfl ?_
  intro a w ho hI hp hB K hK
  have t5 : a.tmps[5]? = some (.pointer (some ⟨hb, 15, none⟩)) := qt (hp 0 5 (by kernel_rfl)) _ rfl rfl
  have e5 := eval_slot t5
  clear ho hp
  have c0 := qcell hI Y 15 (.bool h.longkey) rfl
  unfold mk_o1
  go_simp
  exact hK _ _ hI rfl
theorem mk_s2 (hx : x2 = (!h.longkey)) : StepOk Tryz.prog mk_ops Q a0 (qI W0) (qV (mk_V ub hb s sa scap p ref key h m0 m1 q0 q1 os m0c m1c q0c q1c osc x2 x5 x6 x12 x13 x14 x15 x19 x20)) 2 := by
  refine stepP mk_o2 (by kernel_rfl) rfl rfl ?_
  intro a w ho hI hp hB K hK
  have t6 : a.tmps[6]? = some (.bool h.longkey) := qt (hp 1 6 (by kernel_rfl)) _ rfl rfl
  have e6 := eval_slot t6
  clear ho hp
  unfold mk_o2
  go_simp
  exact hK _ _ hI (congrArg (Value.bool) hx.symm)
theorem mk_s3 : StepOk Tryz.prog mk_ops Q a0 (qI W0) (qV (mk_V ub hb s sa scap p ref key h m0 m1 q0 q1 os m0c m1c q0c q1c osc x2 x5 x6 x12 x13 x14 x15 x19 x20)) 3 := by
  refine stepP mk_o3 (by kernel_rfl) rfl rfl ?_
  intro a w ho hI hp hB K hK
  have t7 : a.tmps[7]? = some (.bool x2) := qt (hp 2 7 (by kernel_rfl)) _ rfl rfl
  have e7 := eval_slot t7
  clear ho hp
  unfold mk_o3
  go_simp
  exact hK _ _ hI rfl
theorem mk_s4 (X : W0.heap[ub]? = some (.cells #[.int .i64 s.wide, .int .i64 s.high, .int .i64 s.fbits, .int .i64 s.ptype, .int .i64 s.pbits, .int .i64 s.nonref, .slice sa s.cycle.length scap, .int .i64 s.refs, .int .i64 s.delay, .bool p.cabac, .bool p.weighted, .int .i64 p.bipred, .int .i64 p.qp, .int .i64 p.chroma, .bool p.constrained, .bool p.deblock, .int .i64 p.act0, .int .i64 p.act1, .int .i64 ref, .bool key] 87 (0, 0))) (A2 : a0.tmps[2]? = some (.pointer (some ⟨ub, 0, none⟩))) : StepOk Tryz.prog mk_ops Q a0 (qI W0) (qV (mk_V ub hb s sa scap p ref key h m0 m1 q0 q1 os m0c m1c q0c q1c osc x2 x5 x6 x12 x13 x14 x15 x19 x20)) 4 := by
  refine stepG mk_o4 3 8 (by kernel_rfl) rfl (by kernel_rfl) (by kernel_rfl) rfl rfl ?_
  intro a w ho hI hp hB K hK
  have t2 := (ho 2 (by kernel_rfl)).trans A2
  have e2 := eval_slot t2
  clear ho hp
  refine wp_load_mid (P := Tryz.prog) 87 (.tmp 2) rfl ub 0 e2 [.int .i64 s.wide, .int .i64 s.high, .int .i64 s.fbits, .int .i64 s.ptype, .int .i64 s.pbits, .int .i64 s.nonref, .slice sa s.cycle.length scap, .int .i64 s.refs, .int .i64 s.delay, .bool p.cabac, .bool p.weighted, .int .i64 p.bipred, .int .i64 p.qp, .int .i64 p.chroma, .bool p.constrained, .bool p.deblock, .int .i64 p.act0, .int .i64 p.act1, .int .i64 ref, .bool key] _ (fun j v hv => qcell hI X (0 + j) v (by rw [Nat.zero_add]; simpa using hv)) Tryz.underlying87 rfl (by kernel_rfl) ?_
  exact hK _ _ hI rfl
theorem mk_s5 (hx : x5 = (key && decide (0 < ref))) : StepOk Tryz.prog mk_ops Q a0 (qI W0) (qV (mk_V ub hb s sa scap p ref key h m0 m1 q0 q1 os m0c m1c q0c q1c osc x2 x5 x6 x12 x13 x14 x15 x19 x20)) 5 := by
  refine stepG mk_o5 3 8 (by kernel_rfl) rfl (by kernel_rfl) (by kernel_rfl) rfl rfl ?_
  intro a w ho hI hp hB K hK
  have t9 : a.tmps[9]? = some (.agg #[.int .i64 s.wide, .int .i64 s.high, .int .i64 s.fbits, .int .i64 s.ptype, .int .i64 s.pbits, .int .i64 s.nonref, .slice sa s.cycle.length scap, .int .i64 s.refs, .int .i64 s.delay, .bool p.cabac, .bool p.weighted, .int .i64 p.bipred, .int .i64 p.qp, .int .i64 p.chroma, .bool p.constrained, .bool p.deblock, .int .i64 p.act0, .int .i64 p.act1, .int .i64 ref, .bool key]) := qt (hp 4 9 (by kernel_rfl)) _ rfl hB
  have e9 := eval_slot t9
  clear ho hp
  unfold mk_o5
  go_simp
  refine (marksKey_any _ s sa scap p ref key).mono ?_
  rintro e w' ⟨rfl, b⟩
  exact hK _ _ (hI.step b) (congrArg (Value.bool) hx.symm)
theorem mk_s6 (hx : x6 = (x2 || x5)) : StepOk Tryz.prog mk_ops Q a0 (qI W0) (qV (mk_V ub hb s sa scap p ref key h m0 m1 q0 q1 os m0c m1c q0c q1c osc x2 x5 x6 x12 x13 x14 x15 x19 x20)) 6 := by
  refine stepP mk_o6 (by kernel_rfl) rfl rfl ?_
  intro a w ho hI hp hB K hK
  have t8 : a.tmps[8]? = some (.bool x2) := qt (hp 3 8 (by kernel_rfl)) _ rfl rfl
  have e8 := eval_slot t8
  clear ho
  cases hq : x2 with
  | true =>
    have hz := hx.trans (by rw [hq]; rfl : _ = true)
    clear hp
    rw [hq] at e8
    unfold mk_o6
    go_simp
    exact hK _ _ hI (congrArg Value.bool hz.symm)
  | false =>
    have hz := hx.trans (by rw [hq]; rfl : _ = x5)
    have t10 : a.tmps[10]? = some (.bool x5) := qt (hp 5 10 (by kernel_rfl)) _ rfl (by rw [hq]; rfl)
    have e10 := eval_slot t10
    clear hp
    rw [hq] at e8
    unfold mk_o6
    go_simp
    exact hK _ _ hI (congrArg Value.bool hz.symm)
theorem mk_s7 : StepOk Tryz.prog mk_ops Q a0 (qI W0) (qV (mk_V ub hb s sa scap p ref key h m0 m1 q0 q1 os m0c m1c q0c q1c osc x2 x5 x6 x12 x13 x14 x15 x19 x20)) 7 := by
  refine stepP mk_o7 (by kernel_rfl) rfl rfl ?_
  intro a w ho hI hp hB K hK
  have t11 : a.tmps[11]? = some (.bool x6) := qt (hp 6 11 (by kernel_rfl)) _ rfl rfl
  have e11 := eval_slot t11
  clear ho hp
  unfold mk_o7
  go_simp
  exact hK _ _ hI rfl
theorem mk_s8 (A3 : a0.tmps[3]? = some (.pointer (some ⟨hb, 0, none⟩))) : StepOk Tryz.prog mk_ops Q a0 (qI W0) (qV (mk_V ub hb s sa scap p ref key h m0 m1 q0 q1 os m0c m1c q0c q1c osc x2 x5 x6 x12 x13 x14 x15 x19 x20)) 8 := by
  refine stepG mk_o8 7 12 (by kernel_rfl) rfl (by kernel_rfl) (by kernel_rfl) rfl rfl ?_
  intro a w ho hI hp hB K hK
  have t3 := (ho 3 (by kernel_rfl)).trans A3
  have e3 := eval_slot t3
  clear ho hp
  unfold mk_o8
  go_simp
  exact hK _ _ hI rfl
theorem mk_s9 (Y : W0.heap[hb]? = some (.cells #[.int .i64 h.first, .int .i64 h.count, .int .i64 h.type, .int .i64 h.fnum, .int .i64 h.id, .int .i64 h.poc, .bool h.spatial, .int .i64 h.act0, .int .i64 h.act1, .slice m0 h.mods0.length m0c, .slice m1 h.mods1.length m1c, .int .i64 h.log, .int .i64 h.logc, .slice q0 h.w0.length q0c, .slice q1 h.w1.length q1c, .bool h.longkey, .slice os h.ops.length osc, .int .i64 h.qp, .bool h.off, .int .i64 h.a, .int .i64 h.b] 26 (0, 0))) : StepOk Tryz.prog mk_ops Q a0 (qI W0) (qV (mk_V ub hb s sa scap p ref key h m0 m1 q0 q1 os m0c m1c q0c q1c osc x2 x5 x6 x12 x13 x14 x15 x19 x20)) 9 := by
  refine stepG mk_o9 7 12 (by kernel_rfl) rfl (by kernel_rfl) (by kernel_rfl) rfl rfl ?_
  intro a w ho hI hp hB K hK
  have t13 : a.tmps[13]? = some (.pointer (some ⟨hb, 16, none⟩)) := qt (hp 8 13 (by kernel_rfl)) _ rfl hB
  have e13 := eval_slot t13
  clear ho hp
  have c0 := qcell hI Y 16 (.slice os h.ops.length osc) rfl
  unfold mk_o9
  go_simp
  exact hK _ _ hI rfl
theorem mk_s10 : StepOk Tryz.prog mk_ops Q a0 (qI W0) (qV (mk_V ub hb s sa scap p ref key h m0 m1 q0 q1 os m0c m1c q0c q1c osc x2 x5 x6 x12 x13 x14 x15 x19 x20)) 10 := by
  refine stepG mk_o10 7 12 (by kernel_rfl) rfl (by kernel_rfl) (by kernel_rfl) rfl rfl ?_
  intro a w ho hI hp hB K hK
  have t14 : a.tmps[14]? = some (.slice os h.ops.length osc) := qt (hp 9 14 (by kernel_rfl)) _ rfl hB
  have e14 := eval_slot t14
  clear ho hp
  unfold mk_o10
  go_simp
  exact hK _ _ hI rfl
theorem mk_s11 (X : W0.heap[ub]? = some (.cells #[.int .i64 s.wide, .int .i64 s.high, .int .i64 s.fbits, .int .i64 s.ptype, .int .i64 s.pbits, .int .i64 s.nonref, .slice sa s.cycle.length scap, .int .i64 s.refs, .int .i64 s.delay, .bool p.cabac, .bool p.weighted, .int .i64 p.bipred, .int .i64 p.qp, .int .i64 p.chroma, .bool p.constrained, .bool p.deblock, .int .i64 p.act0, .int .i64 p.act1, .int .i64 ref, .bool key] 87 (0, 0))) (A2 : a0.tmps[2]? = some (.pointer (some ⟨ub, 0, none⟩))) : StepOk Tryz.prog mk_ops Q a0 (qI W0) (qV (mk_V ub hb s sa scap p ref key h m0 m1 q0 q1 os m0c m1c q0c q1c osc x2 x5 x6 x12 x13 x14 x15 x19 x20)) 11 := by
  refine stepG mk_o11 7 12 (by kernel_rfl) rfl (by kernel_rfl) (by kernel_rfl) rfl rfl ?_
  intro a w ho hI hp hB K hK
  have t2 := (ho 2 (by kernel_rfl)).trans A2
  have e2 := eval_slot t2
  clear ho hp
  refine wp_load_mid (P := Tryz.prog) 87 (.tmp 2) rfl ub 0 e2 [.int .i64 s.wide, .int .i64 s.high, .int .i64 s.fbits, .int .i64 s.ptype, .int .i64 s.pbits, .int .i64 s.nonref, .slice sa s.cycle.length scap, .int .i64 s.refs, .int .i64 s.delay, .bool p.cabac, .bool p.weighted, .int .i64 p.bipred, .int .i64 p.qp, .int .i64 p.chroma, .bool p.constrained, .bool p.deblock, .int .i64 p.act0, .int .i64 p.act1, .int .i64 ref, .bool key] _ (fun j v hv => qcell hI X (0 + j) v (by rw [Nat.zero_add]; simpa using hv)) Tryz.underlying87 rfl (by kernel_rfl) ?_
  exact hK _ _ hI rfl
theorem mk_s12 (hx : x12 = (!key && decide (0 < ref))) : StepOk Tryz.prog mk_ops Q a0 (qI W0) (qV (mk_V ub hb s sa scap p ref key h m0 m1 q0 q1 os m0c m1c q0c q1c osc x2 x5 x6 x12 x13 x14 x15 x19 x20)) 12 := by
  refine stepG mk_o12 7 12 (by kernel_rfl) rfl (by kernel_rfl) (by kernel_rfl) rfl rfl ?_
  intro a w ho hI hp hB K hK
  have t16 : a.tmps[16]? = some (.agg #[.int .i64 s.wide, .int .i64 s.high, .int .i64 s.fbits, .int .i64 s.ptype, .int .i64 s.pbits, .int .i64 s.nonref, .slice sa s.cycle.length scap, .int .i64 s.refs, .int .i64 s.delay, .bool p.cabac, .bool p.weighted, .int .i64 p.bipred, .int .i64 p.qp, .int .i64 p.chroma, .bool p.constrained, .bool p.deblock, .int .i64 p.act0, .int .i64 p.act1, .int .i64 ref, .bool key]) := qt (hp 11 16 (by kernel_rfl)) _ rfl hB
  have e16 := eval_slot t16
  clear ho hp
  unfold mk_o12
  go_simp
  refine (marksOther_any _ s sa scap p ref key).mono ?_
  rintro e w' ⟨rfl, b⟩
  exact hK _ _ (hI.step b) (congrArg (Value.bool) hx.symm)
theorem mk_s13 (hx : x13 = (if x12 = true then 16 else 0)) : StepOk Tryz.prog mk_ops Q a0 (qI W0) (qV (mk_V ub hb s sa scap p ref key h m0 m1 q0 q1 os m0c m1c q0c q1c osc x2 x5 x6 x12 x13 x14 x15 x19 x20)) 13 := by
  refine stepG mk_o13 7 12 (by kernel_rfl) rfl (by kernel_rfl) (by kernel_rfl) rfl rfl ?_
  intro a w ho hI hp hB K hK
  have t17 : a.tmps[17]? = some (.bool x12) := qt (hp 12 17 (by kernel_rfl)) _ rfl hB
  have e17 := eval_slot t17
  clear ho hp
  unfold mk_o13
  go_simp
  refine (limit_any _ _ _).mono ?_
  rintro e w' ⟨rfl, rfl⟩
  exact hK _ _ hI (congrArg (Value.int .i64) hx.symm)
theorem mk_s14 (hx : x14 = (decide ((h.ops.length : Int) ≤ x13))) : StepOk Tryz.prog mk_ops Q a0 (qI W0) (qV (mk_V ub hb s sa scap p ref key h m0 m1 q0 q1 os m0c m1c q0c q1c osc x2 x5 x6 x12 x13 x14 x15 x19 x20)) 14 := by
  refine stepG mk_o14 7 12 (by kernel_rfl) rfl (by kernel_rfl) (by kernel_rfl) rfl rfl ?_
  intro a w ho hI hp hB K hK
  have t15 : a.tmps[15]? = some (.int .i64 (h.ops.length : Int)) := qt (hp 10 15 (by kernel_rfl)) _ rfl hB
  have e15 := eval_slot t15
  have t18 : a.tmps[18]? = some (.int .i64 x13) := qt (hp 13 18 (by kernel_rfl)) _ rfl hB
  have e18 := eval_slot t18
  clear ho hp
  unfold mk_o14
  go_simp
  exact hK _ _ hI (congrArg (Value.bool) hx.symm)
theorem mk_s15 (hx : x15 = (x6 && x14)) : StepOk Tryz.prog mk_ops Q a0 (qI W0) (qV (mk_V ub hb s sa scap p ref key h m0 m1 q0 q1 os m0c m1c q0c q1c osc x2 x5 x6 x12 x13 x14 x15 x19 x20)) 15 := by
  refine stepP mk_o15 (by kernel_rfl) rfl rfl ?_
  intro a w ho hI hp hB K hK
  have t12 : a.tmps[12]? = some (.bool x6) := qt (hp 7 12 (by kernel_rfl)) _ rfl rfl
  have e12 := eval_slot t12
  clear ho
  cases hq : x6 with
  | false =>
    have hz := hx.trans (by rw [hq]; rfl : _ = false)
    clear hp
    rw [hq] at e12
    unfold mk_o15
    go_simp
    exact hK _ _ hI (congrArg Value.bool hz.symm)
  | true =>
    have hz := hx.trans (by rw [hq]; rfl : _ = x14)
    have t19 : a.tmps[19]? = some (.bool x14) := qt (hp 14 19 (by kernel_rfl)) _ rfl (by rw [hq]; rfl)
    have e19 := eval_slot t19
    clear hp
    rw [hq] at e12
    unfold mk_o15
    go_simp
    exact hK _ _ hI (congrArg Value.bool hz.symm)
theorem mk_s16 : StepOk Tryz.prog mk_ops Q a0 (qI W0) (qV (mk_V ub hb s sa scap p ref key h m0 m1 q0 q1 os m0c m1c q0c q1c osc x2 x5 x6 x12 x13 x14 x15 x19 x20)) 16 := by
  refine stepP mk_o16 (by kernel_rfl) rfl rfl ?_
  intro a w ho hI hp hB K hK
  have t20 : a.tmps[20]? = some (.bool x15) := qt (hp 15 20 (by kernel_rfl)) _ rfl rfl
  have e20 := eval_slot t20
  clear ho hp
  unfold mk_o16
  go_simp
  exact hK _ _ hI rfl
theorem mk_s17 (A3 : a0.tmps[3]? = some (.pointer (some ⟨hb, 0, none⟩))) : StepOk Tryz.prog mk_ops Q a0 (qI W0) (qV (mk_V ub hb s sa scap p ref key h m0 m1 q0 q1 os m0c m1c q0c q1c osc x2 x5 x6 x12 x13 x14 x15 x19 x20)) 17 := by
  refine stepG mk_o17 16 21 (by kernel_rfl) rfl (by kernel_rfl) (by kernel_rfl) rfl rfl ?_
  intro a w ho hI hp hB K hK
  have t3 := (ho 3 (by kernel_rfl)).trans A3
  have e3 := eval_slot t3
  clear ho hp
  unfold mk_o17
  go_simp
  exact hK _ _ hI rfl
theorem mk_s18 (Y : W0.heap[hb]? = some (.cells #[.int .i64 h.first, .int .i64 h.count, .int .i64 h.type, .int .i64 h.fnum, .int .i64 h.id, .int .i64 h.poc, .bool h.spatial, .int .i64 h.act0, .int .i64 h.act1, .slice m0 h.mods0.length m0c, .slice m1 h.mods1.length m1c, .int .i64 h.log, .int .i64 h.logc, .slice q0 h.w0.length q0c, .slice q1 h.w1.length q1c, .bool h.longkey, .slice os h.ops.length osc, .int .i64 h.qp, .bool h.off, .int .i64 h.a, .int .i64 h.b] 26 (0, 0))) : StepOk Tryz.prog mk_ops Q a0 (qI W0) (qV (mk_V ub hb s sa scap p ref key h m0 m1 q0 q1 os m0c m1c q0c q1c osc x2 x5 x6 x12 x13 x14 x15 x19 x20)) 18 := by
  refine stepG mk_o18 16 21 (by kernel_rfl) rfl (by kernel_rfl) (by kernel_rfl) rfl rfl ?_
  intro a w ho hI hp hB K hK
  have t22 : a.tmps[22]? = some (.pointer (some ⟨hb, 16, none⟩)) := qt (hp 17 22 (by kernel_rfl)) _ rfl hB
  have e22 := eval_slot t22
  clear ho hp
  have c0 := qcell hI Y 16 (.slice os h.ops.length osc) rfl
  unfold mk_o18
  go_simp
  exact hK _ _ hI rfl
theorem mk_s19 (HO : ∀ wr : World, qI W0 wr → Calls Tryz.prog 108 #[.slice os h.ops.length osc, .func (.func 109) #[] #[]] wr fun e w' => e = .returned (.bool (h.ops.all fun x => decide x.may)) ∧ Below wr.heap.size wr w') (hx : x19 = (h.ops.all fun x => decide x.may)) : StepOk Tryz.prog mk_ops Q a0 (qI W0) (qV (mk_V ub hb s sa scap p ref key h m0 m1 q0 q1 os m0c m1c q0c q1c osc x2 x5 x6 x12 x13 x14 x15 x19 x20)) 19 := by
  refine stepG mk_o19 16 21 (by kernel_rfl) rfl (by kernel_rfl) (by kernel_rfl) rfl rfl ?_
  intro a w ho hI hp hB K hK
  have t23 : a.tmps[23]? = some (.slice os h.ops.length osc) := qt (hp 18 23 (by kernel_rfl)) _ rfl hB
  have e23 := eval_slot t23
  clear ho hp
  unfold mk_o19
  go_simp
  refine (HO w hI).mono ?_
  rintro e w' ⟨rfl, b⟩
  exact hK _ _ (hI.step b) (congrArg (Value.bool) hx.symm)
theorem mk_s20 (hx : x20 = (x15 && x19)) : StepOk Tryz.prog mk_ops Q a0 (qI W0) (qV (mk_V ub hb s sa scap p ref key h m0 m1 q0 q1 os m0c m1c q0c q1c osc x2 x5 x6 x12 x13 x14 x15 x19 x20)) 20 := by
  refine stepP mk_o20 (by kernel_rfl) rfl rfl ?_
  intro a w ho hI hp hB K hK
  have t21 : a.tmps[21]? = some (.bool x15) := qt (hp 16 21 (by kernel_rfl)) _ rfl rfl
  have e21 := eval_slot t21
  clear ho
  cases hq : x15 with
  | false =>
    have hz := hx.trans (by rw [hq]; rfl : _ = false)
    clear hp
    rw [hq] at e21
    unfold mk_o20
    go_simp
    exact hK _ _ hI (congrArg Value.bool hz.symm)
  | true =>
    have hz := hx.trans (by rw [hq]; rfl : _ = x19)
    have t24 : a.tmps[24]? = some (.bool x19) := qt (hp 19 24 (by kernel_rfl)) _ rfl (by rw [hq]; rfl)
    have e24 := eval_slot t24
    clear hp
    rw [hq] at e21
    unfold mk_o20
    go_simp
    exact hK _ _ hI (congrArg Value.bool hz.symm)
theorem mk_s21 : StepOk Tryz.prog mk_ops Q a0 (qI W0) (qV (mk_V ub hb s sa scap p ref key h m0 m1 q0 q1 os m0c m1c q0c q1c osc x2 x5 x6 x12 x13 x14 x15 x19 x20)) 21 := by
  refine stepP mk_o21 (by kernel_rfl) rfl rfl ?_
  intro a w ho hI hp hB K hK
  have t25 : a.tmps[25]? = some (.bool x20) := qt (hp 20 25 (by kernel_rfl)) _ rfl rfl
  have e25 := eval_slot t25
  clear ho hp
  unfold mk_o21
  go_simp
  exact hK _ _ hI rfl
end
end Go.Proofs.YthcbgijmnonckaaGreat
