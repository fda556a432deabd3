/- Layer 4: the program's may: its region, operation by operation. -/
import Derived.Test.YthcbgijmnonckaaGreatHK
namespace Go.Proofs.YthcbgijmnonckaaGreat
open Go.RowKit Zo Zp
set_option linter.unusedVariables false

def my_o0 : Oper := { dst := some 5, op := Op.load 87 (Operand.tmp 2), type := 87, pos := "may.go:63", after := #[], guard := none }
def my_o1 : Oper := { dst := some 6, op := Op.load 26 (Operand.tmp 3), type := 26, pos := "may.go:63", after := #[], guard := none }
def my_o2 : Oper := { dst := some 7, op := Op.call { callee := Callee.value (Operand.func 76), args := #[Operand.tmp 5, Operand.tmp 6], argTypes := #[87, 26] }, type := 4, pos := "may.go:63", after := #[{ on := 0, ground := Ground.data }, { on := 1, ground := Ground.data }], guard := none }
def my_o3 : Oper := { dst := some 8, op := Op.move (Operand.tmp 7), type := 4, pos := "may.go:63", after := #[{ on := 2, ground := Ground.data }, { on := 2, ground := Ground.chain }], guard := none }
def my_o4 : Oper := { dst := some 9, op := Op.fieldAddr 26 (Operand.tmp 3) 7, type := 0, pos := "may.go:63", after := #[{ on := 3, ground := Ground.guard }], guard := some (3, true) }
def my_o5 : Oper := { dst := some 10, op := Op.load 3 (Operand.tmp 9), type := 3, pos := "may.go:63", after := #[{ on := 4, ground := Ground.data }, { on := 3, ground := Ground.guard }], guard := some (3, true) }
def my_o6 : Oper := { dst := some 11, op := Op.fieldAddr 26 (Operand.tmp 3) 9, type := 0, pos := "may.go:63", after := #[{ on := 3, ground := Ground.guard }], guard := some (3, true) }
def my_o7 : Oper := { dst := some 12, op := Op.load 22 (Operand.tmp 11), type := 22, pos := "may.go:63", after := #[{ on := 6, ground := Ground.data }, { on := 3, ground := Ground.guard }], guard := some (3, true) }
def my_o8 : Oper := { dst := some 13, op := Op.load 26 (Operand.tmp 3), type := 26, pos := "may.go:63", after := #[{ on := 3, ground := Ground.guard }], guard := some (3, true) }
def my_o9 : Oper := { dst := some 14, op := Op.call { callee := Callee.value (Operand.func 78), args := #[Operand.tmp 13], argTypes := #[26] }, type := 4, pos := "may.go:64", after := #[{ on := 8, ground := Ground.data }, { on := 3, ground := Ground.chain }, { on := 3, ground := Ground.guard }], guard := some (3, true) }
def my_o10 : Oper := { dst := some 15, op := Op.call { callee := Callee.value (Operand.func 77), args := #[Operand.tmp 10, Operand.tmp 12, Operand.tmp 14], argTypes := #[3, 22, 4] }, type := 4, pos := "may.go:64", after := #[{ on := 5, ground := Ground.data }, { on := 7, ground := Ground.data }, { on := 9, ground := Ground.data }, { on := 9, ground := Ground.chain }, { on := 3, ground := Ground.guard }], guard := some (3, true) }
def my_o11 : Oper := { dst := some 16, op := Op.pick (Operand.tmp 8) (Operand.tmp 15) (Operand.const (Value.bool false)), type := 4, pos := "may.go:63", after := #[{ on := 3, ground := Ground.data }, { on := 10, ground := Ground.data }], guard := none }
def my_o12 : Oper := { dst := some 17, op := Op.move (Operand.tmp 16), type := 4, pos := "may.go:63", after := #[{ on := 11, ground := Ground.data }, { on := 10, ground := Ground.chain }], guard := none }
def my_o13 : Oper := { dst := some 18, op := Op.fieldAddr 26 (Operand.tmp 3) 8, type := 0, pos := "may.go:63", after := #[{ on := 12, ground := Ground.guard }], guard := some (12, true) }
def my_o14 : Oper := { dst := some 19, op := Op.load 3 (Operand.tmp 18), type := 3, pos := "may.go:63", after := #[{ on := 13, ground := Ground.data }, { on := 12, ground := Ground.guard }], guard := some (12, true) }
def my_o15 : Oper := { dst := some 20, op := Op.fieldAddr 26 (Operand.tmp 3) 10, type := 0, pos := "may.go:63", after := #[{ on := 12, ground := Ground.guard }], guard := some (12, true) }
def my_o16 : Oper := { dst := some 21, op := Op.load 22 (Operand.tmp 20), type := 22, pos := "may.go:63", after := #[{ on := 15, ground := Ground.data }, { on := 12, ground := Ground.guard }], guard := some (12, true) }
def my_o17 : Oper := { dst := some 22, op := Op.load 26 (Operand.tmp 3), type := 26, pos := "may.go:63", after := #[{ on := 12, ground := Ground.guard }], guard := some (12, true) }
def my_o18 : Oper := { dst := some 23, op := Op.call { callee := Callee.value (Operand.func 79), args := #[Operand.tmp 22], argTypes := #[26] }, type := 4, pos := "may.go:65", after := #[{ on := 17, ground := Ground.data }, { on := 12, ground := Ground.chain }, { on := 12, ground := Ground.guard }], guard := some (12, true) }
def my_o19 : Oper := { dst := some 24, op := Op.call { callee := Callee.value (Operand.func 77), args := #[Operand.tmp 19, Operand.tmp 21, Operand.tmp 23], argTypes := #[3, 22, 4] }, type := 4, pos := "may.go:65", after := #[{ on := 14, ground := Ground.data }, { on := 16, ground := Ground.data }, { on := 18, ground := Ground.data }, { on := 18, ground := Ground.chain }, { on := 12, ground := Ground.guard }], guard := some (12, true) }
def my_o20 : Oper := { dst := some 25, op := Op.pick (Operand.tmp 17) (Operand.tmp 24) (Operand.const (Value.bool false)), type := 4, pos := "may.go:63", after := #[{ on := 12, ground := Ground.data }, { on := 19, ground := Ground.data }], guard := none }
def my_o21 : Oper := { dst := some 26, op := Op.move (Operand.tmp 25), type := 4, pos := "may.go:63", after := #[{ on := 20, ground := Ground.data }, { on := 19, ground := Ground.chain }], guard := none }
def my_o22 : Oper := { dst := some 27, op := Op.load 87 (Operand.tmp 2), type := 87, pos := "may.go:63", after := #[{ on := 21, ground := Ground.guard }], guard := some (21, true) }
def my_o23 : Oper := { dst := some 28, op := Op.load 26 (Operand.tmp 3), type := 26, pos := "may.go:63", after := #[{ on := 21, ground := Ground.guard }], guard := some (21, true) }
def my_o24 : Oper := { dst := some 29, op := Op.call { callee := Callee.value (Operand.func 80), args := #[Operand.tmp 27, Operand.tmp 28], argTypes := #[87, 26] }, type := 4, pos := "may.go:66", after := #[{ on := 22, ground := Ground.data }, { on := 23, ground := Ground.data }, { on := 21, ground := Ground.chain }, { on := 21, ground := Ground.guard }], guard := some (21, true) }
def my_o25 : Oper := { dst := some 30, op := Op.pick (Operand.tmp 26) (Operand.tmp 29) (Operand.const (Value.bool false)), type := 4, pos := "may.go:63", after := #[{ on := 21, ground := Ground.data }, { on := 24, ground := Ground.data }], guard := none }
def my_o26 : Oper := { dst := some 31, op := Op.move (Operand.tmp 30), type := 4, pos := "may.go:63", after := #[{ on := 25, ground := Ground.data }, { on := 24, ground := Ground.chain }], guard := none }
def my_o27 : Oper := { dst := some 32, op := Op.load 87 (Operand.tmp 2), type := 87, pos := "may.go:63", after := #[{ on := 26, ground := Ground.guard }], guard := some (26, true) }
def my_o28 : Oper := { dst := some 33, op := Op.load 26 (Operand.tmp 3), type := 26, pos := "may.go:63", after := #[{ on := 26, ground := Ground.guard }], guard := some (26, true) }
def my_o29 : Oper := { dst := some 34, op := Op.call { callee := Callee.value (Operand.func 81), args := #[Operand.tmp 32, Operand.tmp 33], argTypes := #[87, 26] }, type := 4, pos := "may.go:67", after := #[{ on := 27, ground := Ground.data }, { on := 28, ground := Ground.data }, { on := 26, ground := Ground.chain }, { on := 26, ground := Ground.guard }], guard := some (26, true) }
def my_o30 : Oper := { dst := some 35, op := Op.pick (Operand.tmp 31) (Operand.tmp 34) (Operand.const (Value.bool false)), type := 4, pos := "may.go:63", after := #[{ on := 26, ground := Ground.data }, { on := 29, ground := Ground.data }], guard := none }
def my_o31 : Oper := { dst := some 36, op := Op.move (Operand.tmp 35), type := 4, pos := "may.go:63", after := #[{ on := 30, ground := Ground.data }, { on := 29, ground := Ground.chain }], guard := none }
def my_o32 : Oper := { dst := some 37, op := Op.load 87 (Operand.tmp 2), type := 87, pos := "may.go:63", after := #[{ on := 31, ground := Ground.guard }], guard := some (31, true) }
def my_o33 : Oper := { dst := some 38, op := Op.load 26 (Operand.tmp 3), type := 26, pos := "may.go:63", after := #[{ on := 31, ground := Ground.guard }], guard := some (31, true) }
def my_o34 : Oper := { dst := some 39, op := Op.call { callee := Callee.value (Operand.func 82), args := #[Operand.tmp 37, Operand.tmp 38], argTypes := #[87, 26] }, type := 4, pos := "may.go:68", after := #[{ on := 32, ground := Ground.data }, { on := 33, ground := Ground.data }, { on := 31, ground := Ground.chain }, { on := 31, ground := Ground.guard }], guard := some (31, true) }
def my_o35 : Oper := { dst := some 40, op := Op.pick (Operand.tmp 36) (Operand.tmp 39) (Operand.const (Value.bool false)), type := 4, pos := "may.go:63", after := #[{ on := 31, ground := Ground.data }, { on := 34, ground := Ground.data }], guard := none }
def my_o36 : Oper := { dst := some 4, op := Op.assign (Operand.tmp 40), type := 4, pos := "may.go:63", after := #[{ on := 35, ground := Ground.data }, { on := 34, ground := Ground.chain }, { on := 0, ground := Ground.phase }, { on := 1, ground := Ground.phase }, { on := 2, ground := Ground.phase }, { on := 3, ground := Ground.phase }, { on := 4, ground := Ground.phase }, { on := 5, ground := Ground.phase }, { on := 6, ground := Ground.phase }, { on := 7, ground := Ground.phase }, { on := 8, ground := Ground.phase }, { on := 9, ground := Ground.phase }, { on := 10, ground := Ground.phase }, { on := 11, ground := Ground.phase }, { on := 12, ground := Ground.phase }, { on := 13, ground := Ground.phase }, { on := 14, ground := Ground.phase }, { on := 15, ground := Ground.phase }, { on := 16, ground := Ground.phase }, { on := 17, ground := Ground.phase }, { on := 18, ground := Ground.phase }, { on := 19, ground := Ground.phase }, { on := 20, ground := Ground.phase }, { on := 21, ground := Ground.phase }, { on := 22, ground := Ground.phase }, { on := 23, ground := Ground.phase }, { on := 24, ground := Ground.phase }, { on := 25, ground := Ground.phase }, { on := 26, ground := Ground.phase }, { on := 27, ground := Ground.phase }, { on := 28, ground := Ground.phase }, { on := 29, ground := Ground.phase }, { on := 30, ground := Ground.phase }, { on := 31, ground := Ground.phase }, { on := 32, ground := Ground.phase }, { on := 33, ground := Ground.phase }, { on := 34, ground := Ground.phase }, { on := 35, ground := Ground.phase }], guard := none }
def my_ops : Array Oper := #[my_o0, my_o1, my_o2, my_o3, my_o4, my_o5, my_o6, my_o7, my_o8, my_o9, my_o10, my_o11, my_o12, my_o13, my_o14, my_o15, my_o16, my_o17, my_o18, my_o19, my_o20, my_o21, my_o22, my_o23, my_o24, my_o25, my_o26, my_o27, my_o28, my_o29, my_o30, my_o31, my_o32, my_o33, my_o34, my_o35, my_o36]
def my_V (ub hb : Nat) (s : SpsN) (sa : Option Addr) (scap : Nat) (p : PpsN) (ref : Int) (key : Bool) (h : HeadN) (m0 m1 q0 q1 os : Option Addr) (m0c m1c q0c q1c osc : Nat) (cb cw cm ce : Bool) (x2 : Bool) (x9 : Bool) (x10 : Bool) (x11 : Bool) (x18 : Bool) (x19 : Bool) (x20 : Bool) (x24 : Bool) (x25 : Bool) (x29 : Bool) (x30 : Bool) (x34 : Bool) (x35 : Bool) : List (Bool × Value) := [(true, .agg #[.int .i64 s.wide, .int .i64 s.high, .int .i64 s.fbits, .int .i64 s.ptype, .int .i64 s.pbits, .int .i64 s.nonref, .slice sa s.cycle.length scap, .int .i64 s.refs, .int .i64 s.delay, .bool p.cabac, .bool p.weighted, .int .i64 p.bipred, .int .i64 p.qp, .int .i64 p.chroma, .bool p.constrained, .bool p.deblock, .int .i64 p.act0, .int .i64 p.act1, .int .i64 ref, .bool key]), (true, .agg #[.int .i64 h.first, .int .i64 h.count, .int .i64 h.type, .int .i64 h.fnum, .int .i64 h.id, .int .i64 h.poc, .bool h.spatial, .int .i64 h.act0, .int .i64 h.act1, .slice m0 h.mods0.length m0c, .slice m1 h.mods1.length m1c, .int .i64 h.log, .int .i64 h.logc, .slice q0 h.w0.length q0c, .slice q1 h.w1.length q1c, .bool h.longkey, .slice os h.ops.length osc, .int .i64 h.qp, .bool h.off, .int .i64 h.a, .int .i64 h.b]), (true, .bool x2), (true, .bool x2), ((true && (x2 == true)), .pointer (some ⟨hb, 7, none⟩)), ((true && (x2 == true)), .int .i64 h.act0), ((true && (x2 == true)), .pointer (some ⟨hb, 9, none⟩)), ((true && (x2 == true)), .slice m0 h.mods0.length m0c), ((true && (x2 == true)), .agg #[.int .i64 h.first, .int .i64 h.count, .int .i64 h.type, .int .i64 h.fnum, .int .i64 h.id, .int .i64 h.poc, .bool h.spatial, .int .i64 h.act0, .int .i64 h.act1, .slice m0 h.mods0.length m0c, .slice m1 h.mods1.length m1c, .int .i64 h.log, .int .i64 h.logc, .slice q0 h.w0.length q0c, .slice q1 h.w1.length q1c, .bool h.longkey, .slice os h.ops.length osc, .int .i64 h.qp, .bool h.off, .int .i64 h.a, .int .i64 h.b]), ((true && (x2 == true)), .bool x9), ((true && (x2 == true)), .bool x10), (true, .bool x11), (true, .bool x11), ((true && (x11 == true)), .pointer (some ⟨hb, 8, none⟩)), ((true && (x11 == true)), .int .i64 h.act1), ((true && (x11 == true)), .pointer (some ⟨hb, 10, none⟩)), ((true && (x11 == true)), .slice m1 h.mods1.length m1c), ((true && (x11 == true)), .agg #[.int .i64 h.first, .int .i64 h.count, .int .i64 h.type, .int .i64 h.fnum, .int .i64 h.id, .int .i64 h.poc, .bool h.spatial, .int .i64 h.act0, .int .i64 h.act1, .slice m0 h.mods0.length m0c, .slice m1 h.mods1.length m1c, .int .i64 h.log, .int .i64 h.logc, .slice q0 h.w0.length q0c, .slice q1 h.w1.length q1c, .bool h.longkey, .slice os h.ops.length osc, .int .i64 h.qp, .bool h.off, .int .i64 h.a, .int .i64 h.b]), ((true && (x11 == true)), .bool x18), ((true && (x11 == true)), .bool x19), (true, .bool x20), (true, .bool x20), ((true && (x20 == true)), .agg #[.int .i64 s.wide, .int .i64 s.high, .int .i64 s.fbits, .int .i64 s.ptype, .int .i64 s.pbits, .int .i64 s.nonref, .slice sa s.cycle.length scap, .int .i64 s.refs, .int .i64 s.delay, .bool p.cabac, .bool p.weighted, .int .i64 p.bipred, .int .i64 p.qp, .int .i64 p.chroma, .bool p.constrained, .bool p.deblock, .int .i64 p.act0, .int .i64 p.act1, .int .i64 ref, .bool key]), ((true && (x20 == true)), .agg #[.int .i64 h.first, .int .i64 h.count, .int .i64 h.type, .int .i64 h.fnum, .int .i64 h.id, .int .i64 h.poc, .bool h.spatial, .int .i64 h.act0, .int .i64 h.act1, .slice m0 h.mods0.length m0c, .slice m1 h.mods1.length m1c, .int .i64 h.log, .int .i64 h.logc, .slice q0 h.w0.length q0c, .slice q1 h.w1.length q1c, .bool h.longkey, .slice os h.ops.length osc, .int .i64 h.qp, .bool h.off, .int .i64 h.a, .int .i64 h.b]), ((true && (x20 == true)), .bool x24), (true, .bool x25), (true, .bool x25), ((true && (x25 == true)), .agg #[.int .i64 s.wide, .int .i64 s.high, .int .i64 s.fbits, .int .i64 s.ptype, .int .i64 s.pbits, .int .i64 s.nonref, .slice sa s.cycle.length scap, .int .i64 s.refs, .int .i64 s.delay, .bool p.cabac, .bool p.weighted, .int .i64 p.bipred, .int .i64 p.qp, .int .i64 p.chroma, .bool p.constrained, .bool p.deblock, .int .i64 p.act0, .int .i64 p.act1, .int .i64 ref, .bool key]), ((true && (x25 == true)), .agg #[.int .i64 h.first, .int .i64 h.count, .int .i64 h.type, .int .i64 h.fnum, .int .i64 h.id, .int .i64 h.poc, .bool h.spatial, .int .i64 h.act0, .int .i64 h.act1, .slice m0 h.mods0.length m0c, .slice m1 h.mods1.length m1c, .int .i64 h.log, .int .i64 h.logc, .slice q0 h.w0.length q0c, .slice q1 h.w1.length q1c, .bool h.longkey, .slice os h.ops.length osc, .int .i64 h.qp, .bool h.off, .int .i64 h.a, .int .i64 h.b]), ((true && (x25 == true)), .bool x29), (true, .bool x30), (true, .bool x30), ((true && (x30 == true)), .agg #[.int .i64 s.wide, .int .i64 s.high, .int .i64 s.fbits, .int .i64 s.ptype, .int .i64 s.pbits, .int .i64 s.nonref, .slice sa s.cycle.length scap, .int .i64 s.refs, .int .i64 s.delay, .bool p.cabac, .bool p.weighted, .int .i64 p.bipred, .int .i64 p.qp, .int .i64 p.chroma, .bool p.constrained, .bool p.deblock, .int .i64 p.act0, .int .i64 p.act1, .int .i64 ref, .bool key]), ((true && (x30 == true)), .agg #[.int .i64 h.first, .int .i64 h.count, .int .i64 h.type, .int .i64 h.fnum, .int .i64 h.id, .int .i64 h.poc, .bool h.spatial, .int .i64 h.act0, .int .i64 h.act1, .slice m0 h.mods0.length m0c, .slice m1 h.mods1.length m1c, .int .i64 h.log, .int .i64 h.logc, .slice q0 h.w0.length q0c, .slice q1 h.w1.length q1c, .bool h.longkey, .slice os h.ops.length osc, .int .i64 h.qp, .bool h.off, .int .i64 h.a, .int .i64 h.b]), ((true && (x30 == true)), .bool x34), (true, .bool x35), (true, .bool x35)]
section
set_option maxRecDepth 100000
set_option maxHeartbeats 1000000
variable {ub hb : Nat} {s : SpsN} {sa : Option Addr} {scap : Nat} {p : PpsN} {ref : Int} {key : Bool} {h : HeadN} {m0 m1 q0 q1 os : Option Addr} {m0c m1c q0c q1c osc : Nat} {cb cw cm ce : Bool} {x2 : Bool} {x9 : Bool} {x10 : Bool} {x11 : Bool} {x18 : Bool} {x19 : Bool} {x20 : Bool} {x24 : Bool} {x25 : Bool} {x29 : Bool} {x30 : Bool} {x34 : Bool} {x35 : Bool} {Q : Exit → Act → World → Prop} {a0 : Act} {W0 : World}
theorem my_s0 (X : W0.heap[ub]? = some (.cells #[.int .i64 s.wide, .int .i64 s.high, .int .i64 s.fbits, .int .i64 s.ptype, .int .i64 s.pbits, .int .i64 s.nonref, .slice sa s.cycle.length scap, .int .i64 s.refs, .int .i64 s.delay, .bool p.cabac, .bool p.weighted, .int .i64 p.bipred, .int .i64 p.qp, .int .i64 p.chroma, .bool p.constrained, .bool p.deblock, .int .i64 p.act0, .int .i64 p.act1, .int .i64 ref, .bool key] 87 (0, 0))) (A2 : a0.tmps[2]? = some (.pointer (some ⟨ub, 0, none⟩))) : StepOk Tryz.prog my_ops Q a0 (qI W0) (qV (my_V ub hb s sa scap p ref key h m0 m1 q0 q1 os m0c m1c q0c q1c osc cb cw cm ce x2 x9 x10 x11 x18 x19 x20 x24 x25 x29 x30 x34 x35)) 0 := by
  refine stepP my_o0 (by kernel_rfl) rfl rfl ?_
  intro a w ho hI hp hB K hK
  have t2 := (ho 2 (by kernel_rfl)).trans A2
  have e2 := eval_slot t2
  clear ho hp
  refine wp_load_mid (P := Tryz.prog) 87 (.tmp 2) rfl ub 0 e2 [.int .i64 s.wide, .int .i64 s.high, .int .i64 s.fbits, .int .i64 s.ptype, .int .i64 s.pbits, .int .i64 s.nonref, .slice sa s.cycle.length scap, .int .i64 s.refs, .int .i64 s.delay, .bool p.cabac, .bool p.weighted, .int .i64 p.bipred, .int .i64 p.qp, .int .i64 p.chroma, .bool p.constrained, .bool p.deblock, .int .i64 p.act0, .int .i64 p.act1, .int .i64 ref, .bool key] _ (fun j v hv => qcell hI X (0 + j) v (by rw [Nat.zero_add]; simpa using hv)) Tryz.underlying87 rfl (by kernel_rfl) ?_
  exact hK _ _ hI rfl
theorem my_s1 (Y : W0.heap[hb]? = some (.cells #[.int .i64 h.first, .int .i64 h.count, .int .i64 h.type, .int .i64 h.fnum, .int .i64 h.id, .int .i64 h.poc, .bool h.spatial, .int .i64 h.act0, .int .i64 h.act1, .slice m0 h.mods0.length m0c, .slice m1 h.mods1.length m1c, .int .i64 h.log, .int .i64 h.logc, .slice q0 h.w0.length q0c, .slice q1 h.w1.length q1c, .bool h.longkey, .slice os h.ops.length osc, .int .i64 h.qp, .bool h.off, .int .i64 h.a, .int .i64 h.b] 26 (0, 0))) (A3 : a0.tmps[3]? = some (.pointer (some ⟨hb, 0, none⟩))) : StepOk Tryz.prog my_ops Q a0 (qI W0) (qV (my_V ub hb s sa scap p ref key h m0 m1 q0 q1 os m0c m1c q0c q1c osc cb cw cm ce x2 x9 x10 x11 x18 x19 x20 x24 x25 x29 x30 x34 x35)) 1 := by
  refine stepP my_o1 (by kernel_rfl) rfl rfl ?_
  intro a w ho hI hp hB K hK
  have t3 := (ho 3 (by kernel_rfl)).trans A3
  have e3 := eval_slot t3
  clear ho hp
  refine wp_load_mid (P := Tryz.prog) 26 (.tmp 3) rfl hb 0 e3 [.int .i64 h.first, .int .i64 h.count, .int .i64 h.type, .int .i64 h.fnum, .int .i64 h.id, .int .i64 h.poc, .bool h.spatial, .int .i64 h.act0, .int .i64 h.act1, .slice m0 h.mods0.length m0c, .slice m1 h.mods1.length m1c, .int .i64 h.log, .int .i64 h.logc, .slice q0 h.w0.length q0c, .slice q1 h.w1.length q1c, .bool h.longkey, .slice os h.ops.length osc, .int .i64 h.qp, .bool h.off, .int .i64 h.a, .int .i64 h.b] _ (fun j v hv => qcell hI Y (0 + j) v (by rw [Nat.zero_add]; simpa using hv)) Tryz.underlying26 rfl (by kernel_rfl) ?_
  exact hK _ _ hI rfl
theorem my_s2 (HBG : ∀ wr : World, qI W0 wr → Calls Tryz.prog 76 #[.agg #[.int .i64 s.wide, .int .i64 s.high, .int .i64 s.fbits, .int .i64 s.ptype, .int .i64 s.pbits, .int .i64 s.nonref, .slice sa s.cycle.length scap, .int .i64 s.refs, .int .i64 s.delay, .bool p.cabac, .bool p.weighted, .int .i64 p.bipred, .int .i64 p.qp, .int .i64 p.chroma, .bool p.constrained, .bool p.deblock, .int .i64 p.act0, .int .i64 p.act1, .int .i64 ref, .bool key], .agg #[.int .i64 h.first, .int .i64 h.count, .int .i64 h.type, .int .i64 h.fnum, .int .i64 h.id, .int .i64 h.poc, .bool h.spatial, .int .i64 h.act0, .int .i64 h.act1, .slice m0 h.mods0.length m0c, .slice m1 h.mods1.length m1c, .int .i64 h.log, .int .i64 h.logc, .slice q0 h.w0.length q0c, .slice q1 h.w1.length q1c, .bool h.longkey, .slice os h.ops.length osc, .int .i64 h.qp, .bool h.off, .int .i64 h.a, .int .i64 h.b]] wr fun e w' => e = .returned (.bool cb) ∧ Below wr.heap.size wr w') (hx : x2 = (cb)) : StepOk Tryz.prog my_ops Q a0 (qI W0) (qV (my_V ub hb s sa scap p ref key h m0 m1 q0 q1 os m0c m1c q0c q1c osc cb cw cm ce x2 x9 x10 x11 x18 x19 x20 x24 x25 x29 x30 x34 x35)) 2 := by
  refine stepP my_o2 (by kernel_rfl) rfl rfl ?_
  intro a w ho hI hp hB K hK
  have t5 : a.tmps[5]? = some (.agg #[.int .i64 s.wide, .int .i64 s.high, .int .i64 s.fbits, .int .i64 s.ptype, .int .i64 s.pbits, .int .i64 s.nonref, .slice sa s.cycle.length scap, .int .i64 s.refs, .int .i64 s.delay, .bool p.cabac, .bool p.weighted, .int .i64 p.bipred, .int .i64 p.qp, .int .i64 p.chroma, .bool p.constrained, .bool p.deblock, .int .i64 p.act0, .int .i64 p.act1, .int .i64 ref, .bool key]) := qt (hp 0 5 (by kernel_rfl)) _ rfl rfl
  have e5 := eval_slot t5
  have t6 : a.tmps[6]? = some (.agg #[.int .i64 h.first, .int .i64 h.count, .int .i64 h.type, .int .i64 h.fnum, .int .i64 h.id, .int .i64 h.poc, .bool h.spatial, .int .i64 h.act0, .int .i64 h.act1, .slice m0 h.mods0.length m0c, .slice m1 h.mods1.length m1c, .int .i64 h.log, .int .i64 h.logc, .slice q0 h.w0.length q0c, .slice q1 h.w1.length q1c, .bool h.longkey, .slice os h.ops.length osc, .int .i64 h.qp, .bool h.off, .int .i64 h.a, .int .i64 h.b]) := qt (hp 1 6 (by kernel_rfl)) _ rfl rfl
  have e6 := eval_slot t6
  clear ho hp
  unfold my_o2
  go_simp
  refine (HBG w hI).mono ?_
  rintro e w' ⟨rfl, b⟩
  exact hK _ _ (hI.step b) (congrArg (Value.bool) hx.symm)
theorem my_s3 : StepOk Tryz.prog my_ops Q a0 (qI W0) (qV (my_V ub hb s sa scap p ref key h m0 m1 q0 q1 os m0c m1c q0c q1c osc cb cw cm ce x2 x9 x10 x11 x18 x19 x20 x24 x25 x29 x30 x34 x35)) 3 := by
  refine stepP my_o3 (by kernel_rfl) rfl rfl ?_
  intro a w ho hI hp hB K hK
  have t7 : a.tmps[7]? = some (.bool x2) := qt (hp 2 7 (by kernel_rfl)) _ rfl rfl
  have e7 := eval_slot t7
  clear ho hp
  unfold my_o3
  go_simp
  exact hK _ _ hI rfl
theorem my_s4 (A3 : a0.tmps[3]? = some (.pointer (some ⟨hb, 0, none⟩))) : StepOk Tryz.prog my_ops Q a0 (qI W0) (qV (my_V ub hb s sa scap p ref key h m0 m1 q0 q1 os m0c m1c q0c q1c osc cb cw cm ce x2 x9 x10 x11 x18 x19 x20 x24 x25 x29 x30 x34 x35)) 4 := by
  refine stepG my_o4 3 8 (by kernel_rfl) rfl (by kernel_rfl) (by kernel_rfl) rfl rfl ?_
  intro a w ho hI hp hB K hK
  have t3 := (ho 3 (by kernel_rfl)).trans A3
  have e3 := eval_slot t3
  clear ho hp
  unfold my_o4
  go_simp
  exact hK _ _ hI rfl
theorem my_s5 (Y : W0.heap[hb]? = some (.cells #[.int .i64 h.first, .int .i64 h.count, .int .i64 h.type, .int .i64 h.fnum, .int .i64 h.id, .int .i64 h.poc, .bool h.spatial, .int .i64 h.act0, .int .i64 h.act1, .slice m0 h.mods0.length m0c, .slice m1 h.mods1.length m1c, .int .i64 h.log, .int .i64 h.logc, .slice q0 h.w0.length q0c, .slice q1 h.w1.length q1c, .bool h.longkey, .slice os h.ops.length osc, .int .i64 h.qp, .bool h.off, .int .i64 h.a, .int .i64 h.b] 26 (0, 0))) : StepOk Tryz.prog my_ops Q a0 (qI W0) (qV (my_V ub hb s sa scap p ref key h m0 m1 q0 q1 os m0c m1c q0c q1c osc cb cw cm ce x2 x9 x10 x11 x18 x19 x20 x24 x25 x29 x30 x34 x35)) 5 := by
  refine stepG my_o5 3 8 (by kernel_rfl) rfl (by kernel_rfl) (by kernel_rfl) rfl rfl ?_
  intro a w ho hI hp hB K hK
  have t9 : a.tmps[9]? = some (.pointer (some ⟨hb, 7, none⟩)) := qt (hp 4 9 (by kernel_rfl)) _ rfl hB
  have e9 := eval_slot t9
  clear ho hp
  have c0 := qcell hI Y 7 (.int .i64 h.act0) rfl
  unfold my_o5
  go_simp
  exact hK _ _ hI rfl
theorem my_s6 (A3 : a0.tmps[3]? = some (.pointer (some ⟨hb, 0, none⟩))) : StepOk Tryz.prog my_ops Q a0 (qI W0) (qV (my_V ub hb s sa scap p ref key h m0 m1 q0 q1 os m0c m1c q0c q1c osc cb cw cm ce x2 x9 x10 x11 x18 x19 x20 x24 x25 x29 x30 x34 x35)) 6 := by
  refine stepG my_o6 3 8 (by kernel_rfl) rfl (by kernel_rfl) (by kernel_rfl) rfl rfl ?_
  intro a w ho hI hp hB K hK
  have t3 := (ho 3 (by kernel_rfl)).trans A3
  have e3 := eval_slot t3
  clear ho hp
  unfold my_o6
  go_simp
  exact hK _ _ hI rfl
theorem my_s7 (Y : W0.heap[hb]? = some (.cells #[.int .i64 h.first, .int .i64 h.count, .int .i64 h.type, .int .i64 h.fnum, .int .i64 h.id, .int .i64 h.poc, .bool h.spatial, .int .i64 h.act0, .int .i64 h.act1, .slice m0 h.mods0.length m0c, .slice m1 h.mods1.length m1c, .int .i64 h.log, .int .i64 h.logc, .slice q0 h.w0.length q0c, .slice q1 h.w1.length q1c, .bool h.longkey, .slice os h.ops.length osc, .int .i64 h.qp, .bool h.off, .int .i64 h.a, .int .i64 h.b] 26 (0, 0))) : StepOk Tryz.prog my_ops Q a0 (qI W0) (qV (my_V ub hb s sa scap p ref key h m0 m1 q0 q1 os m0c m1c q0c q1c osc cb cw cm ce x2 x9 x10 x11 x18 x19 x20 x24 x25 x29 x30 x34 x35)) 7 := by
  refine stepG my_o7 3 8 (by kernel_rfl) rfl (by kernel_rfl) (by kernel_rfl) rfl rfl ?_
  intro a w ho hI hp hB K hK
  have t11 : a.tmps[11]? = some (.pointer (some ⟨hb, 9, none⟩)) := qt (hp 6 11 (by kernel_rfl)) _ rfl hB
  have e11 := eval_slot t11
  clear ho hp
  have c0 := qcell hI Y 9 (.slice m0 h.mods0.length m0c) rfl
  unfold my_o7
  go_simp
  exact hK _ _ hI rfl
theorem my_s8 (Y : W0.heap[hb]? = some (.cells #[.int .i64 h.first, .int .i64 h.count, .int .i64 h.type, .int .i64 h.fnum, .int .i64 h.id, .int .i64 h.poc, .bool h.spatial, .int .i64 h.act0, .int .i64 h.act1, .slice m0 h.mods0.length m0c, .slice m1 h.mods1.length m1c, .int .i64 h.log, .int .i64 h.logc, .slice q0 h.w0.length q0c, .slice q1 h.w1.length q1c, .bool h.longkey, .slice os h.ops.length osc, .int .i64 h.qp, .bool h.off, .int .i64 h.a, .int .i64 h.b] 26 (0, 0))) (A3 : a0.tmps[3]? = some (.pointer (some ⟨hb, 0, none⟩))) : StepOk Tryz.prog my_ops Q a0 (qI W0) (qV (my_V ub hb s sa scap p ref key h m0 m1 q0 q1 os m0c m1c q0c q1c osc cb cw cm ce x2 x9 x10 x11 x18 x19 x20 x24 x25 x29 x30 x34 x35)) 8 := by
  refine stepG my_o8 3 8 (by kernel_rfl) rfl (by kernel_rfl) (by kernel_rfl) rfl rfl ?_
  intro a w ho hI hp hB K hK
  have t3 := (ho 3 (by kernel_rfl)).trans A3
  have e3 := eval_slot t3
  clear ho hp
  refine wp_load_mid (P := Tryz.prog) 26 (.tmp 3) rfl hb 0 e3 [.int .i64 h.first, .int .i64 h.count, .int .i64 h.type, .int .i64 h.fnum, .int .i64 h.id, .int .i64 h.poc, .bool h.spatial, .int .i64 h.act0, .int .i64 h.act1, .slice m0 h.mods0.length m0c, .slice m1 h.mods1.length m1c, .int .i64 h.log, .int .i64 h.logc, .slice q0 h.w0.length q0c, .slice q1 h.w1.length q1c, .bool h.longkey, .slice os h.ops.length osc, .int .i64 h.qp, .bool h.off, .int .i64 h.a, .int .i64 h.b] _ (fun j v hv => qcell hI Y (0 + j) v (by rw [Nat.zero_add]; simpa using hv)) Tryz.underlying26 rfl (by kernel_rfl) ?_
  exact hK _ _ hI rfl
theorem my_s9 (hx : x9 = (h.type == 0 || h.type == 1)) : StepOk Tryz.prog my_ops Q a0 (qI W0) (qV (my_V ub hb s sa scap p ref key h m0 m1 q0 q1 os m0c m1c q0c q1c osc cb cw cm ce x2 x9 x10 x11 x18 x19 x20 x24 x25 x29 x30 x34 x35)) 9 := by
  refine stepG my_o9 3 8 (by kernel_rfl) rfl (by kernel_rfl) (by kernel_rfl) rfl rfl ?_
  intro a w ho hI hp hB K hK
  have t13 : a.tmps[13]? = some (.agg #[.int .i64 h.first, .int .i64 h.count, .int .i64 h.type, .int .i64 h.fnum, .int .i64 h.id, .int .i64 h.poc, .bool h.spatial, .int .i64 h.act0, .int .i64 h.act1, .slice m0 h.mods0.length m0c, .slice m1 h.mods1.length m1c, .int .i64 h.log, .int .i64 h.logc, .slice q0 h.w0.length q0c, .slice q1 h.w1.length q1c, .bool h.longkey, .slice os h.ops.length osc, .int .i64 h.qp, .bool h.off, .int .i64 h.a, .int .i64 h.b]) := qt (hp 8 13 (by kernel_rfl)) _ rfl hB
  have e13 := eval_slot t13
  clear ho hp
  unfold my_o9
  go_simp
  refine (hasFirst_any _ h m0 m1 q0 q1 os m0c m1c q0c q1c osc).mono ?_
  rintro e w' ⟨rfl, b⟩
  exact hK _ _ (hI.step b) (congrArg (Value.bool) hx.symm)
theorem my_s10 (HR0 : ∀ wr : World, qI W0 wr → ∀ is : Bool, Calls Tryz.prog 77 #[.int .i64 h.act0, .slice m0 h.mods0.length m0c, .bool is] wr fun e w' => e = .returned (.bool (referB h.act0 h.mods0 is)) ∧ Below wr.heap.size wr w') (hx : x10 = (referB h.act0 h.mods0 x9)) : StepOk Tryz.prog my_ops Q a0 (qI W0) (qV (my_V ub hb s sa scap p ref key h m0 m1 q0 q1 os m0c m1c q0c q1c osc cb cw cm ce x2 x9 x10 x11 x18 x19 x20 x24 x25 x29 x30 x34 x35)) 10 := by
  refine stepG my_o10 3 8 (by kernel_rfl) rfl (by kernel_rfl) (by kernel_rfl) rfl rfl ?_
  intro a w ho hI hp hB K hK
  have t10 : a.tmps[10]? = some (.int .i64 h.act0) := qt (hp 5 10 (by kernel_rfl)) _ rfl hB
  have e10 := eval_slot t10
  have t12 : a.tmps[12]? = some (.slice m0 h.mods0.length m0c) := qt (hp 7 12 (by kernel_rfl)) _ rfl hB
  have e12 := eval_slot t12
  have t14 : a.tmps[14]? = some (.bool x9) := qt (hp 9 14 (by kernel_rfl)) _ rfl hB
  have e14 := eval_slot t14
  clear ho hp
  unfold my_o10
  go_simp
  refine (HR0 w hI x9).mono ?_
  rintro e w' ⟨rfl, b⟩
  exact hK _ _ (hI.step b) (congrArg (Value.bool) hx.symm)
theorem my_s11 (hx : x11 = (x2 && x10)) : StepOk Tryz.prog my_ops Q a0 (qI W0) (qV (my_V ub hb s sa scap p ref key h m0 m1 q0 q1 os m0c m1c q0c q1c osc cb cw cm ce x2 x9 x10 x11 x18 x19 x20 x24 x25 x29 x30 x34 x35)) 11 := by
  refine stepP my_o11 (by kernel_rfl) rfl rfl ?_
  intro a w ho hI hp hB K hK
  have t8 : a.tmps[8]? = some (.bool x2) := qt (hp 3 8 (by kernel_rfl)) _ rfl rfl
  have e8 := eval_slot t8
  clear ho
  cases hq : x2 with
  | false =>
    have hz := hx.trans (by rw [hq]; rfl : _ = false)
    clear hp
    rw [hq] at e8
    unfold my_o11
    go_simp
    exact hK _ _ hI (congrArg Value.bool hz.symm)
  | true =>
    have hz := hx.trans (by rw [hq]; rfl : _ = x10)
    have t15 : a.tmps[15]? = some (.bool x10) := qt (hp 10 15 (by kernel_rfl)) _ rfl (by rw [hq]; rfl)
    have e15 := eval_slot t15
    clear hp
    rw [hq] at e8
    unfold my_o11
    go_simp
    exact hK _ _ hI (congrArg Value.bool hz.symm)
theorem my_s12 : StepOk Tryz.prog my_ops Q a0 (qI W0) (qV (my_V ub hb s sa scap p ref key h m0 m1 q0 q1 os m0c m1c q0c q1c osc cb cw cm ce x2 x9 x10 x11 x18 x19 x20 x24 x25 x29 x30 x34 x35)) 12 := by
  refine stepP my_o12 (by kernel_rfl) rfl rfl ?_
  intro a w ho hI hp hB K hK
  have t16 : a.tmps[16]? = some (.bool x11) := qt (hp 11 16 (by kernel_rfl)) _ rfl rfl
  have e16 := eval_slot t16
  clear ho hp
  unfold my_o12
  go_simp
  exact hK _ _ hI rfl
theorem my_s13 (A3 : a0.tmps[3]? = some (.pointer (some ⟨hb, 0, none⟩))) : StepOk Tryz.prog my_ops Q a0 (qI W0) (qV (my_V ub hb s sa scap p ref key h m0 m1 q0 q1 os m0c m1c q0c q1c osc cb cw cm ce x2 x9 x10 x11 x18 x19 x20 x24 x25 x29 x30 x34 x35)) 13 := by
  refine stepG my_o13 12 17 (by kernel_rfl) rfl (by kernel_rfl) (by kernel_rfl) rfl rfl ?_
  intro a w ho hI hp hB K hK
  have t3 := (ho 3 (by kernel_rfl)).trans A3
  have e3 := eval_slot t3
  clear ho hp
  unfold my_o13
  go_simp
  exact hK _ _ hI rfl
theorem my_s14 (Y : W0.heap[hb]? = some (.cells #[.int .i64 h.first, .int .i64 h.count, .int .i64 h.type, .int .i64 h.fnum, .int .i64 h.id, .int .i64 h.poc, .bool h.spatial, .int .i64 h.act0, .int .i64 h.act1, .slice m0 h.mods0.length m0c, .slice m1 h.mods1.length m1c, .int .i64 h.log, .int .i64 h.logc, .slice q0 h.w0.length q0c, .slice q1 h.w1.length q1c, .bool h.longkey, .slice os h.ops.length osc, .int .i64 h.qp, .bool h.off, .int .i64 h.a, .int .i64 h.b] 26 (0, 0))) : StepOk Tryz.prog my_ops Q a0 (qI W0) (qV (my_V ub hb s sa scap p ref key h m0 m1 q0 q1 os m0c m1c q0c q1c osc cb cw cm ce x2 x9 x10 x11 x18 x19 x20 x24 x25 x29 x30 x34 x35)) 14 := by
  refine stepG my_o14 12 17 (by kernel_rfl) rfl (by kernel_rfl) (by kernel_rfl) rfl rfl ?_
  intro a w ho hI hp hB K hK
  have t18 : a.tmps[18]? = some (.pointer (some ⟨hb, 8, none⟩)) := qt (hp 13 18 (by kernel_rfl)) _ rfl hB
  have e18 := eval_slot t18
  clear ho hp
  have c0 := qcell hI Y 8 (.int .i64 h.act1) rfl
  unfold my_o14
  go_simp
  exact hK _ _ hI rfl
theorem my_s15 (A3 : a0.tmps[3]? = some (.pointer (some ⟨hb, 0, none⟩))) : StepOk Tryz.prog my_ops Q a0 (qI W0) (qV (my_V ub hb s sa scap p ref key h m0 m1 q0 q1 os m0c m1c q0c q1c osc cb cw cm ce x2 x9 x10 x11 x18 x19 x20 x24 x25 x29 x30 x34 x35)) 15 := by
  refine stepG my_o15 12 17 (by kernel_rfl) rfl (by kernel_rfl) (by kernel_rfl) rfl rfl ?_
  intro a w ho hI hp hB K hK
  have t3 := (ho 3 (by kernel_rfl)).trans A3
  have e3 := eval_slot t3
  clear ho hp
  unfold my_o15
  go_simp
  exact hK _ _ hI rfl
theorem my_s16 (Y : W0.heap[hb]? = some (.cells #[.int .i64 h.first, .int .i64 h.count, .int .i64 h.type, .int .i64 h.fnum, .int .i64 h.id, .int .i64 h.poc, .bool h.spatial, .int .i64 h.act0, .int .i64 h.act1, .slice m0 h.mods0.length m0c, .slice m1 h.mods1.length m1c, .int .i64 h.log, .int .i64 h.logc, .slice q0 h.w0.length q0c, .slice q1 h.w1.length q1c, .bool h.longkey, .slice os h.ops.length osc, .int .i64 h.qp, .bool h.off, .int .i64 h.a, .int .i64 h.b] 26 (0, 0))) : StepOk Tryz.prog my_ops Q a0 (qI W0) (qV (my_V ub hb s sa scap p ref key h m0 m1 q0 q1 os m0c m1c q0c q1c osc cb cw cm ce x2 x9 x10 x11 x18 x19 x20 x24 x25 x29 x30 x34 x35)) 16 := by
  refine stepG my_o16 12 17 (by kernel_rfl) rfl (by kernel_rfl) (by kernel_rfl) rfl rfl ?_
  intro a w ho hI hp hB K hK
  have t20 : a.tmps[20]? = some (.pointer (some ⟨hb, 10, none⟩)) := qt (hp 15 20 (by kernel_rfl)) _ rfl hB
  have e20 := eval_slot t20
  clear ho hp
  have c0 := qcell hI Y 10 (.slice m1 h.mods1.length m1c) rfl
  unfold my_o16
  go_simp
  exact hK _ _ hI rfl
theorem my_s17 (Y : W0.heap[hb]? = some (.cells #[.int .i64 h.first, .int .i64 h.count, .int .i64 h.type, .int .i64 h.fnum, .int .i64 h.id, .int .i64 h.poc, .bool h.spatial, .int .i64 h.act0, .int .i64 h.act1, .slice m0 h.mods0.length m0c, .slice m1 h.mods1.length m1c, .int .i64 h.log, .int .i64 h.logc, .slice q0 h.w0.length q0c, .slice q1 h.w1.length q1c, .bool h.longkey, .slice os h.ops.length osc, .int .i64 h.qp, .bool h.off, .int .i64 h.a, .int .i64 h.b] 26 (0, 0))) (A3 : a0.tmps[3]? = some (.pointer (some ⟨hb, 0, none⟩))) : StepOk Tryz.prog my_ops Q a0 (qI W0) (qV (my_V ub hb s sa scap p ref key h m0 m1 q0 q1 os m0c m1c q0c q1c osc cb cw cm ce x2 x9 x10 x11 x18 x19 x20 x24 x25 x29 x30 x34 x35)) 17 := by
  refine stepG my_o17 12 17 (by kernel_rfl) rfl (by kernel_rfl) (by kernel_rfl) rfl rfl ?_
  intro a w ho hI hp hB K hK
  have t3 := (ho 3 (by kernel_rfl)).trans A3
  have e3 := eval_slot t3
  clear ho hp
  refine wp_load_mid (P := Tryz.prog) 26 (.tmp 3) rfl hb 0 e3 [.int .i64 h.first, .int .i64 h.count, .int .i64 h.type, .int .i64 h.fnum, .int .i64 h.id, .int .i64 h.poc, .bool h.spatial, .int .i64 h.act0, .int .i64 h.act1, .slice m0 h.mods0.length m0c, .slice m1 h.mods1.length m1c, .int .i64 h.log, .int .i64 h.logc, .slice q0 h.w0.length q0c, .slice q1 h.w1.length q1c, .bool h.longkey, .slice os h.ops.length osc, .int .i64 h.qp, .bool h.off, .int .i64 h.a, .int .i64 h.b] _ (fun j v hv => qcell hI Y (0 + j) v (by rw [Nat.zero_add]; simpa using hv)) Tryz.underlying26 rfl (by kernel_rfl) ?_
  exact hK _ _ hI rfl
theorem my_s18 (hx : x18 = (h.type == 1)) : StepOk Tryz.prog my_ops Q a0 (qI W0) (qV (my_V ub hb s sa scap p ref key h m0 m1 q0 q1 os m0c m1c q0c q1c osc cb cw cm ce x2 x9 x10 x11 x18 x19 x20 x24 x25 x29 x30 x34 x35)) 18 := by
  refine stepG my_o18 12 17 (by kernel_rfl) rfl (by kernel_rfl) (by kernel_rfl) rfl rfl ?_
  intro a w ho hI hp hB K hK
  have t22 : a.tmps[22]? = some (.agg #[.int .i64 h.first, .int .i64 h.count, .int .i64 h.type, .int .i64 h.fnum, .int .i64 h.id, .int .i64 h.poc, .bool h.spatial, .int .i64 h.act0, .int .i64 h.act1, .slice m0 h.mods0.length m0c, .slice m1 h.mods1.length m1c, .int .i64 h.log, .int .i64 h.logc, .slice q0 h.w0.length q0c, .slice q1 h.w1.length q1c, .bool h.longkey, .slice os h.ops.length osc, .int .i64 h.qp, .bool h.off, .int .i64 h.a, .int .i64 h.b]) := qt (hp 17 22 (by kernel_rfl)) _ rfl hB
  have e22 := eval_slot t22
  clear ho hp
  unfold my_o18
  go_simp
  refine (hasSecond_any _ h m0 m1 q0 q1 os m0c m1c q0c q1c osc).mono ?_
  rintro e w' ⟨rfl, b⟩
  exact hK _ _ (hI.step b) (congrArg (Value.bool) hx.symm)
theorem my_s19 (HR1 : ∀ wr : World, qI W0 wr → ∀ is : Bool, Calls Tryz.prog 77 #[.int .i64 h.act1, .slice m1 h.mods1.length m1c, .bool is] wr fun e w' => e = .returned (.bool (referB h.act1 h.mods1 is)) ∧ Below wr.heap.size wr w') (hx : x19 = (referB h.act1 h.mods1 x18)) : StepOk Tryz.prog my_ops Q a0 (qI W0) (qV (my_V ub hb s sa scap p ref key h m0 m1 q0 q1 os m0c m1c q0c q1c osc cb cw cm ce x2 x9 x10 x11 x18 x19 x20 x24 x25 x29 x30 x34 x35)) 19 := by
  refine stepG my_o19 12 17 (by kernel_rfl) rfl (by kernel_rfl) (by kernel_rfl) rfl rfl ?_
  intro a w ho hI hp hB K hK
  have t19 : a.tmps[19]? = some (.int .i64 h.act1) := qt (hp 14 19 (by kernel_rfl)) _ rfl hB
  have e19 := eval_slot t19
  have t21 : a.tmps[21]? = some (.slice m1 h.mods1.length m1c) := qt (hp 16 21 (by kernel_rfl)) _ rfl hB
  have e21 := eval_slot t21
  have t23 : a.tmps[23]? = some (.bool x18) := qt (hp 18 23 (by kernel_rfl)) _ rfl hB
  have e23 := eval_slot t23
  clear ho hp
  unfold my_o19
  go_simp
  refine (HR1 w hI x18).mono ?_
  rintro e w' ⟨rfl, b⟩
  exact hK _ _ (hI.step b) (congrArg (Value.bool) hx.symm)
theorem my_s20 (hx : x20 = (x11 && x19)) : StepOk Tryz.prog my_ops Q a0 (qI W0) (qV (my_V ub hb s sa scap p ref key h m0 m1 q0 q1 os m0c m1c q0c q1c osc cb cw cm ce x2 x9 x10 x11 x18 x19 x20 x24 x25 x29 x30 x34 x35)) 20 := by
  refine stepP my_o20 (by kernel_rfl) rfl rfl ?_
  intro a w ho hI hp hB K hK
  have t17 : a.tmps[17]? = some (.bool x11) := qt (hp 12 17 (by kernel_rfl)) _ rfl rfl
  have e17 := eval_slot t17
  clear ho
  cases hq : x11 with
  | false =>
    have hz := hx.trans (by rw [hq]; rfl : _ = false)
    clear hp
    rw [hq] at e17
    unfold my_o20
    go_simp
    exact hK _ _ hI (congrArg Value.bool hz.symm)
  | true =>
    have hz := hx.trans (by rw [hq]; rfl : _ = x19)
    have t24 : a.tmps[24]? = some (.bool x19) := qt (hp 19 24 (by kernel_rfl)) _ rfl (by rw [hq]; rfl)
    have e24 := eval_slot t24
    clear hp
    rw [hq] at e17
    unfold my_o20
    go_simp
    exact hK _ _ hI (congrArg Value.bool hz.symm)
theorem my_s21 : StepOk Tryz.prog my_ops Q a0 (qI W0) (qV (my_V ub hb s sa scap p ref key h m0 m1 q0 q1 os m0c m1c q0c q1c osc cb cw cm ce x2 x9 x10 x11 x18 x19 x20 x24 x25 x29 x30 x34 x35)) 21 := by
  refine stepP my_o21 (by kernel_rfl) rfl rfl ?_
  intro a w ho hI hp hB K hK
  have t25 : a.tmps[25]? = some (.bool x20) := qt (hp 20 25 (by kernel_rfl)) _ rfl rfl
  have e25 := eval_slot t25
  clear ho hp
  unfold my_o21
  go_simp
  exact hK _ _ hI rfl
theorem my_s22 (X : W0.heap[ub]? = some (.cells #[.int .i64 s.wide, .int .i64 s.high, .int .i64 s.fbits, .int .i64 s.ptype, .int .i64 s.pbits, .int .i64 s.nonref, .slice sa s.cycle.length scap, .int .i64 s.refs, .int .i64 s.delay, .bool p.cabac, .bool p.weighted, .int .i64 p.bipred, .int .i64 p.qp, .int .i64 p.chroma, .bool p.constrained, .bool p.deblock, .int .i64 p.act0, .int .i64 p.act1, .int .i64 ref, .bool key] 87 (0, 0))) (A2 : a0.tmps[2]? = some (.pointer (some ⟨ub, 0, none⟩))) : StepOk Tryz.prog my_ops Q a0 (qI W0) (qV (my_V ub hb s sa scap p ref key h m0 m1 q0 q1 os m0c m1c q0c q1c osc cb cw cm ce x2 x9 x10 x11 x18 x19 x20 x24 x25 x29 x30 x34 x35)) 22 := by
  refine stepG my_o22 21 26 (by kernel_rfl) rfl (by kernel_rfl) (by kernel_rfl) rfl rfl ?_
  intro a w ho hI hp hB K hK
  have t2 := (ho 2 (by kernel_rfl)).trans A2
  have e2 := eval_slot t2
  clear ho hp
  refine wp_load_mid (P := Tryz.prog) 87 (.tmp 2) rfl ub 0 e2 [.int .i64 s.wide, .int .i64 s.high, .int .i64 s.fbits, .int .i64 s.ptype, .int .i64 s.pbits, .int .i64 s.nonref, .slice sa s.cycle.length scap, .int .i64 s.refs, .int .i64 s.delay, .bool p.cabac, .bool p.weighted, .int .i64 p.bipred, .int .i64 p.qp, .int .i64 p.chroma, .bool p.constrained, .bool p.deblock, .int .i64 p.act0, .int .i64 p.act1, .int .i64 ref, .bool key] _ (fun j v hv => qcell hI X (0 + j) v (by rw [Nat.zero_add]; simpa using hv)) Tryz.underlying87 rfl (by kernel_rfl) ?_
  exact hK _ _ hI rfl
theorem my_s23 (Y : W0.heap[hb]? = some (.cells #[.int .i64 h.first, .int .i64 h.count, .int .i64 h.type, .int .i64 h.fnum, .int .i64 h.id, .int .i64 h.poc, .bool h.spatial, .int .i64 h.act0, .int .i64 h.act1, .slice m0 h.mods0.length m0c, .slice m1 h.mods1.length m1c, .int .i64 h.log, .int .i64 h.logc, .slice q0 h.w0.length q0c, .slice q1 h.w1.length q1c, .bool h.longkey, .slice os h.ops.length osc, .int .i64 h.qp, .bool h.off, .int .i64 h.a, .int .i64 h.b] 26 (0, 0))) (A3 : a0.tmps[3]? = some (.pointer (some ⟨hb, 0, none⟩))) : StepOk Tryz.prog my_ops Q a0 (qI W0) (qV (my_V ub hb s sa scap p ref key h m0 m1 q0 q1 os m0c m1c q0c q1c osc cb cw cm ce x2 x9 x10 x11 x18 x19 x20 x24 x25 x29 x30 x34 x35)) 23 := by
  refine stepG my_o23 21 26 (by kernel_rfl) rfl (by kernel_rfl) (by kernel_rfl) rfl rfl ?_
  intro a w ho hI hp hB K hK
  have t3 := (ho 3 (by kernel_rfl)).trans A3
  have e3 := eval_slot t3
  clear ho hp
  refine wp_load_mid (P := Tryz.prog) 26 (.tmp 3) rfl hb 0 e3 [.int .i64 h.first, .int .i64 h.count, .int .i64 h.type, .int .i64 h.fnum, .int .i64 h.id, .int .i64 h.poc, .bool h.spatial, .int .i64 h.act0, .int .i64 h.act1, .slice m0 h.mods0.length m0c, .slice m1 h.mods1.length m1c, .int .i64 h.log, .int .i64 h.logc, .slice q0 h.w0.length q0c, .slice q1 h.w1.length q1c, .bool h.longkey, .slice os h.ops.length osc, .int .i64 h.qp, .bool h.off, .int .i64 h.a, .int .i64 h.b] _ (fun j v hv => qcell hI Y (0 + j) v (by rw [Nat.zero_add]; simpa using hv)) Tryz.underlying26 rfl (by kernel_rfl) ?_
  exact hK _ _ hI rfl
theorem my_s24 (HWG : ∀ wr : World, qI W0 wr → Calls Tryz.prog 80 #[.agg #[.int .i64 s.wide, .int .i64 s.high, .int .i64 s.fbits, .int .i64 s.ptype, .int .i64 s.pbits, .int .i64 s.nonref, .slice sa s.cycle.length scap, .int .i64 s.refs, .int .i64 s.delay, .bool p.cabac, .bool p.weighted, .int .i64 p.bipred, .int .i64 p.qp, .int .i64 p.chroma, .bool p.constrained, .bool p.deblock, .int .i64 p.act0, .int .i64 p.act1, .int .i64 ref, .bool key], .agg #[.int .i64 h.first, .int .i64 h.count, .int .i64 h.type, .int .i64 h.fnum, .int .i64 h.id, .int .i64 h.poc, .bool h.spatial, .int .i64 h.act0, .int .i64 h.act1, .slice m0 h.mods0.length m0c, .slice m1 h.mods1.length m1c, .int .i64 h.log, .int .i64 h.logc, .slice q0 h.w0.length q0c, .slice q1 h.w1.length q1c, .bool h.longkey, .slice os h.ops.length osc, .int .i64 h.qp, .bool h.off, .int .i64 h.a, .int .i64 h.b]] wr fun e w' => e = .returned (.bool cw) ∧ Below wr.heap.size wr w') (hx : x24 = (cw)) : StepOk Tryz.prog my_ops Q a0 (qI W0) (qV (my_V ub hb s sa scap p ref key h m0 m1 q0 q1 os m0c m1c q0c q1c osc cb cw cm ce x2 x9 x10 x11 x18 x19 x20 x24 x25 x29 x30 x34 x35)) 24 := by
  refine stepG my_o24 21 26 (by kernel_rfl) rfl (by kernel_rfl) (by kernel_rfl) rfl rfl ?_
  intro a w ho hI hp hB K hK
  have t27 : a.tmps[27]? = some (.agg #[.int .i64 s.wide, .int .i64 s.high, .int .i64 s.fbits, .int .i64 s.ptype, .int .i64 s.pbits, .int .i64 s.nonref, .slice sa s.cycle.length scap, .int .i64 s.refs, .int .i64 s.delay, .bool p.cabac, .bool p.weighted, .int .i64 p.bipred, .int .i64 p.qp, .int .i64 p.chroma, .bool p.constrained, .bool p.deblock, .int .i64 p.act0, .int .i64 p.act1, .int .i64 ref, .bool key]) := qt (hp 22 27 (by kernel_rfl)) _ rfl hB
  have e27 := eval_slot t27
  have t28 : a.tmps[28]? = some (.agg #[.int .i64 h.first, .int .i64 h.count, .int .i64 h.type, .int .i64 h.fnum, .int .i64 h.id, .int .i64 h.poc, .bool h.spatial, .int .i64 h.act0, .int .i64 h.act1, .slice m0 h.mods0.length m0c, .slice m1 h.mods1.length m1c, .int .i64 h.log, .int .i64 h.logc, .slice q0 h.w0.length q0c, .slice q1 h.w1.length q1c, .bool h.longkey, .slice os h.ops.length osc, .int .i64 h.qp, .bool h.off, .int .i64 h.a, .int .i64 h.b]) := qt (hp 23 28 (by kernel_rfl)) _ rfl hB
  have e28 := eval_slot t28
  clear ho hp
  unfold my_o24
  go_simp
  refine (HWG w hI).mono ?_
  rintro e w' ⟨rfl, b⟩
  exact hK _ _ (hI.step b) (congrArg (Value.bool) hx.symm)
theorem my_s25 (hx : x25 = (x20 && x24)) : StepOk Tryz.prog my_ops Q a0 (qI W0) (qV (my_V ub hb s sa scap p ref key h m0 m1 q0 q1 os m0c m1c q0c q1c osc cb cw cm ce x2 x9 x10 x11 x18 x19 x20 x24 x25 x29 x30 x34 x35)) 25 := by
  refine stepP my_o25 (by kernel_rfl) rfl rfl ?_
  intro a w ho hI hp hB K hK
  have t26 : a.tmps[26]? = some (.bool x20) := qt (hp 21 26 (by kernel_rfl)) _ rfl rfl
  have e26 := eval_slot t26
  clear ho
  cases hq : x20 with
  | false =>
    have hz := hx.trans (by rw [hq]; rfl : _ = false)
    clear hp
    rw [hq] at e26
    unfold my_o25
    go_simp
    exact hK _ _ hI (congrArg Value.bool hz.symm)
  | true =>
    have hz := hx.trans (by rw [hq]; rfl : _ = x24)
    have t29 : a.tmps[29]? = some (.bool x24) := qt (hp 24 29 (by kernel_rfl)) _ rfl (by rw [hq]; rfl)
    have e29 := eval_slot t29
    clear hp
    rw [hq] at e26
    unfold my_o25
    go_simp
    exact hK _ _ hI (congrArg Value.bool hz.symm)
theorem my_s26 : StepOk Tryz.prog my_ops Q a0 (qI W0) (qV (my_V ub hb s sa scap p ref key h m0 m1 q0 q1 os m0c m1c q0c q1c osc cb cw cm ce x2 x9 x10 x11 x18 x19 x20 x24 x25 x29 x30 x34 x35)) 26 := by
  refine stepP my_o26 (by kernel_rfl) rfl rfl ?_
  intro a w ho hI hp hB K hK
  have t30 : a.tmps[30]? = some (.bool x25) := qt (hp 25 30 (by kernel_rfl)) _ rfl rfl
  have e30 := eval_slot t30
  clear ho hp
  unfold my_o26
  go_simp
  exact hK _ _ hI rfl
theorem my_s27 (X : W0.heap[ub]? = some (.cells #[.int .i64 s.wide, .int .i64 s.high, .int .i64 s.fbits, .int .i64 s.ptype, .int .i64 s.pbits, .int .i64 s.nonref, .slice sa s.cycle.length scap, .int .i64 s.refs, .int .i64 s.delay, .bool p.cabac, .bool p.weighted, .int .i64 p.bipred, .int .i64 p.qp, .int .i64 p.chroma, .bool p.constrained, .bool p.deblock, .int .i64 p.act0, .int .i64 p.act1, .int .i64 ref, .bool key] 87 (0, 0))) (A2 : a0.tmps[2]? = some (.pointer (some ⟨ub, 0, none⟩))) : StepOk Tryz.prog my_ops Q a0 (qI W0) (qV (my_V ub hb s sa scap p ref key h m0 m1 q0 q1 os m0c m1c q0c q1c osc cb cw cm ce x2 x9 x10 x11 x18 x19 x20 x24 x25 x29 x30 x34 x35)) 27 := by
  refine stepG my_o27 26 31 (by kernel_rfl) rfl (by kernel_rfl) (by kernel_rfl) rfl rfl ?_
  intro a w ho hI hp hB K hK
  have t2 := (ho 2 (by kernel_rfl)).trans A2
  have e2 := eval_slot t2
  clear ho hp
  refine wp_load_mid (P := Tryz.prog) 87 (.tmp 2) rfl ub 0 e2 [.int .i64 s.wide, .int .i64 s.high, .int .i64 s.fbits, .int .i64 s.ptype, .int .i64 s.pbits, .int .i64 s.nonref, .slice sa s.cycle.length scap, .int .i64 s.refs, .int .i64 s.delay, .bool p.cabac, .bool p.weighted, .int .i64 p.bipred, .int .i64 p.qp, .int .i64 p.chroma, .bool p.constrained, .bool p.deblock, .int .i64 p.act0, .int .i64 p.act1, .int .i64 ref, .bool key] _ (fun j v hv => qcell hI X (0 + j) v (by rw [Nat.zero_add]; simpa using hv)) Tryz.underlying87 rfl (by kernel_rfl) ?_
  exact hK _ _ hI rfl
theorem my_s28 (Y : W0.heap[hb]? = some (.cells #[.int .i64 h.first, .int .i64 h.count, .int .i64 h.type, .int .i64 h.fnum, .int .i64 h.id, .int .i64 h.poc, .bool h.spatial, .int .i64 h.act0, .int .i64 h.act1, .slice m0 h.mods0.length m0c, .slice m1 h.mods1.length m1c, .int .i64 h.log, .int .i64 h.logc, .slice q0 h.w0.length q0c, .slice q1 h.w1.length q1c, .bool h.longkey, .slice os h.ops.length osc, .int .i64 h.qp, .bool h.off, .int .i64 h.a, .int .i64 h.b] 26 (0, 0))) (A3 : a0.tmps[3]? = some (.pointer (some ⟨hb, 0, none⟩))) : StepOk Tryz.prog my_ops Q a0 (qI W0) (qV (my_V ub hb s sa scap p ref key h m0 m1 q0 q1 os m0c m1c q0c q1c osc cb cw cm ce x2 x9 x10 x11 x18 x19 x20 x24 x25 x29 x30 x34 x35)) 28 := by
  refine stepG my_o28 26 31 (by kernel_rfl) rfl (by kernel_rfl) (by kernel_rfl) rfl rfl ?_
  intro a w ho hI hp hB K hK
  have t3 := (ho 3 (by kernel_rfl)).trans A3
  have e3 := eval_slot t3
  clear ho hp
  refine wp_load_mid (P := Tryz.prog) 26 (.tmp 3) rfl hb 0 e3 [.int .i64 h.first, .int .i64 h.count, .int .i64 h.type, .int .i64 h.fnum, .int .i64 h.id, .int .i64 h.poc, .bool h.spatial, .int .i64 h.act0, .int .i64 h.act1, .slice m0 h.mods0.length m0c, .slice m1 h.mods1.length m1c, .int .i64 h.log, .int .i64 h.logc, .slice q0 h.w0.length q0c, .slice q1 h.w1.length q1c, .bool h.longkey, .slice os h.ops.length osc, .int .i64 h.qp, .bool h.off, .int .i64 h.a, .int .i64 h.b] _ (fun j v hv => qcell hI Y (0 + j) v (by rw [Nat.zero_add]; simpa using hv)) Tryz.underlying26 rfl (by kernel_rfl) ?_
  exact hK _ _ hI rfl
theorem my_s29 (HMK : ∀ wr : World, qI W0 wr → Calls Tryz.prog 81 #[.agg #[.int .i64 s.wide, .int .i64 s.high, .int .i64 s.fbits, .int .i64 s.ptype, .int .i64 s.pbits, .int .i64 s.nonref, .slice sa s.cycle.length scap, .int .i64 s.refs, .int .i64 s.delay, .bool p.cabac, .bool p.weighted, .int .i64 p.bipred, .int .i64 p.qp, .int .i64 p.chroma, .bool p.constrained, .bool p.deblock, .int .i64 p.act0, .int .i64 p.act1, .int .i64 ref, .bool key], .agg #[.int .i64 h.first, .int .i64 h.count, .int .i64 h.type, .int .i64 h.fnum, .int .i64 h.id, .int .i64 h.poc, .bool h.spatial, .int .i64 h.act0, .int .i64 h.act1, .slice m0 h.mods0.length m0c, .slice m1 h.mods1.length m1c, .int .i64 h.log, .int .i64 h.logc, .slice q0 h.w0.length q0c, .slice q1 h.w1.length q1c, .bool h.longkey, .slice os h.ops.length osc, .int .i64 h.qp, .bool h.off, .int .i64 h.a, .int .i64 h.b]] wr fun e w' => e = .returned (.bool cm) ∧ Below wr.heap.size wr w') (hx : x29 = (cm)) : StepOk Tryz.prog my_ops Q a0 (qI W0) (qV (my_V ub hb s sa scap p ref key h m0 m1 q0 q1 os m0c m1c q0c q1c osc cb cw cm ce x2 x9 x10 x11 x18 x19 x20 x24 x25 x29 x30 x34 x35)) 29 := by
  refine stepG my_o29 26 31 (by kernel_rfl) rfl (by kernel_rfl) (by kernel_rfl) rfl rfl ?_
  intro a w ho hI hp hB K hK
  have t32 : a.tmps[32]? = some (.agg #[.int .i64 s.wide, .int .i64 s.high, .int .i64 s.fbits, .int .i64 s.ptype, .int .i64 s.pbits, .int .i64 s.nonref, .slice sa s.cycle.length scap, .int .i64 s.refs, .int .i64 s.delay, .bool p.cabac, .bool p.weighted, .int .i64 p.bipred, .int .i64 p.qp, .int .i64 p.chroma, .bool p.constrained, .bool p.deblock, .int .i64 p.act0, .int .i64 p.act1, .int .i64 ref, .bool key]) := qt (hp 27 32 (by kernel_rfl)) _ rfl hB
  have e32 := eval_slot t32
  have t33 : a.tmps[33]? = some (.agg #[.int .i64 h.first, .int .i64 h.count, .int .i64 h.type, .int .i64 h.fnum, .int .i64 h.id, .int .i64 h.poc, .bool h.spatial, .int .i64 h.act0, .int .i64 h.act1, .slice m0 h.mods0.length m0c, .slice m1 h.mods1.length m1c, .int .i64 h.log, .int .i64 h.logc, .slice q0 h.w0.length q0c, .slice q1 h.w1.length q1c, .bool h.longkey, .slice os h.ops.length osc, .int .i64 h.qp, .bool h.off, .int .i64 h.a, .int .i64 h.b]) := qt (hp 28 33 (by kernel_rfl)) _ rfl hB
  have e33 := eval_slot t33
  clear ho hp
  unfold my_o29
  go_simp
  refine (HMK w hI).mono ?_
  rintro e w' ⟨rfl, b⟩
  exact hK _ _ (hI.step b) (congrArg (Value.bool) hx.symm)
theorem my_s30 (hx : x30 = (x25 && x29)) : StepOk Tryz.prog my_ops Q a0 (qI W0) (qV (my_V ub hb s sa scap p ref key h m0 m1 q0 q1 os m0c m1c q0c q1c osc cb cw cm ce x2 x9 x10 x11 x18 x19 x20 x24 x25 x29 x30 x34 x35)) 30 := by
  refine stepP my_o30 (by kernel_rfl) rfl rfl ?_
  intro a w ho hI hp hB K hK
  have t31 : a.tmps[31]? = some (.bool x25) := qt (hp 26 31 (by kernel_rfl)) _ rfl rfl
  have e31 := eval_slot t31
  clear ho
  cases hq : x25 with
  | false =>
    have hz := hx.trans (by rw [hq]; rfl : _ = false)
    clear hp
    rw [hq] at e31
    unfold my_o30
    go_simp
    exact hK _ _ hI (congrArg Value.bool hz.symm)
  | true =>
    have hz := hx.trans (by rw [hq]; rfl : _ = x29)
    have t34 : a.tmps[34]? = some (.bool x29) := qt (hp 29 34 (by kernel_rfl)) _ rfl (by rw [hq]; rfl)
    have e34 := eval_slot t34
    clear hp
    rw [hq] at e31
    unfold my_o30
    go_simp
    exact hK _ _ hI (congrArg Value.bool hz.symm)
theorem my_s31 : StepOk Tryz.prog my_ops Q a0 (qI W0) (qV (my_V ub hb s sa scap p ref key h m0 m1 q0 q1 os m0c m1c q0c q1c osc cb cw cm ce x2 x9 x10 x11 x18 x19 x20 x24 x25 x29 x30 x34 x35)) 31 := by
  refine stepP my_o31 (by kernel_rfl) rfl rfl ?_
  intro a w ho hI hp hB K hK
  have t35 : a.tmps[35]? = some (.bool x30) := qt (hp 30 35 (by kernel_rfl)) _ rfl rfl
  have e35 := eval_slot t35
  clear ho hp
  unfold my_o31
  go_simp
  exact hK _ _ hI rfl
theorem my_s32 (X : W0.heap[ub]? = some (.cells #[.int .i64 s.wide, .int .i64 s.high, .int .i64 s.fbits, .int .i64 s.ptype, .int .i64 s.pbits, .int .i64 s.nonref, .slice sa s.cycle.length scap, .int .i64 s.refs, .int .i64 s.delay, .bool p.cabac, .bool p.weighted, .int .i64 p.bipred, .int .i64 p.qp, .int .i64 p.chroma, .bool p.constrained, .bool p.deblock, .int .i64 p.act0, .int .i64 p.act1, .int .i64 ref, .bool key] 87 (0, 0))) (A2 : a0.tmps[2]? = some (.pointer (some ⟨ub, 0, none⟩))) : StepOk Tryz.prog my_ops Q a0 (qI W0) (qV (my_V ub hb s sa scap p ref key h m0 m1 q0 q1 os m0c m1c q0c q1c osc cb cw cm ce x2 x9 x10 x11 x18 x19 x20 x24 x25 x29 x30 x34 x35)) 32 := by
  refine stepG my_o32 31 36 (by kernel_rfl) rfl (by kernel_rfl) (by kernel_rfl) rfl rfl ?_
  intro a w ho hI hp hB K hK
  have t2 := (ho 2 (by kernel_rfl)).trans A2
  have e2 := eval_slot t2
  clear ho hp
  refine wp_load_mid (P := Tryz.prog) 87 (.tmp 2) rfl ub 0 e2 [.int .i64 s.wide, .int .i64 s.high, .int .i64 s.fbits, .int .i64 s.ptype, .int .i64 s.pbits, .int .i64 s.nonref, .slice sa s.cycle.length scap, .int .i64 s.refs, .int .i64 s.delay, .bool p.cabac, .bool p.weighted, .int .i64 p.bipred, .int .i64 p.qp, .int .i64 p.chroma, .bool p.constrained, .bool p.deblock, .int .i64 p.act0, .int .i64 p.act1, .int .i64 ref, .bool key] _ (fun j v hv => qcell hI X (0 + j) v (by rw [Nat.zero_add]; simpa using hv)) Tryz.underlying87 rfl (by kernel_rfl) ?_
  exact hK _ _ hI rfl
theorem my_s33 (Y : W0.heap[hb]? = some (.cells #[.int .i64 h.first, .int .i64 h.count, .int .i64 h.type, .int .i64 h.fnum, .int .i64 h.id, .int .i64 h.poc, .bool h.spatial, .int .i64 h.act0, .int .i64 h.act1, .slice m0 h.mods0.length m0c, .slice m1 h.mods1.length m1c, .int .i64 h.log, .int .i64 h.logc, .slice q0 h.w0.length q0c, .slice q1 h.w1.length q1c, .bool h.longkey, .slice os h.ops.length osc, .int .i64 h.qp, .bool h.off, .int .i64 h.a, .int .i64 h.b] 26 (0, 0))) (A3 : a0.tmps[3]? = some (.pointer (some ⟨hb, 0, none⟩))) : StepOk Tryz.prog my_ops Q a0 (qI W0) (qV (my_V ub hb s sa scap p ref key h m0 m1 q0 q1 os m0c m1c q0c q1c osc cb cw cm ce x2 x9 x10 x11 x18 x19 x20 x24 x25 x29 x30 x34 x35)) 33 := by
  refine stepG my_o33 31 36 (by kernel_rfl) rfl (by kernel_rfl) (by kernel_rfl) rfl rfl ?_
  intro a w ho hI hp hB K hK
  have t3 := (ho 3 (by kernel_rfl)).trans A3
  have e3 := eval_slot t3
  clear ho hp
  refine wp_load_mid (P := Tryz.prog) 26 (.tmp 3) rfl hb 0 e3 [.int .i64 h.first, .int .i64 h.count, .int .i64 h.type, .int .i64 h.fnum, .int .i64 h.id, .int .i64 h.poc, .bool h.spatial, .int .i64 h.act0, .int .i64 h.act1, .slice m0 h.mods0.length m0c, .slice m1 h.mods1.length m1c, .int .i64 h.log, .int .i64 h.logc, .slice q0 h.w0.length q0c, .slice q1 h.w1.length q1c, .bool h.longkey, .slice os h.ops.length osc, .int .i64 h.qp, .bool h.off, .int .i64 h.a, .int .i64 h.b] _ (fun j v hv => qcell hI Y (0 + j) v (by rw [Nat.zero_add]; simpa using hv)) Tryz.underlying26 rfl (by kernel_rfl) ?_
  exact hK _ _ hI rfl
theorem my_s34 (HEN : ∀ wr : World, qI W0 wr → Calls Tryz.prog 82 #[.agg #[.int .i64 s.wide, .int .i64 s.high, .int .i64 s.fbits, .int .i64 s.ptype, .int .i64 s.pbits, .int .i64 s.nonref, .slice sa s.cycle.length scap, .int .i64 s.refs, .int .i64 s.delay, .bool p.cabac, .bool p.weighted, .int .i64 p.bipred, .int .i64 p.qp, .int .i64 p.chroma, .bool p.constrained, .bool p.deblock, .int .i64 p.act0, .int .i64 p.act1, .int .i64 ref, .bool key], .agg #[.int .i64 h.first, .int .i64 h.count, .int .i64 h.type, .int .i64 h.fnum, .int .i64 h.id, .int .i64 h.poc, .bool h.spatial, .int .i64 h.act0, .int .i64 h.act1, .slice m0 h.mods0.length m0c, .slice m1 h.mods1.length m1c, .int .i64 h.log, .int .i64 h.logc, .slice q0 h.w0.length q0c, .slice q1 h.w1.length q1c, .bool h.longkey, .slice os h.ops.length osc, .int .i64 h.qp, .bool h.off, .int .i64 h.a, .int .i64 h.b]] wr fun e w' => e = .returned (.bool ce) ∧ Below wr.heap.size wr w') (hx : x34 = (ce)) : StepOk Tryz.prog my_ops Q a0 (qI W0) (qV (my_V ub hb s sa scap p ref key h m0 m1 q0 q1 os m0c m1c q0c q1c osc cb cw cm ce x2 x9 x10 x11 x18 x19 x20 x24 x25 x29 x30 x34 x35)) 34 := by
  refine stepG my_o34 31 36 (by kernel_rfl) rfl (by kernel_rfl) (by kernel_rfl) rfl rfl ?_
  intro a w ho hI hp hB K hK
  have t37 : a.tmps[37]? = some (.agg #[.int .i64 s.wide, .int .i64 s.high, .int .i64 s.fbits, .int .i64 s.ptype, .int .i64 s.pbits, .int .i64 s.nonref, .slice sa s.cycle.length scap, .int .i64 s.refs, .int .i64 s.delay, .bool p.cabac, .bool p.weighted, .int .i64 p.bipred, .int .i64 p.qp, .int .i64 p.chroma, .bool p.constrained, .bool p.deblock, .int .i64 p.act0, .int .i64 p.act1, .int .i64 ref, .bool key]) := qt (hp 32 37 (by kernel_rfl)) _ rfl hB
  have e37 := eval_slot t37
  have t38 : a.tmps[38]? = some (.agg #[.int .i64 h.first, .int .i64 h.count, .int .i64 h.type, .int .i64 h.fnum, .int .i64 h.id, .int .i64 h.poc, .bool h.spatial, .int .i64 h.act0, .int .i64 h.act1, .slice m0 h.mods0.length m0c, .slice m1 h.mods1.length m1c, .int .i64 h.log, .int .i64 h.logc, .slice q0 h.w0.length q0c, .slice q1 h.w1.length q1c, .bool h.longkey, .slice os h.ops.length osc, .int .i64 h.qp, .bool h.off, .int .i64 h.a, .int .i64 h.b]) := qt (hp 33 38 (by kernel_rfl)) _ rfl hB
  have e38 := eval_slot t38
  clear ho hp
  unfold my_o34
  go_simp
  refine (HEN w hI).mono ?_
  rintro e w' ⟨rfl, b⟩
  exact hK _ _ (hI.step b) (congrArg (Value.bool) hx.symm)
theorem my_s35 (hx : x35 = (x30 && x34)) : StepOk Tryz.prog my_ops Q a0 (qI W0) (qV (my_V ub hb s sa scap p ref key h m0 m1 q0 q1 os m0c m1c q0c q1c osc cb cw cm ce x2 x9 x10 x11 x18 x19 x20 x24 x25 x29 x30 x34 x35)) 35 := by
  refine stepP my_o35 (by kernel_rfl) rfl rfl ?_
  intro a w ho hI hp hB K hK
  have t36 : a.tmps[36]? = some (.bool x30) := qt (hp 31 36 (by kernel_rfl)) _ rfl rfl
  have e36 := eval_slot t36
  clear ho
  cases hq : x30 with
  | false =>
    have hz := hx.trans (by rw [hq]; rfl : _ = false)
    clear hp
    rw [hq] at e36
    unfold my_o35
    go_simp
    exact hK _ _ hI (congrArg Value.bool hz.symm)
  | true =>
    have hz := hx.trans (by rw [hq]; rfl : _ = x34)
    have t39 : a.tmps[39]? = some (.bool x34) := qt (hp 34 39 (by kernel_rfl)) _ rfl (by rw [hq]; rfl)
    have e39 := eval_slot t39
    clear hp
    rw [hq] at e36
    unfold my_o35
    go_simp
    exact hK _ _ hI (congrArg Value.bool hz.symm)
theorem my_s36 : StepOk Tryz.prog my_ops Q a0 (qI W0) (qV (my_V ub hb s sa scap p ref key h m0 m1 q0 q1 os m0c m1c q0c q1c osc cb cw cm ce x2 x9 x10 x11 x18 x19 x20 x24 x25 x29 x30 x34 x35)) 36 := by
  refine stepP my_o36 (by kernel_rfl) rfl rfl ?_
  intro a w ho hI hp hB K hK
  have t40 : a.tmps[40]? = some (.bool x35) := qt (hp 35 40 (by kernel_rfl)) _ rfl rfl
  have e40 := eval_slot t40
  clear ho hp
  unfold my_o36
  go_simp
  exact hK _ _ hI rfl
end
end Go.Proofs.YthcbgijmnonckaaGreat
