/- Layer 4: the program's mayWeigh: its region, operation by operation. -/
import Derived.Test.YthcbgijmnonckaaGreatHI
namespace Go.Proofs.YthcbgijmnonckaaGreat
open Go.RowKit Zo Zp
set_option linter.unusedVariables false

def mw_o0 : Oper := { dst := some 9, op := Op.fieldAddr 26 (Operand.tmp 3) 11, type := 0, pos := "may.go:119", after := #[], guard := none }
def mw_o1 : Oper := { dst := some 10, op := Op.load 3 (Operand.tmp 9), type := 3, pos := "may.go:119", after := #[{ on := 0, ground := Ground.data }], guard := none }
def mw_o2 : Oper := { dst := some 11, op := Op.move (Operand.tmp 5), type := 4, pos := "may.go:119", after := #[], guard := none }
def mw_o3 : Oper := { dst := some 12, op := Op.call { callee := Callee.value (Operand.func 101), args := #[Operand.tmp 11, Operand.const (Value.int IntKind.i64 7)], argTypes := #[4, 3] }, type := 3, pos := "may.go:119", after := #[{ on := 2, ground := Ground.data }], guard := none }
def mw_o4 : Oper := { dst := some 13, op := Op.call { callee := Callee.value (Operand.func 75), args := #[Operand.tmp 10, Operand.const (Value.int IntKind.i64 0), Operand.tmp 12], argTypes := #[3, 3, 3] }, type := 4, pos := "may.go:119", after := #[{ on := 1, ground := Ground.data }, { on := 3, ground := Ground.data }, { on := 3, ground := Ground.chain }], guard := none }
def mw_o5 : Oper := { dst := some 14, op := Op.move (Operand.tmp 13), type := 4, pos := "may.go:119", after := #[{ on := 4, ground := Ground.data }, { on := 4, ground := Ground.chain }], guard := none }
def mw_o6 : Oper := { dst := some 15, op := Op.fieldAddr 26 (Operand.tmp 3) 12, type := 0, pos := "may.go:119", after := #[{ on := 5, ground := Ground.guard }], guard := some (5, true) }
def mw_o7 : Oper := { dst := some 16, op := Op.load 3 (Operand.tmp 15), type := 3, pos := "may.go:119", after := #[{ on := 6, ground := Ground.data }, { on := 5, ground := Ground.guard }], guard := some (5, true) }
def mw_o8 : Oper := { dst := some 17, op := Op.move (Operand.tmp 5), type := 4, pos := "may.go:119", after := #[{ on := 5, ground := Ground.guard }], guard := some (5, true) }
def mw_o9 : Oper := { dst := some 18, op := Op.call { callee := Callee.value (Operand.func 101), args := #[Operand.tmp 17, Operand.const (Value.int IntKind.i64 7)], argTypes := #[4, 3] }, type := 3, pos := "may.go:119", after := #[{ on := 8, ground := Ground.data }, { on := 5, ground := Ground.chain }, { on := 5, ground := Ground.guard }], guard := some (5, true) }
def mw_o10 : Oper := { dst := some 19, op := Op.call { callee := Callee.value (Operand.func 75), args := #[Operand.tmp 16, Operand.const (Value.int IntKind.i64 0), Operand.tmp 18], argTypes := #[3, 3, 3] }, type := 4, pos := "may.go:119", after := #[{ on := 7, ground := Ground.data }, { on := 9, ground := Ground.data }, { on := 9, ground := Ground.chain }, { on := 5, ground := Ground.guard }], guard := some (5, true) }
def mw_o11 : Oper := { dst := some 20, op := Op.pick (Operand.tmp 14) (Operand.tmp 19) (Operand.const (Value.bool false)), type := 4, pos := "may.go:119", after := #[{ on := 5, ground := Ground.data }, { on := 10, ground := Ground.data }], guard := none }
def mw_o12 : Oper := { dst := some 21, op := Op.move (Operand.tmp 20), type := 4, pos := "may.go:119", after := #[{ on := 11, ground := Ground.data }, { on := 10, ground := Ground.chain }], guard := none }
def mw_o13 : Oper := { dst := some 22, op := Op.fieldAddr 26 (Operand.tmp 3) 13, type := 0, pos := "may.go:119", after := #[{ on := 12, ground := Ground.guard }], guard := some (12, true) }
def mw_o14 : Oper := { dst := some 23, op := Op.load 23 (Operand.tmp 22), type := 23, pos := "may.go:119", after := #[{ on := 13, ground := Ground.data }, { on := 12, ground := Ground.guard }], guard := some (12, true) }
def mw_o15 : Oper := { dst := some 24, op := Op.call { callee := Callee.builtin Builtin.len, args := #[Operand.tmp 23], argTypes := #[23] }, type := 3, pos := "may.go:119", after := #[{ on := 14, ground := Ground.data }, { on := 12, ground := Ground.guard }], guard := some (12, true) }
def mw_o16 : Oper := { dst := some 25, op := Op.move (Operand.tmp 5), type := 4, pos := "may.go:119", after := #[{ on := 12, ground := Ground.guard }], guard := some (12, true) }
def mw_o17 : Oper := { dst := some 26, op := Op.fieldAddr 26 (Operand.tmp 3) 7, type := 0, pos := "may.go:119", after := #[{ on := 12, ground := Ground.guard }], guard := some (12, true) }
def mw_o18 : Oper := { dst := some 27, op := Op.load 3 (Operand.tmp 26), type := 3, pos := "may.go:119", after := #[{ on := 17, ground := Ground.data }, { on := 12, ground := Ground.guard }], guard := some (12, true) }
def mw_o19 : Oper := { dst := some 28, op := Op.call { callee := Callee.value (Operand.func 101), args := #[Operand.tmp 25, Operand.tmp 27], argTypes := #[4, 3] }, type := 3, pos := "may.go:120", after := #[{ on := 16, ground := Ground.data }, { on := 18, ground := Ground.data }, { on := 12, ground := Ground.chain }, { on := 12, ground := Ground.guard }], guard := some (12, true) }
def mw_o20 : Oper := { dst := some 29, op := Op.binOp BinOp.eql 3 (Operand.tmp 24) (Operand.tmp 28) 3, type := 4, pos := "may.go:119", after := #[{ on := 15, ground := Ground.data }, { on := 19, ground := Ground.data }, { on := 12, ground := Ground.guard }], guard := some (12, true) }
def mw_o21 : Oper := { dst := some 30, op := Op.pick (Operand.tmp 21) (Operand.tmp 29) (Operand.const (Value.bool false)), type := 4, pos := "may.go:119", after := #[{ on := 12, ground := Ground.data }, { on := 20, ground := Ground.data }], guard := none }
def mw_o22 : Oper := { dst := some 31, op := Op.move (Operand.tmp 30), type := 4, pos := "may.go:119", after := #[{ on := 21, ground := Ground.data }, { on := 19, ground := Ground.chain }], guard := none }
def mw_o23 : Oper := { dst := some 32, op := Op.fieldAddr 26 (Operand.tmp 3) 13, type := 0, pos := "may.go:119", after := #[{ on := 22, ground := Ground.guard }], guard := some (22, true) }
def mw_o24 : Oper := { dst := some 33, op := Op.load 23 (Operand.tmp 32), type := 23, pos := "may.go:119", after := #[{ on := 23, ground := Ground.data }, { on := 22, ground := Ground.guard }], guard := some (22, true) }
def mw_o25 : Oper := { dst := some 34, op := Op.call { callee := Callee.value (Operand.func 104), args := #[Operand.tmp 33, Operand.func 105], argTypes := #[23, 162] }, type := 4, pos := "may.go:120", after := #[{ on := 24, ground := Ground.data }, { on := 22, ground := Ground.chain }, { on := 22, ground := Ground.guard }], guard := some (22, true) }
def mw_o26 : Oper := { dst := some 35, op := Op.pick (Operand.tmp 31) (Operand.tmp 34) (Operand.const (Value.bool false)), type := 4, pos := "may.go:119", after := #[{ on := 22, ground := Ground.data }, { on := 25, ground := Ground.data }], guard := none }
def mw_o27 : Oper := { dst := some 36, op := Op.move (Operand.tmp 35), type := 4, pos := "may.go:119", after := #[{ on := 26, ground := Ground.data }, { on := 25, ground := Ground.chain }], guard := none }
def mw_o28 : Oper := { dst := some 37, op := Op.fieldAddr 26 (Operand.tmp 3) 14, type := 0, pos := "may.go:119", after := #[{ on := 27, ground := Ground.guard }], guard := some (27, true) }
def mw_o29 : Oper := { dst := some 38, op := Op.load 23 (Operand.tmp 37), type := 23, pos := "may.go:119", after := #[{ on := 28, ground := Ground.data }, { on := 27, ground := Ground.guard }], guard := some (27, true) }
def mw_o30 : Oper := { dst := some 39, op := Op.call { callee := Callee.builtin Builtin.len, args := #[Operand.tmp 38], argTypes := #[23] }, type := 3, pos := "may.go:119", after := #[{ on := 29, ground := Ground.data }, { on := 27, ground := Ground.guard }], guard := some (27, true) }
def mw_o31 : Oper := { dst := some 40, op := Op.move (Operand.tmp 5), type := 4, pos := "may.go:119", after := #[{ on := 27, ground := Ground.guard }], guard := some (27, true) }
def mw_o32 : Oper := { dst := some 41, op := Op.fieldAddr 26 (Operand.tmp 3) 8, type := 0, pos := "may.go:119", after := #[{ on := 27, ground := Ground.guard }], guard := some (27, true) }
def mw_o33 : Oper := { dst := some 42, op := Op.load 3 (Operand.tmp 41), type := 3, pos := "may.go:119", after := #[{ on := 32, ground := Ground.data }, { on := 27, ground := Ground.guard }], guard := some (27, true) }
def mw_o34 : Oper := { dst := some 43, op := Op.call { callee := Callee.value (Operand.func 101), args := #[Operand.tmp 40, Operand.tmp 42], argTypes := #[4, 3] }, type := 3, pos := "may.go:121", after := #[{ on := 31, ground := Ground.data }, { on := 33, ground := Ground.data }, { on := 27, ground := Ground.chain }, { on := 27, ground := Ground.guard }], guard := some (27, true) }
def mw_o35 : Oper := { dst := some 44, op := Op.binOp BinOp.eql 3 (Operand.tmp 39) (Operand.tmp 43) 3, type := 4, pos := "may.go:119", after := #[{ on := 30, ground := Ground.data }, { on := 34, ground := Ground.data }, { on := 27, ground := Ground.guard }], guard := some (27, true) }
def mw_o36 : Oper := { dst := some 45, op := Op.pick (Operand.tmp 36) (Operand.tmp 44) (Operand.const (Value.bool false)), type := 4, pos := "may.go:119", after := #[{ on := 27, ground := Ground.data }, { on := 35, ground := Ground.data }], guard := none }
def mw_o37 : Oper := { dst := some 46, op := Op.move (Operand.tmp 45), type := 4, pos := "may.go:119", after := #[{ on := 36, ground := Ground.data }, { on := 34, ground := Ground.chain }], guard := none }
def mw_o38 : Oper := { dst := some 47, op := Op.fieldAddr 26 (Operand.tmp 3) 14, type := 0, pos := "may.go:119", after := #[{ on := 37, ground := Ground.guard }], guard := some (37, true) }
def mw_o39 : Oper := { dst := some 48, op := Op.load 23 (Operand.tmp 47), type := 23, pos := "may.go:119", after := #[{ on := 38, ground := Ground.data }, { on := 37, ground := Ground.guard }], guard := some (37, true) }
def mw_o40 : Oper := { dst := some 49, op := Op.call { callee := Callee.value (Operand.func 104), args := #[Operand.tmp 48, Operand.func 105], argTypes := #[23, 162] }, type := 4, pos := "may.go:121", after := #[{ on := 39, ground := Ground.data }, { on := 37, ground := Ground.chain }, { on := 37, ground := Ground.guard }], guard := some (37, true) }
def mw_o41 : Oper := { dst := some 50, op := Op.pick (Operand.tmp 46) (Operand.tmp 49) (Operand.const (Value.bool false)), type := 4, pos := "may.go:119", after := #[{ on := 37, ground := Ground.data }, { on := 40, ground := Ground.data }], guard := none }
def mw_o42 : Oper := { dst := some 4, op := Op.assign (Operand.tmp 50), type := 4, pos := "may.go:119", after := #[{ on := 41, ground := Ground.data }, { on := 40, ground := Ground.chain }, { on := 0, ground := Ground.phase }, { on := 1, ground := Ground.phase }, { on := 2, ground := Ground.phase }, { on := 3, ground := Ground.phase }, { on := 4, ground := Ground.phase }, { on := 5, ground := Ground.phase }, { on := 6, ground := Ground.phase }, { on := 7, ground := Ground.phase }, { on := 8, ground := Ground.phase }, { on := 9, ground := Ground.phase }, { on := 10, ground := Ground.phase }, { on := 11, ground := Ground.phase }, { on := 12, ground := Ground.phase }, { on := 13, ground := Ground.phase }, { on := 14, ground := Ground.phase }, { on := 15, ground := Ground.phase }, { on := 16, ground := Ground.phase }, { on := 17, ground := Ground.phase }, { on := 18, ground := Ground.phase }, { on := 19, ground := Ground.phase }, { on := 20, ground := Ground.phase }, { on := 21, ground := Ground.phase }, { on := 22, ground := Ground.phase }, { on := 23, ground := Ground.phase }, { on := 24, ground := Ground.phase }, { on := 25, ground := Ground.phase }, { on := 26, ground := Ground.phase }, { on := 27, ground := Ground.phase }, { on := 28, ground := Ground.phase }, { on := 29, ground := Ground.phase }, { on := 30, ground := Ground.phase }, { on := 31, ground := Ground.phase }, { on := 32, ground := Ground.phase }, { on := 33, ground := Ground.phase }, { on := 34, ground := Ground.phase }, { on := 35, ground := Ground.phase }, { on := 36, ground := Ground.phase }, { on := 37, ground := Ground.phase }, { on := 38, ground := Ground.phase }, { on := 39, ground := Ground.phase }, { on := 40, ground := Ground.phase }, { on := 41, ground := Ground.phase }], guard := none }
def mw_ops : Array Oper := #[mw_o0, mw_o1, mw_o2, mw_o3, mw_o4, mw_o5, mw_o6, mw_o7, mw_o8, mw_o9, mw_o10, mw_o11, mw_o12, mw_o13, mw_o14, mw_o15, mw_o16, mw_o17, mw_o18, mw_o19, mw_o20, mw_o21, mw_o22, mw_o23, mw_o24, mw_o25, mw_o26, mw_o27, mw_o28, mw_o29, mw_o30, mw_o31, mw_o32, mw_o33, mw_o34, mw_o35, mw_o36, mw_o37, mw_o38, mw_o39, mw_o40, mw_o41, mw_o42]
def mw_V (ub hb : Nat) (s : SpsN) (sa : Option Addr) (scap : Nat) (p : PpsN) (ref : Int) (key : Bool) (h : HeadN) (m0 m1 q0 q1 os : Option Addr) (m0c m1c q0c q1c osc : Nat) (wq : Bool) (x3 : Int) (x4 : Bool) (x9 : Int) (x10 : Bool) (x11 : Bool) (x19 : Int) (x20 : Bool) (x21 : Bool) (x25 : Bool) (x26 : Bool) (x34 : Int) (x35 : Bool) (x36 : Bool) (x40 : Bool) (x41 : Bool) : List (Bool × Value) := [(true, .pointer (some ⟨hb, 11, none⟩)), (true, .int .i64 h.log), (true, .bool wq), (true, .int .i64 x3), (true, .bool x4), (true, .bool x4), ((true && (x4 == true)), .pointer (some ⟨hb, 12, none⟩)), ((true && (x4 == true)), .int .i64 h.logc), ((true && (x4 == true)), .bool wq), ((true && (x4 == true)), .int .i64 x9), ((true && (x4 == true)), .bool x10), (true, .bool x11), (true, .bool x11), ((true && (x11 == true)), .pointer (some ⟨hb, 13, none⟩)), ((true && (x11 == true)), .slice q0 h.w0.length q0c), ((true && (x11 == true)), .int .i64 (h.w0.length : Int)), ((true && (x11 == true)), .bool wq), ((true && (x11 == true)), .pointer (some ⟨hb, 7, none⟩)), ((true && (x11 == true)), .int .i64 h.act0), ((true && (x11 == true)), .int .i64 x19), ((true && (x11 == true)), .bool x20), (true, .bool x21), (true, .bool x21), ((true && (x21 == true)), .pointer (some ⟨hb, 13, none⟩)), ((true && (x21 == true)), .slice q0 h.w0.length q0c), ((true && (x21 == true)), .bool x25), (true, .bool x26), (true, .bool x26), ((true && (x26 == true)), .pointer (some ⟨hb, 14, none⟩)), ((true && (x26 == true)), .slice q1 h.w1.length q1c), ((true && (x26 == true)), .int .i64 (h.w1.length : Int)), ((true && (x26 == true)), .bool wq), ((true && (x26 == true)), .pointer (some ⟨hb, 8, none⟩)), ((true && (x26 == true)), .int .i64 h.act1), ((true && (x26 == true)), .int .i64 x34), ((true && (x26 == true)), .bool x35), (true, .bool x36), (true, .bool x36), ((true && (x36 == true)), .pointer (some ⟨hb, 14, none⟩)), ((true && (x36 == true)), .slice q1 h.w1.length q1c), ((true && (x36 == true)), .bool x40), (true, .bool x41), (true, .bool x41)]
section
set_option maxRecDepth 100000
set_option maxHeartbeats 1000000
variable {ub hb : Nat} {s : SpsN} {sa : Option Addr} {scap : Nat} {p : PpsN} {ref : Int} {key : Bool} {h : HeadN} {m0 m1 q0 q1 os : Option Addr} {m0c m1c q0c q1c osc : Nat} {wq : Bool} {x3 : Int} {x4 : Bool} {x9 : Int} {x10 : Bool} {x11 : Bool} {x19 : Int} {x20 : Bool} {x21 : Bool} {x25 : Bool} {x26 : Bool} {x34 : Int} {x35 : Bool} {x36 : Bool} {x40 : Bool} {x41 : Bool} {Q : Exit → Act → World → Prop} {a0 : Act} {W0 : World}
theorem mw_s0 (A3 : a0.tmps[3]? = some (.pointer (some ⟨hb, 0, none⟩))) : StepOk Tryz.prog mw_ops Q a0 (qI W0) (qV (mw_V ub hb s sa scap p ref key h m0 m1 q0 q1 os m0c m1c q0c q1c osc wq x3 x4 x9 x10 x11 x19 x20 x21 x25 x26 x34 x35 x36 x40 x41)) 0 := by
  refine stepP mw_o0 (by kernel_rfl) rfl rfl ?_
  intro a w ho hI hp hB K hK
  have t3 := (ho 3 (by kernel_rfl)).trans A3
  have e3 := eval_slot t3
  clear ho hp
  unfold mw_o0
  go_simp
  exact hK _ _ hI rfl
theorem mw_s1 (Y : W0.heap[hb]? = some (.cells #[.int .i64 h.first, .int .i64 h.count, .int .i64 h.type, .int .i64 h.fnum, .int .i64 h.id, .int .i64 h.poc, .bool h.spatial, .int .i64 h.act0, .int .i64 h.act1, .slice m0 h.mods0.length m0c, .slice m1 h.mods1.length m1c, .int .i64 h.log, .int .i64 h.logc, .slice q0 h.w0.length q0c, .slice q1 h.w1.length q1c, .bool h.longkey, .slice os h.ops.length osc, .int .i64 h.qp, .bool h.off, .int .i64 h.a, .int .i64 h.b] 26 (0, 0))) : StepOk Tryz.prog mw_ops Q a0 (qI W0) (qV (mw_V ub hb s sa scap p ref key h m0 m1 q0 q1 os m0c m1c q0c q1c osc wq x3 x4 x9 x10 x11 x19 x20 x21 x25 x26 x34 x35 x36 x40 x41)) 1 := by
  refine stepP mw_o1 (by kernel_rfl) rfl rfl ?_
  intro a w ho hI hp hB K hK
  have t9 : a.tmps[9]? = some (.pointer (some ⟨hb, 11, none⟩)) := qt (hp 0 9 (by kernel_rfl)) _ rfl rfl
  have e9 := eval_slot t9
  clear ho hp
  have c0 := qcell hI Y 11 (.int .i64 h.log) rfl
  unfold mw_o1
  go_simp
  exact hK _ _ hI rfl
theorem mw_s2 (A5 : a0.tmps[5]? = some (.bool wq)) : StepOk Tryz.prog mw_ops Q a0 (qI W0) (qV (mw_V ub hb s sa scap p ref key h m0 m1 q0 q1 os m0c m1c q0c q1c osc wq x3 x4 x9 x10 x11 x19 x20 x21 x25 x26 x34 x35 x36 x40 x41)) 2 := by
  refine stepP mw_o2 (by kernel_rfl) rfl rfl ?_
  intro a w ho hI hp hB K hK
  have t5 := (ho 5 (by kernel_rfl)).trans A5
  have e5 := eval_slot t5
  clear ho hp
  unfold mw_o2
  go_simp
  exact hK _ _ hI rfl
theorem mw_s3 (hx : x3 = (if wq = true then 7 else 0)) : StepOk Tryz.prog mw_ops Q a0 (qI W0) (qV (mw_V ub hb s sa scap p ref key h m0 m1 q0 q1 os m0c m1c q0c q1c osc wq x3 x4 x9 x10 x11 x19 x20 x21 x25 x26 x34 x35 x36 x40 x41)) 3 := by
  refine stepP mw_o3 (by kernel_rfl) rfl rfl ?_
  intro a w ho hI hp hB K hK
  have t11 : a.tmps[11]? = some (.bool wq) := qt (hp 2 11 (by kernel_rfl)) _ rfl rfl
  have e11 := eval_slot t11
  clear ho hp
  unfold mw_o3
  go_simp
  refine (limit_any _ _ _).mono ?_
  rintro e w' ⟨rfl, rfl⟩
  exact hK _ _ hI (congrArg (Value.int .i64) hx.symm)
theorem mw_s4 (hx : x4 = (inB h.log 0 x3)) : StepOk Tryz.prog mw_ops Q a0 (qI W0) (qV (mw_V ub hb s sa scap p ref key h m0 m1 q0 q1 os m0c m1c q0c q1c osc wq x3 x4 x9 x10 x11 x19 x20 x21 x25 x26 x34 x35 x36 x40 x41)) 4 := by
  refine stepP mw_o4 (by kernel_rfl) rfl rfl ?_
  intro a w ho hI hp hB K hK
  have t10 : a.tmps[10]? = some (.int .i64 h.log) := qt (hp 1 10 (by kernel_rfl)) _ rfl rfl
  have e10 := eval_slot t10
  have t12 : a.tmps[12]? = some (.int .i64 x3) := qt (hp 3 12 (by kernel_rfl)) _ rfl rfl
  have e12 := eval_slot t12
  clear ho hp
  unfold mw_o4
  go_simp
  refine (within_any _ _ _ _).mono ?_
  rintro e w' ⟨rfl, rfl⟩
  exact hK _ _ hI (congrArg (Value.bool) hx.symm)
theorem mw_s5 : StepOk Tryz.prog mw_ops Q a0 (qI W0) (qV (mw_V ub hb s sa scap p ref key h m0 m1 q0 q1 os m0c m1c q0c q1c osc wq x3 x4 x9 x10 x11 x19 x20 x21 x25 x26 x34 x35 x36 x40 x41)) 5 := by
  refine stepP mw_o5 (by kernel_rfl) rfl rfl ?_
  intro a w ho hI hp hB K hK
  have t13 : a.tmps[13]? = some (.bool x4) := qt (hp 4 13 (by kernel_rfl)) _ rfl rfl
  have e13 := eval_slot t13
  clear ho hp
  unfold mw_o5
  go_simp
  exact hK _ _ hI rfl
theorem mw_s6 (A3 : a0.tmps[3]? = some (.pointer (some ⟨hb, 0, none⟩))) : StepOk Tryz.prog mw_ops Q a0 (qI W0) (qV (mw_V ub hb s sa scap p ref key h m0 m1 q0 q1 os m0c m1c q0c q1c osc wq x3 x4 x9 x10 x11 x19 x20 x21 x25 x26 x34 x35 x36 x40 x41)) 6 := by
  refine stepG mw_o6 5 14 (by kernel_rfl) rfl (by kernel_rfl) (by kernel_rfl) rfl rfl ?_
  intro a w ho hI hp hB K hK
  have t3 := (ho 3 (by kernel_rfl)).trans A3
  have e3 := eval_slot t3
  clear ho hp
  unfold mw_o6
  go_simp
  exact hK _ _ hI rfl
theorem mw_s7 (Y : W0.heap[hb]? = some (.cells #[.int .i64 h.first, .int .i64 h.count, .int .i64 h.type, .int .i64 h.fnum, .int .i64 h.id, .int .i64 h.poc, .bool h.spatial, .int .i64 h.act0, .int .i64 h.act1, .slice m0 h.mods0.length m0c, .slice m1 h.mods1.length m1c, .int .i64 h.log, .int .i64 h.logc, .slice q0 h.w0.length q0c, .slice q1 h.w1.length q1c, .bool h.longkey, .slice os h.ops.length osc, .int .i64 h.qp, .bool h.off, .int .i64 h.a, .int .i64 h.b] 26 (0, 0))) : StepOk Tryz.prog mw_ops Q a0 (qI W0) (qV (mw_V ub hb s sa scap p ref key h m0 m1 q0 q1 os m0c m1c q0c q1c osc wq x3 x4 x9 x10 x11 x19 x20 x21 x25 x26 x34 x35 x36 x40 x41)) 7 := by
  refine stepG mw_o7 5 14 (by kernel_rfl) rfl (by kernel_rfl) (by kernel_rfl) rfl rfl ?_
  intro a w ho hI hp hB K hK
  have t15 : a.tmps[15]? = some (.pointer (some ⟨hb, 12, none⟩)) := qt (hp 6 15 (by kernel_rfl)) _ rfl hB
  have e15 := eval_slot t15
  clear ho hp
  have c0 := qcell hI Y 12 (.int .i64 h.logc) rfl
  unfold mw_o7
  go_simp
  exact hK _ _ hI rfl
theorem mw_s8 (A5 : a0.tmps[5]? = some (.bool wq)) : StepOk Tryz.prog mw_ops Q a0 (qI W0) (qV (mw_V ub hb s sa scap p ref key h m0 m1 q0 q1 os m0c m1c q0c q1c osc wq x3 x4 x9 x10 x11 x19 x20 x21 x25 x26 x34 x35 x36 x40 x41)) 8 := by
  refine stepG mw_o8 5 14 (by kernel_rfl) rfl (by kernel_rfl) (by kernel_rfl) rfl rfl ?_
  intro a w ho hI hp hB K hK
  have t5 := (ho 5 (by kernel_rfl)).trans A5
  have e5 := eval_slot t5
  clear ho hp
  unfold mw_o8
  go_simp
  exact hK _ _ hI rfl
theorem mw_s9 (hx : x9 = (if wq = true then 7 else 0)) : StepOk Tryz.prog mw_ops Q a0 (qI W0) (qV (mw_V ub hb s sa scap p ref key h m0 m1 q0 q1 os m0c m1c q0c q1c osc wq x3 x4 x9 x10 x11 x19 x20 x21 x25 x26 x34 x35 x36 x40 x41)) 9 := by
  refine stepG mw_o9 5 14 (by kernel_rfl) rfl (by kernel_rfl) (by kernel_rfl) rfl rfl ?_
  intro a w ho hI hp hB K hK
  have t17 : a.tmps[17]? = some (.bool wq) := qt (hp 8 17 (by kernel_rfl)) _ rfl hB
  have e17 := eval_slot t17
  clear ho hp
  unfold mw_o9
  go_simp
  refine (limit_any _ _ _).mono ?_
  rintro e w' ⟨rfl, rfl⟩
  exact hK _ _ hI (congrArg (Value.int .i64) hx.symm)
theorem mw_s10 (hx : x10 = (inB h.logc 0 x9)) : StepOk Tryz.prog mw_ops Q a0 (qI W0) (qV (mw_V ub hb s sa scap p ref key h m0 m1 q0 q1 os m0c m1c q0c q1c osc wq x3 x4 x9 x10 x11 x19 x20 x21 x25 x26 x34 x35 x36 x40 x41)) 10 := by
  refine stepG mw_o10 5 14 (by kernel_rfl) rfl (by kernel_rfl) (by kernel_rfl) rfl rfl ?_
  intro a w ho hI hp hB K hK
  have t16 : a.tmps[16]? = some (.int .i64 h.logc) := qt (hp 7 16 (by kernel_rfl)) _ rfl hB
  have e16 := eval_slot t16
  have t18 : a.tmps[18]? = some (.int .i64 x9) := qt (hp 9 18 (by kernel_rfl)) _ rfl hB
  have e18 := eval_slot t18
  clear ho hp
  unfold mw_o10
  go_simp
  refine (within_any _ _ _ _).mono ?_
  rintro e w' ⟨rfl, rfl⟩
  exact hK _ _ hI (congrArg (Value.bool) hx.symm)
theorem mw_s11 (hx : x11 = (x4 && x10)) : StepOk Tryz.prog mw_ops Q a0 (qI W0) (qV (mw_V ub hb s sa scap p ref key h m0 m1 q0 q1 os m0c m1c q0c q1c osc wq x3 x4 x9 x10 x11 x19 x20 x21 x25 x26 x34 x35 x36 x40 x41)) 11 := by
  refine stepP mw_o11 (by kernel_rfl) rfl rfl ?_
  intro a w ho hI hp hB K hK
  have t14 : a.tmps[14]? = some (.bool x4) := qt (hp 5 14 (by kernel_rfl)) _ rfl rfl
  have e14 := eval_slot t14
  clear ho
  cases hq : x4 with
  | false =>
    have hz := hx.trans (by rw [hq]; rfl : _ = false)
    clear hp
    rw [hq] at e14
    unfold mw_o11
    go_simp
    exact hK _ _ hI (congrArg Value.bool hz.symm)
  | true =>
    have hz := hx.trans (by rw [hq]; rfl : _ = x10)
    have t19 : a.tmps[19]? = some (.bool x10) := qt (hp 10 19 (by kernel_rfl)) _ rfl (by rw [hq]; rfl)
    have e19 := eval_slot t19
    clear hp
    rw [hq] at e14
    unfold mw_o11
    go_simp
    exact hK _ _ hI (congrArg Value.bool hz.symm)
theorem mw_s12 : StepOk Tryz.prog mw_ops Q a0 (qI W0) (qV (mw_V ub hb s sa scap p ref key h m0 m1 q0 q1 os m0c m1c q0c q1c osc wq x3 x4 x9 x10 x11 x19 x20 x21 x25 x26 x34 x35 x36 x40 x41)) 12 := by
  refine stepP mw_o12 (by kernel_rfl) rfl rfl ?_
  intro a w ho hI hp hB K hK
  have t20 : a.tmps[20]? = some (.bool x11) := qt (hp 11 20 (by kernel_rfl)) _ rfl rfl
  have e20 := eval_slot t20
  clear ho hp
  unfold mw_o12
  go_simp
  exact hK _ _ hI rfl
theorem mw_s13 (A3 : a0.tmps[3]? = some (.pointer (some ⟨hb, 0, none⟩))) : StepOk Tryz.prog mw_ops Q a0 (qI W0) (qV (mw_V ub hb s sa scap p ref key h m0 m1 q0 q1 os m0c m1c q0c q1c osc wq x3 x4 x9 x10 x11 x19 x20 x21 x25 x26 x34 x35 x36 x40 x41)) 13 := by
  refine stepG mw_o13 12 21 (by kernel_rfl) rfl (by kernel_rfl) (by kernel_rfl) rfl rfl ?_
  intro a w ho hI hp hB K hK
  have t3 := (ho 3 (by kernel_rfl)).trans A3
  have e3 := eval_slot t3
  clear ho hp
  unfold mw_o13
  go_simp
  exact hK _ _ hI rfl
theorem mw_s14 (Y : W0.heap[hb]? = some (.cells #[.int .i64 h.first, .int .i64 h.count, .int .i64 h.type, .int .i64 h.fnum, .int .i64 h.id, .int .i64 h.poc, .bool h.spatial, .int .i64 h.act0, .int .i64 h.act1, .slice m0 h.mods0.length m0c, .slice m1 h.mods1.length m1c, .int .i64 h.log, .int .i64 h.logc, .slice q0 h.w0.length q0c, .slice q1 h.w1.length q1c, .bool h.longkey, .slice os h.ops.length osc, .int .i64 h.qp, .bool h.off, .int .i64 h.a, .int .i64 h.b] 26 (0, 0))) : StepOk Tryz.prog mw_ops Q a0 (qI W0) (qV (mw_V ub hb s sa scap p ref key h m0 m1 q0 q1 os m0c m1c q0c q1c osc wq x3 x4 x9 x10 x11 x19 x20 x21 x25 x26 x34 x35 x36 x40 x41)) 14 := by
  refine stepG mw_o14 12 21 (by kernel_rfl) rfl (by kernel_rfl) (by kernel_rfl) rfl rfl ?_
  intro a w ho hI hp hB K hK
  have t22 : a.tmps[22]? = some (.pointer (some ⟨hb, 13, none⟩)) := qt (hp 13 22 (by kernel_rfl)) _ rfl hB
  have e22 := eval_slot t22
  clear ho hp
  have c0 := qcell hI Y 13 (.slice q0 h.w0.length q0c) rfl
  unfold mw_o14
  go_simp
  exact hK _ _ hI rfl
theorem mw_s15 : StepOk Tryz.prog mw_ops Q a0 (qI W0) (qV (mw_V ub hb s sa scap p ref key h m0 m1 q0 q1 os m0c m1c q0c q1c osc wq x3 x4 x9 x10 x11 x19 x20 x21 x25 x26 x34 x35 x36 x40 x41)) 15 := by
  refine stepG mw_o15 12 21 (by kernel_rfl) rfl (by kernel_rfl) (by kernel_rfl) rfl rfl ?_
  intro a w ho hI hp hB K hK
  have t23 : a.tmps[23]? = some (.slice q0 h.w0.length q0c) := qt (hp 14 23 (by kernel_rfl)) _ rfl hB
  have e23 := eval_slot t23
  clear ho hp
  unfold mw_o15
  go_simp
  exact hK _ _ hI rfl
theorem mw_s16 (A5 : a0.tmps[5]? = some (.bool wq)) : StepOk Tryz.prog mw_ops Q a0 (qI W0) (qV (mw_V ub hb s sa scap p ref key h m0 m1 q0 q1 os m0c m1c q0c q1c osc wq x3 x4 x9 x10 x11 x19 x20 x21 x25 x26 x34 x35 x36 x40 x41)) 16 := by
  refine stepG mw_o16 12 21 (by kernel_rfl) rfl (by kernel_rfl) (by kernel_rfl) rfl rfl ?_
  intro a w ho hI hp hB K hK
  have t5 := (ho 5 (by kernel_rfl)).trans A5
  have e5 := eval_slot t5
  clear ho hp
  unfold mw_o16
  go_simp
  exact hK _ _ hI rfl
theorem mw_s17 (A3 : a0.tmps[3]? = some (.pointer (some ⟨hb, 0, none⟩))) : StepOk Tryz.prog mw_ops Q a0 (qI W0) (qV (mw_V ub hb s sa scap p ref key h m0 m1 q0 q1 os m0c m1c q0c q1c osc wq x3 x4 x9 x10 x11 x19 x20 x21 x25 x26 x34 x35 x36 x40 x41)) 17 := by
  refine stepG mw_o17 12 21 (by kernel_rfl) rfl (by kernel_rfl) (by kernel_rfl) rfl rfl ?_
  intro a w ho hI hp hB K hK
  have t3 := (ho 3 (by kernel_rfl)).trans A3
  have e3 := eval_slot t3
  clear ho hp
  unfold mw_o17
  go_simp
  exact hK _ _ hI rfl
theorem mw_s18 (Y : W0.heap[hb]? = some (.cells #[.int .i64 h.first, .int .i64 h.count, .int .i64 h.type, .int .i64 h.fnum, .int .i64 h.id, .int .i64 h.poc, .bool h.spatial, .int .i64 h.act0, .int .i64 h.act1, .slice m0 h.mods0.length m0c, .slice m1 h.mods1.length m1c, .int .i64 h.log, .int .i64 h.logc, .slice q0 h.w0.length q0c, .slice q1 h.w1.length q1c, .bool h.longkey, .slice os h.ops.length osc, .int .i64 h.qp, .bool h.off, .int .i64 h.a, .int .i64 h.b] 26 (0, 0))) : StepOk Tryz.prog mw_ops Q a0 (qI W0) (qV (mw_V ub hb s sa scap p ref key h m0 m1 q0 q1 os m0c m1c q0c q1c osc wq x3 x4 x9 x10 x11 x19 x20 x21 x25 x26 x34 x35 x36 x40 x41)) 18 := by
  refine stepG mw_o18 12 21 (by kernel_rfl) rfl (by kernel_rfl) (by kernel_rfl) rfl rfl ?_
  intro a w ho hI hp hB K hK
  have t26 : a.tmps[26]? = some (.pointer (some ⟨hb, 7, none⟩)) := qt (hp 17 26 (by kernel_rfl)) _ rfl hB
  have e26 := eval_slot t26
  clear ho hp
  have c0 := qcell hI Y 7 (.int .i64 h.act0) rfl
  unfold mw_o18
  go_simp
  exact hK _ _ hI rfl
theorem mw_s19 (hx : x19 = (if wq = true then h.act0 else 0)) : StepOk Tryz.prog mw_ops Q a0 (qI W0) (qV (mw_V ub hb s sa scap p ref key h m0 m1 q0 q1 os m0c m1c q0c q1c osc wq x3 x4 x9 x10 x11 x19 x20 x21 x25 x26 x34 x35 x36 x40 x41)) 19 := by
  refine stepG mw_o19 12 21 (by kernel_rfl) rfl (by kernel_rfl) (by kernel_rfl) rfl rfl ?_
  intro a w ho hI hp hB K hK
  have t25 : a.tmps[25]? = some (.bool wq) := qt (hp 16 25 (by kernel_rfl)) _ rfl hB
  have e25 := eval_slot t25
  have t27 : a.tmps[27]? = some (.int .i64 h.act0) := qt (hp 18 27 (by kernel_rfl)) _ rfl hB
  have e27 := eval_slot t27
  clear ho hp
  unfold mw_o19
  go_simp
  refine (limit_any _ _ _).mono ?_
  rintro e w' ⟨rfl, rfl⟩
  exact hK _ _ hI (congrArg (Value.int .i64) hx.symm)
theorem mw_s20 (hx : x20 = ((h.w0.length : Int) == x19)) : StepOk Tryz.prog mw_ops Q a0 (qI W0) (qV (mw_V ub hb s sa scap p ref key h m0 m1 q0 q1 os m0c m1c q0c q1c osc wq x3 x4 x9 x10 x11 x19 x20 x21 x25 x26 x34 x35 x36 x40 x41)) 20 := by
  refine stepG mw_o20 12 21 (by kernel_rfl) rfl (by kernel_rfl) (by kernel_rfl) rfl rfl ?_
  intro a w ho hI hp hB K hK
  have t24 : a.tmps[24]? = some (.int .i64 (h.w0.length : Int)) := qt (hp 15 24 (by kernel_rfl)) _ rfl hB
  have e24 := eval_slot t24
  have t28 : a.tmps[28]? = some (.int .i64 x19) := qt (hp 19 28 (by kernel_rfl)) _ rfl hB
  have e28 := eval_slot t28
  clear ho hp
  unfold mw_o20
  go_simp
  exact hK _ _ hI (congrArg (Value.bool) hx.symm)
theorem mw_s21 (hx : x21 = (x11 && x20)) : StepOk Tryz.prog mw_ops Q a0 (qI W0) (qV (mw_V ub hb s sa scap p ref key h m0 m1 q0 q1 os m0c m1c q0c q1c osc wq x3 x4 x9 x10 x11 x19 x20 x21 x25 x26 x34 x35 x36 x40 x41)) 21 := by
  refine stepP mw_o21 (by kernel_rfl) rfl rfl ?_
  intro a w ho hI hp hB K hK
  have t21 : a.tmps[21]? = some (.bool x11) := qt (hp 12 21 (by kernel_rfl)) _ rfl rfl
  have e21 := eval_slot t21
  clear ho
  cases hq : x11 with
  | false =>
    have hz := hx.trans (by rw [hq]; rfl : _ = false)
    clear hp
    rw [hq] at e21
    unfold mw_o21
    go_simp
    exact hK _ _ hI (congrArg Value.bool hz.symm)
  | true =>
    have hz := hx.trans (by rw [hq]; rfl : _ = x20)
    have t29 : a.tmps[29]? = some (.bool x20) := qt (hp 20 29 (by kernel_rfl)) _ rfl (by rw [hq]; rfl)
    have e29 := eval_slot t29
    clear hp
    rw [hq] at e21
    unfold mw_o21
    go_simp
    exact hK _ _ hI (congrArg Value.bool hz.symm)
theorem mw_s22 : StepOk Tryz.prog mw_ops Q a0 (qI W0) (qV (mw_V ub hb s sa scap p ref key h m0 m1 q0 q1 os m0c m1c q0c q1c osc wq x3 x4 x9 x10 x11 x19 x20 x21 x25 x26 x34 x35 x36 x40 x41)) 22 := by
  refine stepP mw_o22 (by kernel_rfl) rfl rfl ?_
  intro a w ho hI hp hB K hK
  have t30 : a.tmps[30]? = some (.bool x21) := qt (hp 21 30 (by kernel_rfl)) _ rfl rfl
  have e30 := eval_slot t30
  clear ho hp
  unfold mw_o22
  go_simp
  exact hK _ _ hI rfl
theorem mw_s23 (A3 : a0.tmps[3]? = some (.pointer (some ⟨hb, 0, none⟩))) : StepOk Tryz.prog mw_ops Q a0 (qI W0) (qV (mw_V ub hb s sa scap p ref key h m0 m1 q0 q1 os m0c m1c q0c q1c osc wq x3 x4 x9 x10 x11 x19 x20 x21 x25 x26 x34 x35 x36 x40 x41)) 23 := by
  refine stepG mw_o23 22 31 (by kernel_rfl) rfl (by kernel_rfl) (by kernel_rfl) rfl rfl ?_
  intro a w ho hI hp hB K hK
  have t3 := (ho 3 (by kernel_rfl)).trans A3
  have e3 := eval_slot t3
  clear ho hp
  unfold mw_o23
  go_simp
  exact hK _ _ hI rfl
theorem mw_s24 (Y : W0.heap[hb]? = some (.cells #[.int .i64 h.first, .int .i64 h.count, .int .i64 h.type, .int .i64 h.fnum, .int .i64 h.id, .int .i64 h.poc, .bool h.spatial, .int .i64 h.act0, .int .i64 h.act1, .slice m0 h.mods0.length m0c, .slice m1 h.mods1.length m1c, .int .i64 h.log, .int .i64 h.logc, .slice q0 h.w0.length q0c, .slice q1 h.w1.length q1c, .bool h.longkey, .slice os h.ops.length osc, .int .i64 h.qp, .bool h.off, .int .i64 h.a, .int .i64 h.b] 26 (0, 0))) : StepOk Tryz.prog mw_ops Q a0 (qI W0) (qV (mw_V ub hb s sa scap p ref key h m0 m1 q0 q1 os m0c m1c q0c q1c osc wq x3 x4 x9 x10 x11 x19 x20 x21 x25 x26 x34 x35 x36 x40 x41)) 24 := by
  refine stepG mw_o24 22 31 (by kernel_rfl) rfl (by kernel_rfl) (by kernel_rfl) rfl rfl ?_
  intro a w ho hI hp hB K hK
  have t32 : a.tmps[32]? = some (.pointer (some ⟨hb, 13, none⟩)) := qt (hp 23 32 (by kernel_rfl)) _ rfl hB
  have e32 := eval_slot t32
  clear ho hp
  have c0 := qcell hI Y 13 (.slice q0 h.w0.length q0c) rfl
  unfold mw_o24
  go_simp
  exact hK _ _ hI rfl
theorem mw_s25 (HQ0 : ∀ wr : World, qI W0 wr → Calls Tryz.prog 104 #[.slice q0 h.w0.length q0c, .func (.func 105) #[] #[]] wr fun e w' => e = .returned (.bool (h.w0.all fun x => decide x.may)) ∧ Below wr.heap.size wr w') (hx : x25 = (h.w0.all fun x => decide x.may)) : StepOk Tryz.prog mw_ops Q a0 (qI W0) (qV (mw_V ub hb s sa scap p ref key h m0 m1 q0 q1 os m0c m1c q0c q1c osc wq x3 x4 x9 x10 x11 x19 x20 x21 x25 x26 x34 x35 x36 x40 x41)) 25 := by
  refine stepG mw_o25 22 31 (by kernel_rfl) rfl (by kernel_rfl) (by kernel_rfl) rfl rfl ?_
  intro a w ho hI hp hB K hK
  have t33 : a.tmps[33]? = some (.slice q0 h.w0.length q0c) := qt (hp 24 33 (by kernel_rfl)) _ rfl hB
  have e33 := eval_slot t33
  clear ho hp
  unfold mw_o25
  go_simp
  refine (HQ0 w hI).mono ?_
  rintro e w' ⟨rfl, b⟩
  exact hK _ _ (hI.step b) (congrArg (Value.bool) hx.symm)
theorem mw_s26 (hx : x26 = (x21 && x25)) : StepOk Tryz.prog mw_ops Q a0 (qI W0) (qV (mw_V ub hb s sa scap p ref key h m0 m1 q0 q1 os m0c m1c q0c q1c osc wq x3 x4 x9 x10 x11 x19 x20 x21 x25 x26 x34 x35 x36 x40 x41)) 26 := by
  refine stepP mw_o26 (by kernel_rfl) rfl rfl ?_
  intro a w ho hI hp hB K hK
  have t31 : a.tmps[31]? = some (.bool x21) := qt (hp 22 31 (by kernel_rfl)) _ rfl rfl
  have e31 := eval_slot t31
  clear ho
  cases hq : x21 with
  | false =>
    have hz := hx.trans (by rw [hq]; rfl : _ = false)
    clear hp
    rw [hq] at e31
    unfold mw_o26
    go_simp
    exact hK _ _ hI (congrArg Value.bool hz.symm)
  | true =>
    have hz := hx.trans (by rw [hq]; rfl : _ = x25)
    have t34 : a.tmps[34]? = some (.bool x25) := qt (hp 25 34 (by kernel_rfl)) _ rfl (by rw [hq]; rfl)
    have e34 := eval_slot t34
    clear hp
    rw [hq] at e31
    unfold mw_o26
    go_simp
    exact hK _ _ hI (congrArg Value.bool hz.symm)
theorem mw_s27 : StepOk Tryz.prog mw_ops Q a0 (qI W0) (qV (mw_V ub hb s sa scap p ref key h m0 m1 q0 q1 os m0c m1c q0c q1c osc wq x3 x4 x9 x10 x11 x19 x20 x21 x25 x26 x34 x35 x36 x40 x41)) 27 := by
  refine stepP mw_o27 (by kernel_rfl) rfl rfl ?_
  intro a w ho hI hp hB K hK
  have t35 : a.tmps[35]? = some (.bool x26) := qt (hp 26 35 (by kernel_rfl)) _ rfl rfl
  have e35 := eval_slot t35
  clear ho hp
  unfold mw_o27
  go_simp
  exact hK _ _ hI rfl
theorem mw_s28 (A3 : a0.tmps[3]? = some (.pointer (some ⟨hb, 0, none⟩))) : StepOk Tryz.prog mw_ops Q a0 (qI W0) (qV (mw_V ub hb s sa scap p ref key h m0 m1 q0 q1 os m0c m1c q0c q1c osc wq x3 x4 x9 x10 x11 x19 x20 x21 x25 x26 x34 x35 x36 x40 x41)) 28 := by
  refine stepG mw_o28 27 36 (by kernel_rfl) rfl (by kernel_rfl) (by kernel_rfl) rfl rfl ?_
  intro a w ho hI hp hB K hK
  have t3 := (ho 3 (by kernel_rfl)).trans A3
  have e3 := eval_slot t3
  clear ho hp
  unfold mw_o28
  go_simp
  exact hK _ _ hI rfl
theorem mw_s29 (Y : W0.heap[hb]? = some (.cells #[.int .i64 h.first, .int .i64 h.count, .int .i64 h.type, .int .i64 h.fnum, .int .i64 h.id, .int .i64 h.poc, .bool h.spatial, .int .i64 h.act0, .int .i64 h.act1, .slice m0 h.mods0.length m0c, .slice m1 h.mods1.length m1c, .int .i64 h.log, .int .i64 h.logc, .slice q0 h.w0.length q0c, .slice q1 h.w1.length q1c, .bool h.longkey, .slice os h.ops.length osc, .int .i64 h.qp, .bool h.off, .int .i64 h.a, .int .i64 h.b] 26 (0, 0))) : StepOk Tryz.prog mw_ops Q a0 (qI W0) (qV (mw_V ub hb s sa scap p ref key h m0 m1 q0 q1 os m0c m1c q0c q1c osc wq x3 x4 x9 x10 x11 x19 x20 x21 x25 x26 x34 x35 x36 x40 x41)) 29 := by
  refine stepG mw_o29 27 36 (by kernel_rfl) rfl (by kernel_rfl) (by kernel_rfl) rfl rfl ?_
  intro a w ho hI hp hB K hK
  have t37 : a.tmps[37]? = some (.pointer (some ⟨hb, 14, none⟩)) := qt (hp 28 37 (by kernel_rfl)) _ rfl hB
  have e37 := eval_slot t37
  clear ho hp
  have c0 := qcell hI Y 14 (.slice q1 h.w1.length q1c) rfl
  unfold mw_o29
  go_simp
  exact hK _ _ hI rfl
theorem mw_s30 : StepOk Tryz.prog mw_ops Q a0 (qI W0) (qV (mw_V ub hb s sa scap p ref key h m0 m1 q0 q1 os m0c m1c q0c q1c osc wq x3 x4 x9 x10 x11 x19 x20 x21 x25 x26 x34 x35 x36 x40 x41)) 30 := by
  refine stepG mw_o30 27 36 (by kernel_rfl) rfl (by kernel_rfl) (by kernel_rfl) rfl rfl ?_
  intro a w ho hI hp hB K hK
  have t38 : a.tmps[38]? = some (.slice q1 h.w1.length q1c) := qt (hp 29 38 (by kernel_rfl)) _ rfl hB
  have e38 := eval_slot t38
  clear ho hp
  unfold mw_o30
  go_simp
  exact hK _ _ hI rfl
theorem mw_s31 (A5 : a0.tmps[5]? = some (.bool wq)) : StepOk Tryz.prog mw_ops Q a0 (qI W0) (qV (mw_V ub hb s sa scap p ref key h m0 m1 q0 q1 os m0c m1c q0c q1c osc wq x3 x4 x9 x10 x11 x19 x20 x21 x25 x26 x34 x35 x36 x40 x41)) 31 := by
  refine stepG mw_o31 27 36 (by kernel_rfl) rfl (by kernel_rfl) (by kernel_rfl) rfl rfl ?_
  intro a w ho hI hp hB K hK
  have t5 := (ho 5 (by kernel_rfl)).trans A5
  have e5 := eval_slot t5
  clear ho hp
  unfold mw_o31
  go_simp
  exact hK _ _ hI rfl
theorem mw_s32 (A3 : a0.tmps[3]? = some (.pointer (some ⟨hb, 0, none⟩))) : StepOk Tryz.prog mw_ops Q a0 (qI W0) (qV (mw_V ub hb s sa scap p ref key h m0 m1 q0 q1 os m0c m1c q0c q1c osc wq x3 x4 x9 x10 x11 x19 x20 x21 x25 x26 x34 x35 x36 x40 x41)) 32 := by
  refine stepG mw_o32 27 36 (by kernel_rfl) rfl (by kernel_rfl) (by kernel_rfl) rfl rfl ?_
  intro a w ho hI hp hB K hK
  have t3 := (ho 3 (by kernel_rfl)).trans A3
  have e3 := eval_slot t3
  clear ho hp
  unfold mw_o32
  go_simp
  exact hK _ _ hI rfl
theorem mw_s33 (Y : W0.heap[hb]? = some (.cells #[.int .i64 h.first, .int .i64 h.count, .int .i64 h.type, .int .i64 h.fnum, .int .i64 h.id, .int .i64 h.poc, .bool h.spatial, .int .i64 h.act0, .int .i64 h.act1, .slice m0 h.mods0.length m0c, .slice m1 h.mods1.length m1c, .int .i64 h.log, .int .i64 h.logc, .slice q0 h.w0.length q0c, .slice q1 h.w1.length q1c, .bool h.longkey, .slice os h.ops.length osc, .int .i64 h.qp, .bool h.off, .int .i64 h.a, .int .i64 h.b] 26 (0, 0))) : StepOk Tryz.prog mw_ops Q a0 (qI W0) (qV (mw_V ub hb s sa scap p ref key h m0 m1 q0 q1 os m0c m1c q0c q1c osc wq x3 x4 x9 x10 x11 x19 x20 x21 x25 x26 x34 x35 x36 x40 x41)) 33 := by
  refine stepG mw_o33 27 36 (by kernel_rfl) rfl (by kernel_rfl) (by kernel_rfl) rfl rfl ?_
  intro a w ho hI hp hB K hK
  have t41 : a.tmps[41]? = some (.pointer (some ⟨hb, 8, none⟩)) := qt (hp 32 41 (by kernel_rfl)) _ rfl hB
  have e41 := eval_slot t41
  clear ho hp
  have c0 := qcell hI Y 8 (.int .i64 h.act1) rfl
  unfold mw_o33
  go_simp
  exact hK _ _ hI rfl
theorem mw_s34 (hx : x34 = (if wq = true then h.act1 else 0)) : StepOk Tryz.prog mw_ops Q a0 (qI W0) (qV (mw_V ub hb s sa scap p ref key h m0 m1 q0 q1 os m0c m1c q0c q1c osc wq x3 x4 x9 x10 x11 x19 x20 x21 x25 x26 x34 x35 x36 x40 x41)) 34 := by
  refine stepG mw_o34 27 36 (by kernel_rfl) rfl (by kernel_rfl) (by kernel_rfl) rfl rfl ?_
  intro a w ho hI hp hB K hK
  have t40 : a.tmps[40]? = some (.bool wq) := qt (hp 31 40 (by kernel_rfl)) _ rfl hB
  have e40 := eval_slot t40
  have t42 : a.tmps[42]? = some (.int .i64 h.act1) := qt (hp 33 42 (by kernel_rfl)) _ rfl hB
  have e42 := eval_slot t42
  clear ho hp
  unfold mw_o34
  go_simp
  refine (limit_any _ _ _).mono ?_
  rintro e w' ⟨rfl, rfl⟩
  exact hK _ _ hI (congrArg (Value.int .i64) hx.symm)
theorem mw_s35 (hx : x35 = ((h.w1.length : Int) == x34)) : StepOk Tryz.prog mw_ops Q a0 (qI W0) (qV (mw_V ub hb s sa scap p ref key h m0 m1 q0 q1 os m0c m1c q0c q1c osc wq x3 x4 x9 x10 x11 x19 x20 x21 x25 x26 x34 x35 x36 x40 x41)) 35 := by
  refine stepG mw_o35 27 36 (by kernel_rfl) rfl (by kernel_rfl) (by kernel_rfl) rfl rfl ?_
  intro a w ho hI hp hB K hK
  have t39 : a.tmps[39]? = some (.int .i64 (h.w1.length : Int)) := qt (hp 30 39 (by kernel_rfl)) _ rfl hB
  have e39 := eval_slot t39
  have t43 : a.tmps[43]? = some (.int .i64 x34) := qt (hp 34 43 (by kernel_rfl)) _ rfl hB
  have e43 := eval_slot t43
  clear ho hp
  unfold mw_o35
  go_simp
  exact hK _ _ hI (congrArg (Value.bool) hx.symm)
theorem mw_s36 (hx : x36 = (x26 && x35)) : StepOk Tryz.prog mw_ops Q a0 (qI W0) (qV (mw_V ub hb s sa scap p ref key h m0 m1 q0 q1 os m0c m1c q0c q1c osc wq x3 x4 x9 x10 x11 x19 x20 x21 x25 x26 x34 x35 x36 x40 x41)) 36 := by
  refine stepP mw_o36 (by kernel_rfl) rfl rfl ?_
  intro a w ho hI hp hB K hK
  have t36 : a.tmps[36]? = some (.bool x26) := qt (hp 27 36 (by kernel_rfl)) _ rfl rfl
  have e36 := eval_slot t36
  clear ho
  cases hq : x26 with
  | false =>
    have hz := hx.trans (by rw [hq]; rfl : _ = false)
    clear hp
    rw [hq] at e36
    unfold mw_o36
    go_simp
    exact hK _ _ hI (congrArg Value.bool hz.symm)
  | true =>
    have hz := hx.trans (by rw [hq]; rfl : _ = x35)
    have t44 : a.tmps[44]? = some (.bool x35) := qt (hp 35 44 (by kernel_rfl)) _ rfl (by rw [hq]; rfl)
    have e44 := eval_slot t44
    clear hp
    rw [hq] at e36
    unfold mw_o36
    go_simp
    exact hK _ _ hI (congrArg Value.bool hz.symm)
theorem mw_s37 : StepOk Tryz.prog mw_ops Q a0 (qI W0) (qV (mw_V ub hb s sa scap p ref key h m0 m1 q0 q1 os m0c m1c q0c q1c osc wq x3 x4 x9 x10 x11 x19 x20 x21 x25 x26 x34 x35 x36 x40 x41)) 37 := by
  refine stepP mw_o37 (by kernel_rfl) rfl rfl ?_
  intro a w ho hI hp hB K hK
  have t45 : a.tmps[45]? = some (.bool x36) := qt (hp 36 45 (by kernel_rfl)) _ rfl rfl
  have e45 := eval_slot t45
  clear ho hp
  unfold mw_o37
  go_simp
  exact hK _ _ hI rfl
theorem mw_s38 (A3 : a0.tmps[3]? = some (.pointer (some ⟨hb, 0, none⟩))) : StepOk Tryz.prog mw_ops Q a0 (qI W0) (qV (mw_V ub hb s sa scap p ref key h m0 m1 q0 q1 os m0c m1c q0c q1c osc wq x3 x4 x9 x10 x11 x19 x20 x21 x25 x26 x34 x35 x36 x40 x41)) 38 := by
  refine stepG mw_o38 37 46 (by kernel_rfl) rfl (by kernel_rfl) (by kernel_rfl) rfl rfl ?_
  intro a w ho hI hp hB K hK
  have t3 := (ho 3 (by kernel_rfl)).trans A3
  have e3 := eval_slot t3
  clear ho hp
  unfold mw_o38
  go_simp
  exact hK _ _ hI rfl
theorem mw_s39 (Y : W0.heap[hb]? = some (.cells #[.int .i64 h.first, .int .i64 h.count, .int .i64 h.type, .int .i64 h.fnum, .int .i64 h.id, .int .i64 h.poc, .bool h.spatial, .int .i64 h.act0, .int .i64 h.act1, .slice m0 h.mods0.length m0c, .slice m1 h.mods1.length m1c, .int .i64 h.log, .int .i64 h.logc, .slice q0 h.w0.length q0c, .slice q1 h.w1.length q1c, .bool h.longkey, .slice os h.ops.length osc, .int .i64 h.qp, .bool h.off, .int .i64 h.a, .int .i64 h.b] 26 (0, 0))) : StepOk Tryz.prog mw_ops Q a0 (qI W0) (qV (mw_V ub hb s sa scap p ref key h m0 m1 q0 q1 os m0c m1c q0c q1c osc wq x3 x4 x9 x10 x11 x19 x20 x21 x25 x26 x34 x35 x36 x40 x41)) 39 := by
  refine stepG mw_o39 37 46 (by kernel_rfl) rfl (by kernel_rfl) (by kernel_rfl) rfl rfl ?_
  intro a w ho hI hp hB K hK
  have t47 : a.tmps[47]? = some (.pointer (some ⟨hb, 14, none⟩)) := qt (hp 38 47 (by kernel_rfl)) _ rfl hB
  have e47 := eval_slot t47
  clear ho hp
  have c0 := qcell hI Y 14 (.slice q1 h.w1.length q1c) rfl
  unfold mw_o39
  go_simp
  exact hK _ _ hI rfl
theorem mw_s40 (HQ1 : ∀ wr : World, qI W0 wr → Calls Tryz.prog 104 #[.slice q1 h.w1.length q1c, .func (.func 105) #[] #[]] wr fun e w' => e = .returned (.bool (h.w1.all fun x => decide x.may)) ∧ Below wr.heap.size wr w') (hx : x40 = (h.w1.all fun x => decide x.may)) : StepOk Tryz.prog mw_ops Q a0 (qI W0) (qV (mw_V ub hb s sa scap p ref key h m0 m1 q0 q1 os m0c m1c q0c q1c osc wq x3 x4 x9 x10 x11 x19 x20 x21 x25 x26 x34 x35 x36 x40 x41)) 40 := by
  refine stepG mw_o40 37 46 (by kernel_rfl) rfl (by kernel_rfl) (by kernel_rfl) rfl rfl ?_
  intro a w ho hI hp hB K hK
  have t48 : a.tmps[48]? = some (.slice q1 h.w1.length q1c) := qt (hp 39 48 (by kernel_rfl)) _ rfl hB
  have e48 := eval_slot t48
  clear ho hp
  unfold mw_o40
  go_simp
  refine (HQ1 w hI).mono ?_
  rintro e w' ⟨rfl, b⟩
  exact hK _ _ (hI.step b) (congrArg (Value.bool) hx.symm)
theorem mw_s41 (hx : x41 = (x36 && x40)) : StepOk Tryz.prog mw_ops Q a0 (qI W0) (qV (mw_V ub hb s sa scap p ref key h m0 m1 q0 q1 os m0c m1c q0c q1c osc wq x3 x4 x9 x10 x11 x19 x20 x21 x25 x26 x34 x35 x36 x40 x41)) 41 := by
  refine stepP mw_o41 (by kernel_rfl) rfl rfl ?_
  intro a w ho hI hp hB K hK
  have t46 : a.tmps[46]? = some (.bool x36) := qt (hp 37 46 (by kernel_rfl)) _ rfl rfl
  have e46 := eval_slot t46
  clear ho
  cases hq : x36 with
  | false =>
    have hz := hx.trans (by rw [hq]; rfl : _ = false)
    clear hp
    rw [hq] at e46
    unfold mw_o41
    go_simp
    exact hK _ _ hI (congrArg Value.bool hz.symm)
  | true =>
    have hz := hx.trans (by rw [hq]; rfl : _ = x40)
    have t49 : a.tmps[49]? = some (.bool x40) := qt (hp 40 49 (by kernel_rfl)) _ rfl (by rw [hq]; rfl)
    have e49 := eval_slot t49
    clear hp
    rw [hq] at e46
    unfold mw_o41
    go_simp
    exact hK _ _ hI (congrArg Value.bool hz.symm)
theorem mw_s42 : StepOk Tryz.prog mw_ops Q a0 (qI W0) (qV (mw_V ub hb s sa scap p ref key h m0 m1 q0 q1 os m0c m1c q0c q1c osc wq x3 x4 x9 x10 x11 x19 x20 x21 x25 x26 x34 x35 x36 x40 x41)) 42 := by
  refine stepP mw_o42 (by kernel_rfl) rfl rfl ?_
  intro a w ho hI hp hB K hK
  have t50 : a.tmps[50]? = some (.bool x41) := qt (hp 41 50 (by kernel_rfl)) _ rfl rfl
  have e50 := eval_slot t50
  clear ho hp
  unfold mw_o42
  go_simp
  exact hK _ _ hI rfl
end
end Go.Proofs.YthcbgijmnonckaaGreat
