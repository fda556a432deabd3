/- Layer 3: the program's maySps. -/
import Derived.Test.YthcbgijmnonckaaGreatRT
namespace Go.Proofs.YthcbgijmnonckaaGreat
open Go.RowKit Zo Zp
set_option linter.unusedVariables false

def ms_o0 : Oper := { dst := some 5, op := Op.move (Operand.tmp 0), type := 138, pos := "sps.go:22", after := #[], guard := none }
def ms_o1 : Oper := { dst := some 6, op := Op.call { callee := Callee.value (Operand.func 99), args := #[Operand.tmp 5, Operand.const (Value.int IntKind.i64 0)], argTypes := #[138, 156] }, type := 151, pos := "sps.go:22", after := #[{ on := 0, ground := Ground.data }], guard := none }
def ms_o2 : Oper := { dst := some 7, op := Op.fieldAddr 29 (Operand.tmp 3) 0, type := 0, pos := "sps.go:22", after := #[], guard := none }
def ms_o3 : Oper := { dst := some 8, op := Op.load 3 (Operand.tmp 7), type := 3, pos := "sps.go:22", after := #[{ on := 2, ground := Ground.data }], guard := none }
def ms_o4 : Oper := { dst := some 9, op := Op.fieldAddr 29 (Operand.tmp 3) 1, type := 0, pos := "sps.go:22", after := #[], guard := none }
def ms_o5 : Oper := { dst := some 10, op := Op.load 3 (Operand.tmp 9), type := 3, pos := "sps.go:22", after := #[{ on := 4, ground := Ground.data }], guard := none }
def ms_o6 : Oper := { dst := some 11, op := Op.buildSlice 27 2 #[(0, Operand.tmp 8), (1, Operand.tmp 10)], type := 27, pos := "sps.go:22", after := #[{ on := 3, ground := Ground.data }, { on := 5, ground := Ground.data }], guard := none }
def ms_o7 : Oper := { dst := some 12, op := Op.call { callee := Callee.value (Operand.func 100), args := #[Operand.tmp 6, Operand.tmp 11], argTypes := #[151, 27] }, type := 4, pos := "sps.go:22", after := #[{ on := 1, ground := Ground.data }, { on := 6, ground := Ground.data }, { on := 1, ground := Ground.chain }], guard := none }
def ms_o8 : Oper := { dst := some 13, op := Op.move (Operand.tmp 12), type := 4, pos := "sps.go:22", after := #[{ on := 7, ground := Ground.data }, { on := 7, ground := Ground.chain }], guard := none }
def ms_o9 : Oper := { dst := some 14, op := Op.move (Operand.tmp 0), type := 138, pos := "sps.go:22", after := #[{ on := 8, ground := Ground.guard }], guard := some (8, true) }
def ms_o10 : Oper := { dst := some 15, op := Op.call { callee := Callee.value (Operand.func 99), args := #[Operand.tmp 14, Operand.const (Value.int IntKind.i64 1)], argTypes := #[138, 156] }, type := 151, pos := "sps.go:23", after := #[{ on := 9, ground := Ground.data }, { on := 8, ground := Ground.chain }, { on := 8, ground := Ground.guard }], guard := some (8, true) }
def ms_o11 : Oper := { dst := some 16, op := Op.fieldAddr 29 (Operand.tmp 3) 2, type := 0, pos := "sps.go:22", after := #[{ on := 8, ground := Ground.guard }], guard := some (8, true) }
def ms_o12 : Oper := { dst := some 17, op := Op.load 3 (Operand.tmp 16), type := 3, pos := "sps.go:22", after := #[{ on := 11, ground := Ground.data }, { on := 8, ground := Ground.guard }], guard := some (8, true) }
def ms_o13 : Oper := { dst := some 18, op := Op.fieldAddr 29 (Operand.tmp 3) 4, type := 0, pos := "sps.go:22", after := #[{ on := 8, ground := Ground.guard }], guard := some (8, true) }
def ms_o14 : Oper := { dst := some 19, op := Op.load 3 (Operand.tmp 18), type := 3, pos := "sps.go:22", after := #[{ on := 13, ground := Ground.data }, { on := 8, ground := Ground.guard }], guard := some (8, true) }
def ms_o15 : Oper := { dst := some 20, op := Op.buildSlice 27 2 #[(0, Operand.tmp 17), (1, Operand.tmp 19)], type := 27, pos := "sps.go:22", after := #[{ on := 12, ground := Ground.data }, { on := 14, ground := Ground.data }, { on := 8, ground := Ground.guard }], guard := some (8, true) }
def ms_o16 : Oper := { dst := some 21, op := Op.call { callee := Callee.value (Operand.func 100), args := #[Operand.tmp 15, Operand.tmp 20], argTypes := #[151, 27] }, type := 4, pos := "sps.go:23", after := #[{ on := 10, ground := Ground.data }, { on := 15, ground := Ground.data }, { on := 10, ground := Ground.chain }, { on := 8, ground := Ground.guard }], guard := some (8, true) }
def ms_o17 : Oper := { dst := some 22, op := Op.pick (Operand.tmp 13) (Operand.tmp 21) (Operand.const (Value.bool false)), type := 4, pos := "sps.go:22", after := #[{ on := 8, ground := Ground.data }, { on := 16, ground := Ground.data }], guard := none }
def ms_o18 : Oper := { dst := some 23, op := Op.move (Operand.tmp 22), type := 4, pos := "sps.go:22", after := #[{ on := 17, ground := Ground.data }, { on := 16, ground := Ground.chain }], guard := none }
def ms_o19 : Oper := { dst := some 24, op := Op.move (Operand.tmp 0), type := 138, pos := "sps.go:22", after := #[{ on := 18, ground := Ground.guard }], guard := some (18, true) }
def ms_o20 : Oper := { dst := some 25, op := Op.call { callee := Callee.value (Operand.func 99), args := #[Operand.tmp 24, Operand.const (Value.int IntKind.i64 2)], argTypes := #[138, 156] }, type := 151, pos := "sps.go:24", after := #[{ on := 19, ground := Ground.data }, { on := 18, ground := Ground.chain }, { on := 18, ground := Ground.guard }], guard := some (18, true) }
def ms_o21 : Oper := { dst := some 26, op := Op.fieldAddr 29 (Operand.tmp 3) 3, type := 0, pos := "sps.go:22", after := #[{ on := 18, ground := Ground.guard }], guard := some (18, true) }
def ms_o22 : Oper := { dst := some 27, op := Op.load 3 (Operand.tmp 26), type := 3, pos := "sps.go:22", after := #[{ on := 21, ground := Ground.data }, { on := 18, ground := Ground.guard }], guard := some (18, true) }
def ms_o23 : Oper := { dst := some 28, op := Op.buildSlice 27 1 #[(0, Operand.tmp 27)], type := 27, pos := "sps.go:22", after := #[{ on := 22, ground := Ground.data }, { on := 18, ground := Ground.guard }], guard := some (18, true) }
def ms_o24 : Oper := { dst := some 29, op := Op.call { callee := Callee.value (Operand.func 100), args := #[Operand.tmp 25, Operand.tmp 28], argTypes := #[151, 27] }, type := 4, pos := "sps.go:24", after := #[{ on := 20, ground := Ground.data }, { on := 23, ground := Ground.data }, { on := 20, ground := Ground.chain }, { on := 18, ground := Ground.guard }], guard := some (18, true) }
def ms_o25 : Oper := { dst := some 30, op := Op.pick (Operand.tmp 23) (Operand.tmp 29) (Operand.const (Value.bool false)), type := 4, pos := "sps.go:22", after := #[{ on := 18, ground := Ground.data }, { on := 24, ground := Ground.data }], guard := none }
def ms_o26 : Oper := { dst := some 31, op := Op.move (Operand.tmp 30), type := 4, pos := "sps.go:22", after := #[{ on := 25, ground := Ground.data }, { on := 24, ground := Ground.chain }], guard := none }
def ms_o27 : Oper := { dst := some 32, op := Op.move (Operand.tmp 0), type := 138, pos := "sps.go:22", after := #[{ on := 26, ground := Ground.guard }], guard := some (26, true) }
def ms_o28 : Oper := { dst := some 33, op := Op.call { callee := Callee.value (Operand.func 99), args := #[Operand.tmp 32, Operand.const (Value.int IntKind.i64 3)], argTypes := #[138, 156] }, type := 151, pos := "sps.go:25", after := #[{ on := 27, ground := Ground.data }, { on := 26, ground := Ground.chain }, { on := 26, ground := Ground.guard }], guard := some (26, true) }
def ms_o29 : Oper := { dst := some 34, op := Op.fieldAddr 29 (Operand.tmp 3) 6, type := 0, pos := "sps.go:22", after := #[{ on := 26, ground := Ground.guard }], guard := some (26, true) }
def ms_o30 : Oper := { dst := some 35, op := Op.load 27 (Operand.tmp 34), type := 27, pos := "sps.go:22", after := #[{ on := 29, ground := Ground.data }, { on := 26, ground := Ground.guard }], guard := some (26, true) }
def ms_o31 : Oper := { dst := some 36, op := Op.call { callee := Callee.builtin Builtin.len, args := #[Operand.tmp 35], argTypes := #[27] }, type := 3, pos := "sps.go:22", after := #[{ on := 30, ground := Ground.data }, { on := 26, ground := Ground.guard }], guard := some (26, true) }
def ms_o32 : Oper := { dst := some 37, op := Op.buildSlice 27 1 #[(0, Operand.tmp 36)], type := 27, pos := "sps.go:22", after := #[{ on := 31, ground := Ground.data }, { on := 26, ground := Ground.guard }], guard := some (26, true) }
def ms_o33 : Oper := { dst := some 38, op := Op.call { callee := Callee.value (Operand.func 100), args := #[Operand.tmp 33, Operand.tmp 37], argTypes := #[151, 27] }, type := 4, pos := "sps.go:25", after := #[{ on := 28, ground := Ground.data }, { on := 32, ground := Ground.data }, { on := 28, ground := Ground.chain }, { on := 26, ground := Ground.guard }], guard := some (26, true) }
def ms_o34 : Oper := { dst := some 39, op := Op.pick (Operand.tmp 31) (Operand.tmp 38) (Operand.const (Value.bool false)), type := 4, pos := "sps.go:22", after := #[{ on := 26, ground := Ground.data }, { on := 33, ground := Ground.data }], guard := none }
def ms_o35 : Oper := { dst := some 40, op := Op.move (Operand.tmp 39), type := 4, pos := "sps.go:22", after := #[{ on := 34, ground := Ground.data }, { on := 33, ground := Ground.chain }], guard := none }
def ms_o36 : Oper := { dst := some 41, op := Op.move (Operand.tmp 0), type := 138, pos := "sps.go:22", after := #[{ on := 35, ground := Ground.guard }], guard := some (35, true) }
def ms_o37 : Oper := { dst := some 42, op := Op.call { callee := Callee.value (Operand.func 99), args := #[Operand.tmp 41, Operand.const (Value.int IntKind.i64 4)], argTypes := #[138, 156] }, type := 151, pos := "sps.go:26", after := #[{ on := 36, ground := Ground.data }, { on := 35, ground := Ground.chain }, { on := 35, ground := Ground.guard }], guard := some (35, true) }
def ms_o38 : Oper := { dst := some 43, op := Op.fieldAddr 29 (Operand.tmp 3) 5, type := 0, pos := "sps.go:22", after := #[{ on := 35, ground := Ground.guard }], guard := some (35, true) }
def ms_o39 : Oper := { dst := some 44, op := Op.load 3 (Operand.tmp 43), type := 3, pos := "sps.go:22", after := #[{ on := 38, ground := Ground.data }, { on := 35, ground := Ground.guard }], guard := some (35, true) }
def ms_o40 : Oper := { dst := some 45, op := Op.buildSlice 27 1 #[(0, Operand.tmp 44)], type := 27, pos := "sps.go:22", after := #[{ on := 39, ground := Ground.data }, { on := 35, ground := Ground.guard }], guard := some (35, true) }
def ms_o41 : Oper := { dst := some 46, op := Op.call { callee := Callee.value (Operand.func 100), args := #[Operand.tmp 42, Operand.tmp 45], argTypes := #[151, 27] }, type := 4, pos := "sps.go:26", after := #[{ on := 37, ground := Ground.data }, { on := 40, ground := Ground.data }, { on := 37, ground := Ground.chain }, { on := 35, ground := Ground.guard }], guard := some (35, true) }
def ms_o42 : Oper := { dst := some 47, op := Op.pick (Operand.tmp 40) (Operand.tmp 46) (Operand.const (Value.bool false)), type := 4, pos := "sps.go:22", after := #[{ on := 35, ground := Ground.data }, { on := 41, ground := Ground.data }], guard := none }
def ms_o43 : Oper := { dst := some 48, op := Op.move (Operand.tmp 47), type := 4, pos := "sps.go:22", after := #[{ on := 42, ground := Ground.data }, { on := 41, ground := Ground.chain }], guard := none }
def ms_o44 : Oper := { dst := some 49, op := Op.move (Operand.tmp 0), type := 138, pos := "sps.go:22", after := #[{ on := 43, ground := Ground.guard }], guard := some (43, true) }
def ms_o45 : Oper := { dst := some 50, op := Op.call { callee := Callee.value (Operand.func 99), args := #[Operand.tmp 49, Operand.const (Value.int IntKind.i64 4)], argTypes := #[138, 156] }, type := 151, pos := "sps.go:27", after := #[{ on := 44, ground := Ground.data }, { on := 43, ground := Ground.chain }, { on := 43, ground := Ground.guard }], guard := some (43, true) }
def ms_o46 : Oper := { dst := some 51, op := Op.fieldAddr 29 (Operand.tmp 3) 6, type := 0, pos := "sps.go:22", after := #[{ on := 43, ground := Ground.guard }], guard := some (43, true) }
def ms_o47 : Oper := { dst := some 52, op := Op.load 27 (Operand.tmp 51), type := 27, pos := "sps.go:22", after := #[{ on := 46, ground := Ground.data }, { on := 43, ground := Ground.guard }], guard := some (43, true) }
def ms_o48 : Oper := { dst := some 53, op := Op.call { callee := Callee.value (Operand.func 100), args := #[Operand.tmp 50, Operand.tmp 52], argTypes := #[151, 27] }, type := 4, pos := "sps.go:27", after := #[{ on := 45, ground := Ground.data }, { on := 47, ground := Ground.data }, { on := 45, ground := Ground.chain }, { on := 43, ground := Ground.guard }], guard := some (43, true) }
def ms_o49 : Oper := { dst := some 54, op := Op.pick (Operand.tmp 48) (Operand.tmp 53) (Operand.const (Value.bool false)), type := 4, pos := "sps.go:22", after := #[{ on := 43, ground := Ground.data }, { on := 48, ground := Ground.data }], guard := none }
def ms_o50 : Oper := { dst := some 55, op := Op.move (Operand.tmp 54), type := 4, pos := "sps.go:22", after := #[{ on := 49, ground := Ground.data }, { on := 48, ground := Ground.chain }], guard := none }
def ms_o51 : Oper := { dst := some 56, op := Op.move (Operand.tmp 0), type := 138, pos := "sps.go:22", after := #[{ on := 50, ground := Ground.guard }], guard := some (50, true) }
def ms_o52 : Oper := { dst := some 57, op := Op.call { callee := Callee.value (Operand.func 99), args := #[Operand.tmp 56, Operand.const (Value.int IntKind.i64 5)], argTypes := #[138, 156] }, type := 151, pos := "sps.go:28", after := #[{ on := 51, ground := Ground.data }, { on := 50, ground := Ground.chain }, { on := 50, ground := Ground.guard }], guard := some (50, true) }
def ms_o53 : Oper := { dst := some 58, op := Op.fieldAddr 29 (Operand.tmp 3) 7, type := 0, pos := "sps.go:22", after := #[{ on := 50, ground := Ground.guard }], guard := some (50, true) }
def ms_o54 : Oper := { dst := some 59, op := Op.load 3 (Operand.tmp 58), type := 3, pos := "sps.go:22", after := #[{ on := 53, ground := Ground.data }, { on := 50, ground := Ground.guard }], guard := some (50, true) }
def ms_o55 : Oper := { dst := some 60, op := Op.buildSlice 27 1 #[(0, Operand.tmp 59)], type := 27, pos := "sps.go:22", after := #[{ on := 54, ground := Ground.data }, { on := 50, ground := Ground.guard }], guard := some (50, true) }
def ms_o56 : Oper := { dst := some 61, op := Op.call { callee := Callee.value (Operand.func 100), args := #[Operand.tmp 57, Operand.tmp 60], argTypes := #[151, 27] }, type := 4, pos := "sps.go:28", after := #[{ on := 52, ground := Ground.data }, { on := 55, ground := Ground.data }, { on := 52, ground := Ground.chain }, { on := 50, ground := Ground.guard }], guard := some (50, true) }
def ms_o57 : Oper := { dst := some 62, op := Op.pick (Operand.tmp 55) (Operand.tmp 61) (Operand.const (Value.bool false)), type := 4, pos := "sps.go:22", after := #[{ on := 50, ground := Ground.data }, { on := 56, ground := Ground.data }], guard := none }
def ms_o58 : Oper := { dst := some 63, op := Op.move (Operand.tmp 62), type := 4, pos := "sps.go:22", after := #[{ on := 57, ground := Ground.data }, { on := 56, ground := Ground.chain }], guard := none }
def ms_o59 : Oper := { dst := some 64, op := Op.fieldAddr 29 (Operand.tmp 3) 7, type := 0, pos := "sps.go:22", after := #[{ on := 58, ground := Ground.guard }], guard := some (58, true) }
def ms_o60 : Oper := { dst := some 65, op := Op.load 3 (Operand.tmp 64), type := 3, pos := "sps.go:22", after := #[{ on := 59, ground := Ground.data }, { on := 58, ground := Ground.guard }], guard := some (58, true) }
def ms_o61 : Oper := { dst := some 66, op := Op.build 151 #[(0, Operand.const (Value.int IntKind.i64 0)), (1, Operand.tmp 65)], type := 151, pos := "sps.go:22", after := #[{ on := 60, ground := Ground.data }, { on := 58, ground := Ground.guard }], guard := some (58, true) }
def ms_o62 : Oper := { dst := some 67, op := Op.fieldAddr 29 (Operand.tmp 3) 8, type := 0, pos := "sps.go:22", after := #[{ on := 58, ground := Ground.guard }], guard := some (58, true) }
def ms_o63 : Oper := { dst := some 68, op := Op.load 3 (Operand.tmp 67), type := 3, pos := "sps.go:22", after := #[{ on := 62, ground := Ground.data }, { on := 58, ground := Ground.guard }], guard := some (58, true) }
def ms_o64 : Oper := { dst := some 69, op := Op.buildSlice 27 1 #[(0, Operand.tmp 68)], type := 27, pos := "sps.go:22", after := #[{ on := 63, ground := Ground.data }, { on := 58, ground := Ground.guard }], guard := some (58, true) }
def ms_o65 : Oper := { dst := some 70, op := Op.call { callee := Callee.value (Operand.func 100), args := #[Operand.tmp 66, Operand.tmp 69], argTypes := #[151, 27] }, type := 4, pos := "sps.go:29", after := #[{ on := 61, ground := Ground.data }, { on := 64, ground := Ground.data }, { on := 58, ground := Ground.chain }, { on := 58, ground := Ground.guard }], guard := some (58, true) }
def ms_o66 : Oper := { dst := some 71, op := Op.pick (Operand.tmp 63) (Operand.tmp 70) (Operand.const (Value.bool false)), type := 4, pos := "sps.go:22", after := #[{ on := 58, ground := Ground.data }, { on := 65, ground := Ground.data }], guard := none }
def ms_o67 : Oper := { dst := some 72, op := Op.move (Operand.tmp 71), type := 4, pos := "sps.go:22", after := #[{ on := 66, ground := Ground.data }, { on := 65, ground := Ground.chain }], guard := none }
def ms_o68 : Oper := { dst := some 73, op := Op.load 29 (Operand.tmp 3), type := 29, pos := "sps.go:22", after := #[{ on := 67, ground := Ground.guard }], guard := some (67, true) }
def ms_o69 : Oper := { dst := some 74, op := Op.call { callee := Callee.value (Operand.func 123), args := #[Operand.tmp 73], argTypes := #[29] }, type := 4, pos := "sps.go:30", after := #[{ on := 68, ground := Ground.data }, { on := 67, ground := Ground.chain }, { on := 67, ground := Ground.guard }], guard := some (67, true) }
def ms_o70 : Oper := { dst := some 75, op := Op.pick (Operand.tmp 72) (Operand.tmp 74) (Operand.const (Value.bool false)), type := 4, pos := "sps.go:22", after := #[{ on := 67, ground := Ground.data }, { on := 69, ground := Ground.data }], guard := none }
def ms_o71 : Oper := { dst := some 4, op := Op.assign (Operand.tmp 75), type := 4, pos := "sps.go:22", after := ([{ on := 70, ground := Ground.data }, { on := 69, ground := Ground.chain }, { on := 0, ground := Ground.phase }, { on := 1, ground := Ground.phase }, { on := 2, ground := Ground.phase }, { on := 3, ground := Ground.phase }, { on := 4, ground := Ground.phase }, { on := 5, ground := Ground.phase }, { on := 6, ground := Ground.phase }, { on := 7, ground := Ground.phase }, { on := 8, ground := Ground.phase }, { on := 9, ground := Ground.phase }, { on := 10, ground := Ground.phase }, { on := 11, ground := Ground.phase }, { on := 12, ground := Ground.phase }, { on := 13, ground := Ground.phase }, { on := 14, ground := Ground.phase }, { on := 15, ground := Ground.phase }, { on := 16, ground := Ground.phase }, { on := 17, ground := Ground.phase }, { on := 18, ground := Ground.phase }, { on := 19, ground := Ground.phase }, { on := 20, ground := Ground.phase }, { on := 21, ground := Ground.phase }, { on := 22, ground := Ground.phase }, { on := 23, ground := Ground.phase }, { on := 24, ground := Ground.phase }, { on := 25, ground := Ground.phase }, { on := 26, ground := Ground.phase }, { on := 27, ground := Ground.phase }, { on := 28, ground := Ground.phase }, { on := 29, ground := Ground.phase }, { on := 30, ground := Ground.phase }, { on := 31, ground := Ground.phase }, { on := 32, ground := Ground.phase }, { on := 33, ground := Ground.phase }].append [{ on := 34, ground := Ground.phase }, { on := 35, ground := Ground.phase }, { on := 36, ground := Ground.phase }, { on := 37, ground := Ground.phase }, { on := 38, ground := Ground.phase }, { on := 39, ground := Ground.phase }, { on := 40, ground := Ground.phase }, { on := 41, ground := Ground.phase }, { on := 42, ground := Ground.phase }, { on := 43, ground := Ground.phase }, { on := 44, ground := Ground.phase }, { on := 45, ground := Ground.phase }, { on := 46, ground := Ground.phase }, { on := 47, ground := Ground.phase }, { on := 48, ground := Ground.phase }, { on := 49, ground := Ground.phase }, { on := 50, ground := Ground.phase }, { on := 51, ground := Ground.phase }, { on := 52, ground := Ground.phase }, { on := 53, ground := Ground.phase }, { on := 54, ground := Ground.phase }, { on := 55, ground := Ground.phase }, { on := 56, ground := Ground.phase }, { on := 57, ground := Ground.phase }, { on := 58, ground := Ground.phase }, { on := 59, ground := Ground.phase }, { on := 60, ground := Ground.phase }, { on := 61, ground := Ground.phase }, { on := 62, ground := Ground.phase }, { on := 63, ground := Ground.phase }, { on := 64, ground := Ground.phase }, { on := 65, ground := Ground.phase }, { on := 66, ground := Ground.phase }, { on := 67, ground := Ground.phase }, { on := 68, ground := Ground.phase }, { on := 69, ground := Ground.phase }, { on := 70, ground := Ground.phase }]).toArray, guard := none }
def ms_ops : Array Oper := #[ms_o0, ms_o1, ms_o2, ms_o3, ms_o4, ms_o5, ms_o6, ms_o7, ms_o8, ms_o9, ms_o10, ms_o11, ms_o12, ms_o13, ms_o14, ms_o15, ms_o16, ms_o17, ms_o18, ms_o19, ms_o20, ms_o21, ms_o22, ms_o23, ms_o24, ms_o25, ms_o26, ms_o27, ms_o28, ms_o29, ms_o30, ms_o31, ms_o32, ms_o33, ms_o34, ms_o35, ms_o36, ms_o37, ms_o38, ms_o39, ms_o40, ms_o41, ms_o42, ms_o43, ms_o44, ms_o45, ms_o46, ms_o47, ms_o48, ms_o49, ms_o50, ms_o51, ms_o52, ms_o53, ms_o54, ms_o55, ms_o56, ms_o57, ms_o58, ms_o59, ms_o60, ms_o61, ms_o62, ms_o63, ms_o64, ms_o65, ms_o66, ms_o67, ms_o68, ms_o69, ms_o70, ms_o71]
def ms_V (kb bx : Nat) (wide high fbits ptype pbits nonref : Int) (cycle : List Int) (refs delay : Int) (ca : Option Addr) (cap : Nat) (b0 b1 b2 b3 b4 b5 b6 b7 fit : Bool) : List Vs := [.is true (.pointer (some ⟨kb, 0, none⟩)), .is true (.agg #[.int .i64 1, .int .i64 8]), .is true (.pointer (some ⟨bx, 0, none⟩)), .is true (.int .i64 wide), .is true (.pointer (some ⟨bx, 1, none⟩)), .is true (.int .i64 high), .row true [wide, high], .is true (.bool b0), .is true (.bool b0), .is b0 (.pointer (some ⟨kb, 0, none⟩)), .is b0 (.agg #[.int .i64 4, .int .i64 8]), .is b0 (.pointer (some ⟨bx, 2, none⟩)), .is b0 (.int .i64 fbits), .is b0 (.pointer (some ⟨bx, 4, none⟩)), .is b0 (.int .i64 pbits), .row b0 [fbits, pbits], .is b0 (.bool b1), .is true (.bool (b0 && b1)), .is true (.bool (b0 && b1)), .is (b0 && b1) (.pointer (some ⟨kb, 0, none⟩)), .is (b0 && b1) (.agg #[.int .i64 0, .int .i64 2]), .is (b0 && b1) (.pointer (some ⟨bx, 3, none⟩)), .is (b0 && b1) (.int .i64 ptype), .row (b0 && b1) [ptype], .is (b0 && b1) (.bool b2), .is true (.bool ((b0 && b1) && b2)), .is true (.bool ((b0 && b1) && b2)), .is ((b0 && b1) && b2) (.pointer (some ⟨kb, 0, none⟩)), .is ((b0 && b1) && b2) (.agg #[.int .i64 0, .int .i64 4]), .is ((b0 && b1) && b2) (.pointer (some ⟨bx, 6, none⟩)), .is ((b0 && b1) && b2) (.slice ca cycle.length cap), .is ((b0 && b1) && b2) (.int .i64 (cycle.length : Int)), .row ((b0 && b1) && b2) [(cycle.length : Int)], .is ((b0 && b1) && b2) (.bool b3), .is true (.bool (((b0 && b1) && b2) && b3)), .is true (.bool (((b0 && b1) && b2) && b3)), .is (((b0 && b1) && b2) && b3) (.pointer (some ⟨kb, 0, none⟩)), .is (((b0 && b1) && b2) && b3) (.agg #[.int .i64 (-1000), .int .i64 1000]), .is (((b0 && b1) && b2) && b3) (.pointer (some ⟨bx, 5, none⟩)), .is (((b0 && b1) && b2) && b3) (.int .i64 nonref), .row (((b0 && b1) && b2) && b3) [nonref], .is (((b0 && b1) && b2) && b3) (.bool b4), .is true (.bool ((((b0 && b1) && b2) && b3) && b4)), .is true (.bool ((((b0 && b1) && b2) && b3) && b4)), .is ((((b0 && b1) && b2) && b3) && b4) (.pointer (some ⟨kb, 0, none⟩)), .is ((((b0 && b1) && b2) && b3) && b4) (.agg #[.int .i64 (-1000), .int .i64 1000]), .is ((((b0 && b1) && b2) && b3) && b4) (.pointer (some ⟨bx, 6, none⟩)), .is ((((b0 && b1) && b2) && b3) && b4) (.slice ca cycle.length cap), .is ((((b0 && b1) && b2) && b3) && b4) (.bool b5), .is true (.bool (((((b0 && b1) && b2) && b3) && b4) && b5)), .is true (.bool (((((b0 && b1) && b2) && b3) && b4) && b5)), .is (((((b0 && b1) && b2) && b3) && b4) && b5) (.pointer (some ⟨kb, 0, none⟩)), .is (((((b0 && b1) && b2) && b3) && b4) && b5) (.agg #[.int .i64 1, .int .i64 8]), .is (((((b0 && b1) && b2) && b3) && b4) && b5) (.pointer (some ⟨bx, 7, none⟩)), .is (((((b0 && b1) && b2) && b3) && b4) && b5) (.int .i64 refs), .row (((((b0 && b1) && b2) && b3) && b4) && b5) [refs], .is (((((b0 && b1) && b2) && b3) && b4) && b5) (.bool b6), .is true (.bool ((((((b0 && b1) && b2) && b3) && b4) && b5) && b6)), .is true (.bool ((((((b0 && b1) && b2) && b3) && b4) && b5) && b6)), .is ((((((b0 && b1) && b2) && b3) && b4) && b5) && b6) (.pointer (some ⟨bx, 7, none⟩)), .is ((((((b0 && b1) && b2) && b3) && b4) && b5) && b6) (.int .i64 refs), .is ((((((b0 && b1) && b2) && b3) && b4) && b5) && b6) (.agg #[.int .i64 0, .int .i64 refs]), .is ((((((b0 && b1) && b2) && b3) && b4) && b5) && b6) (.pointer (some ⟨bx, 8, none⟩)), .is ((((((b0 && b1) && b2) && b3) && b4) && b5) && b6) (.int .i64 delay), .row ((((((b0 && b1) && b2) && b3) && b4) && b5) && b6) [delay], .is ((((((b0 && b1) && b2) && b3) && b4) && b5) && b6) (.bool b7), .is true (.bool (((((((b0 && b1) && b2) && b3) && b4) && b5) && b6) && b7)), .is true (.bool (((((((b0 && b1) && b2) && b3) && b4) && b5) && b6) && b7)), .is (((((((b0 && b1) && b2) && b3) && b4) && b5) && b6) && b7) (.agg #[.int .i64 wide, .int .i64 high, .int .i64 fbits, .int .i64 ptype, .int .i64 pbits, .int .i64 nonref, .slice ca cycle.length cap, .int .i64 refs, .int .i64 delay]), .is (((((((b0 && b1) && b2) && b3) && b4) && b5) && b6) && b7) (.bool fit), .is true (.bool ((((((((b0 && b1) && b2) && b3) && b4) && b5) && b6) && b7) && fit)), .is true (.bool ((((((((b0 && b1) && b2) && b3) && b4) && b5) && b6) && b7) && fit))]
section
set_option maxRecDepth 100000
variable {Q : Exit → Act → World → Prop} {a0 : Act} {W0 : World} {kb bx : Nat} {wide high fbits ptype pbits nonref : Int} {cycle : List Int} {refs delay : Int} {ca : Option Addr} {cap : Nat} {b0 b1 b2 b3 b4 b5 b6 b7 fit : Bool}
theorem ms_s0 (A0 : a0.tmps[0]? = some (.pointer (some ⟨kb, 0, none⟩))) : StepOk Tryz.prog ms_ops Q a0 (Ms W0 bx kb 29 #[.int .i64 wide, .int .i64 high, .int .i64 fbits, .int .i64 ptype, .int .i64 pbits, .int .i64 nonref, .slice ca cycle.length cap, .int .i64 refs, .int .i64 delay]) (specV kb (ms_V kb bx wide high fbits ptype pbits nonref cycle refs delay ca cap b0 b1 b2 b3 b4 b5 b6 b7 fit)) 0 := by
  intro a w hout hI hdep o ho K hK
  obtain rfl : o = ms_o0 := Option.some.inj (ho.symm.trans (by kernel_rfl))
  clear ho
  have t0 := (hout 0 (by kernel_rfl)).trans A0
  rw [if_pos (show Region.wanted ms_o0 _ = true from rfl)]
  have e0 := eval_slot t0
  unfold ms_o0
  go_simp
  exact hK _ _ hI (fun _ _ h => h) (fun _ => rfl)
theorem ms_s1 : StepOk Tryz.prog ms_ops Q a0 (Ms W0 bx kb 29 #[.int .i64 wide, .int .i64 high, .int .i64 fbits, .int .i64 ptype, .int .i64 pbits, .int .i64 nonref, .slice ca cycle.length cap, .int .i64 refs, .int .i64 delay]) (specV kb (ms_V kb bx wide high fbits ptype pbits nonref cycle refs delay ca cap b0 b1 b2 b3 b4 b5 b6 b7 fit)) 1 := by
  intro a w hout hI hdep o ho K hK
  obtain rfl : o = ms_o1 := Option.some.inj (ho.symm.trans (by kernel_rfl))
  clear ho
  obtain ⟨v5, t5, f5⟩ := hdep 0 5 (by kernel_rfl)
  rw [if_pos (show Region.wanted ms_o1 _ = true from rfl)]
  obtain rfl : v5 = .pointer (some ⟨kb, 0, none⟩) := f5 rfl
  have e5 := eval_slot t5
  unfold ms_o1
  go_simp
  refine (ms_of_0 w hI).mono ?_
  rintro e w1 ⟨rfl, M1, F1⟩
  exact hK _ _ M1 (fun j u h => specV_fr F1 j u h) (fun _ => rfl)
theorem ms_s2 (A3 : a0.tmps[3]? = some (.pointer (some ⟨bx, 0, none⟩))) : StepOk Tryz.prog ms_ops Q a0 (Ms W0 bx kb 29 #[.int .i64 wide, .int .i64 high, .int .i64 fbits, .int .i64 ptype, .int .i64 pbits, .int .i64 nonref, .slice ca cycle.length cap, .int .i64 refs, .int .i64 delay]) (specV kb (ms_V kb bx wide high fbits ptype pbits nonref cycle refs delay ca cap b0 b1 b2 b3 b4 b5 b6 b7 fit)) 2 := by
  intro a w hout hI hdep o ho K hK
  obtain rfl : o = ms_o2 := Option.some.inj (ho.symm.trans (by kernel_rfl))
  clear ho
  have t3 := (hout 3 (by kernel_rfl)).trans A3
  rw [if_pos (show Region.wanted ms_o2 _ = true from rfl)]
  have e3 := eval_slot t3
  unfold ms_o2
  go_simp
  exact hK _ _ hI (fun _ _ h => h) (fun _ => rfl)
theorem ms_s3 : StepOk Tryz.prog ms_ops Q a0 (Ms W0 bx kb 29 #[.int .i64 wide, .int .i64 high, .int .i64 fbits, .int .i64 ptype, .int .i64 pbits, .int .i64 nonref, .slice ca cycle.length cap, .int .i64 refs, .int .i64 delay]) (specV kb (ms_V kb bx wide high fbits ptype pbits nonref cycle refs delay ca cap b0 b1 b2 b3 b4 b5 b6 b7 fit)) 3 := by
  intro a w hout hI hdep o ho K hK
  obtain rfl : o = ms_o3 := Option.some.inj (ho.symm.trans (by kernel_rfl))
  clear ho
  obtain ⟨v7, t7, f7⟩ := hdep 2 7 (by kernel_rfl)
  rw [if_pos (show Region.wanted ms_o3 _ = true from rfl)]
  obtain rfl : v7 = .pointer (some ⟨bx, 0, none⟩) := f7 rfl
  have e7 := eval_slot t7
  have c := hI.box 0 (.int .i64 wide) rfl
  unfold ms_o3
  go_simp
  exact hK _ _ hI (fun _ _ h => h) (fun _ => rfl)
theorem ms_s4 (A3 : a0.tmps[3]? = some (.pointer (some ⟨bx, 0, none⟩))) : StepOk Tryz.prog ms_ops Q a0 (Ms W0 bx kb 29 #[.int .i64 wide, .int .i64 high, .int .i64 fbits, .int .i64 ptype, .int .i64 pbits, .int .i64 nonref, .slice ca cycle.length cap, .int .i64 refs, .int .i64 delay]) (specV kb (ms_V kb bx wide high fbits ptype pbits nonref cycle refs delay ca cap b0 b1 b2 b3 b4 b5 b6 b7 fit)) 4 := by
  intro a w hout hI hdep o ho K hK
  obtain rfl : o = ms_o4 := Option.some.inj (ho.symm.trans (by kernel_rfl))
  clear ho
  have t3 := (hout 3 (by kernel_rfl)).trans A3
  rw [if_pos (show Region.wanted ms_o4 _ = true from rfl)]
  have e3 := eval_slot t3
  unfold ms_o4
  go_simp
  exact hK _ _ hI (fun _ _ h => h) (fun _ => rfl)
theorem ms_s5 : StepOk Tryz.prog ms_ops Q a0 (Ms W0 bx kb 29 #[.int .i64 wide, .int .i64 high, .int .i64 fbits, .int .i64 ptype, .int .i64 pbits, .int .i64 nonref, .slice ca cycle.length cap, .int .i64 refs, .int .i64 delay]) (specV kb (ms_V kb bx wide high fbits ptype pbits nonref cycle refs delay ca cap b0 b1 b2 b3 b4 b5 b6 b7 fit)) 5 := by
  intro a w hout hI hdep o ho K hK
  obtain rfl : o = ms_o5 := Option.some.inj (ho.symm.trans (by kernel_rfl))
  clear ho
  obtain ⟨v9, t9, f9⟩ := hdep 4 9 (by kernel_rfl)
  rw [if_pos (show Region.wanted ms_o5 _ = true from rfl)]
  obtain rfl : v9 = .pointer (some ⟨bx, 1, none⟩) := f9 rfl
  have e9 := eval_slot t9
  have c := hI.box 1 (.int .i64 high) rfl
  unfold ms_o5
  go_simp
  exact hK _ _ hI (fun _ _ h => h) (fun _ => rfl)
theorem ms_s6 : StepOk Tryz.prog ms_ops Q a0 (Ms W0 bx kb 29 #[.int .i64 wide, .int .i64 high, .int .i64 fbits, .int .i64 ptype, .int .i64 pbits, .int .i64 nonref, .slice ca cycle.length cap, .int .i64 refs, .int .i64 delay]) (specV kb (ms_V kb bx wide high fbits ptype pbits nonref cycle refs delay ca cap b0 b1 b2 b3 b4 b5 b6 b7 fit)) 6 := by
  intro a w hout hI hdep o ho K hK
  obtain rfl : o = ms_o6 := Option.some.inj (ho.symm.trans (by kernel_rfl))
  clear ho
  obtain ⟨v8, t8, f8⟩ := hdep 3 8 (by kernel_rfl)
  obtain ⟨v10, t10, f10⟩ := hdep 5 10 (by kernel_rfl)
  rw [if_pos (show Region.wanted ms_o6 _ = true from rfl)]
  obtain rfl : v8 = .int .i64 wide := f8 rfl
  obtain rfl : v10 = .int .i64 high := f10 rfl
  have e8 := eval_slot t8
  have e10 := eval_slot t10
  unfold ms_o6
  go_simp
  exact hK _ _ (hI.alloc _) (fun j u h => specV_fr (Fr.alloc (Fr.refl _ _) _) j u h) (fun _ => ⟨w.heap.size, rfl, heap_alloc_last _ _, by have := hI.2.1.lt; omega⟩)
theorem ms_s7 (HH : ∀ (wr : World) (a : Option Addr) (cap : Nat), IntRow wr a [wide, high] → Calls Tryz.prog 100 #[.agg #[.int .i64 1, .int .i64 8], .slice a 2 cap] wr fun e w' => e = .returned (.bool b0) ∧ Below wr.heap.size wr w') : StepOk Tryz.prog ms_ops Q a0 (Ms W0 bx kb 29 #[.int .i64 wide, .int .i64 high, .int .i64 fbits, .int .i64 ptype, .int .i64 pbits, .int .i64 nonref, .slice ca cycle.length cap, .int .i64 refs, .int .i64 delay]) (specV kb (ms_V kb bx wide high fbits ptype pbits nonref cycle refs delay ca cap b0 b1 b2 b3 b4 b5 b6 b7 fit)) 7 := by
  intro a w hout hI hdep o ho K hK
  obtain rfl : o = ms_o7 := Option.some.inj (ho.symm.trans (by kernel_rfl))
  clear ho
  obtain ⟨v6, t6, f6⟩ := hdep 1 6 (by kernel_rfl)
  obtain ⟨v11, t11, f11⟩ := hdep 6 11 (by kernel_rfl)
  rw [if_pos (show Region.wanted ms_o7 _ = true from rfl)]
  obtain rfl : v6 = .agg #[.int .i64 1, .int .i64 8] := f6 rfl
  obtain ⟨g, rfl, hg, hgk⟩ := f11 rfl
  have e6 := eval_slot t6
  have e11 := eval_slot t11
  unfold ms_o7
  go_simp
  refine (HH w _ _ (row_of_ints hg)).mono ?_
  rintro e w1 ⟨rfl, B1⟩
  exact hK _ _ (hI.below B1) (fun j u h => specV_fr (Fr.of_below B1) j u h) (fun _ => rfl)
theorem ms_s8 : StepOk Tryz.prog ms_ops Q a0 (Ms W0 bx kb 29 #[.int .i64 wide, .int .i64 high, .int .i64 fbits, .int .i64 ptype, .int .i64 pbits, .int .i64 nonref, .slice ca cycle.length cap, .int .i64 refs, .int .i64 delay]) (specV kb (ms_V kb bx wide high fbits ptype pbits nonref cycle refs delay ca cap b0 b1 b2 b3 b4 b5 b6 b7 fit)) 8 := by
  intro a w hout hI hdep o ho K hK
  obtain rfl : o = ms_o8 := Option.some.inj (ho.symm.trans (by kernel_rfl))
  clear ho
  obtain ⟨v12, t12, f12⟩ := hdep 7 12 (by kernel_rfl)
  rw [if_pos (show Region.wanted ms_o8 _ = true from rfl)]
  obtain rfl : v12 = .bool b0 := f12 rfl
  have e12 := eval_slot t12
  unfold ms_o8
  go_simp
  exact hK _ _ hI (fun _ _ h => h) (fun _ => rfl)
theorem ms_s9 (A0 : a0.tmps[0]? = some (.pointer (some ⟨kb, 0, none⟩))) : StepOk Tryz.prog ms_ops Q a0 (Ms W0 bx kb 29 #[.int .i64 wide, .int .i64 high, .int .i64 fbits, .int .i64 ptype, .int .i64 pbits, .int .i64 nonref, .slice ca cycle.length cap, .int .i64 refs, .int .i64 delay]) (specV kb (ms_V kb bx wide high fbits ptype pbits nonref cycle refs delay ca cap b0 b1 b2 b3 b4 b5 b6 b7 fit)) 9 := by
  intro a w hout hI hdep o ho K hK
  obtain rfl : o = ms_o9 := Option.some.inj (ho.symm.trans (by kernel_rfl))
  clear ho
  have t0 := (hout 0 (by kernel_rfl)).trans A0
  obtain ⟨v13, t13, f13⟩ := hdep 8 13 (by kernel_rfl)
  obtain rfl : v13 = .bool b0 := f13 rfl
  have hy := yielded_is (ops := ms_ops) (j := 8) (d := 13) (by kernel_rfl) t13
  cases hB : b0 with
  | false =>
    rw [hB] at hy
    rw [if_neg (by simp [Region.wanted, ms_o9, hy])]
    exact hK _ _ hI (fun _ _ h => h) (fun h => by rw [hB] at h; cases h)
  | true =>
    rw [hB] at hy
    rw [if_pos (by simp [Region.wanted, ms_o9, hy])]
    have e0 := eval_slot t0
    unfold ms_o9
    go_simp
    exact hK _ _ hI (fun _ _ h => h) (fun _ => rfl)
theorem ms_s10 : StepOk Tryz.prog ms_ops Q a0 (Ms W0 bx kb 29 #[.int .i64 wide, .int .i64 high, .int .i64 fbits, .int .i64 ptype, .int .i64 pbits, .int .i64 nonref, .slice ca cycle.length cap, .int .i64 refs, .int .i64 delay]) (specV kb (ms_V kb bx wide high fbits ptype pbits nonref cycle refs delay ca cap b0 b1 b2 b3 b4 b5 b6 b7 fit)) 10 := by
  intro a w hout hI hdep o ho K hK
  obtain rfl : o = ms_o10 := Option.some.inj (ho.symm.trans (by kernel_rfl))
  clear ho
  obtain ⟨v14, t14, f14⟩ := hdep 9 14 (by kernel_rfl)
  obtain ⟨v13, t13, f13⟩ := hdep 8 13 (by kernel_rfl)
  obtain rfl : v13 = .bool b0 := f13 rfl
  have hy := yielded_is (ops := ms_ops) (j := 8) (d := 13) (by kernel_rfl) t13
  cases hB : b0 with
  | false =>
    rw [hB] at hy
    rw [if_neg (by simp [Region.wanted, ms_o10, hy])]
    exact hK _ _ hI (fun _ _ h => h) (fun h => by rw [hB] at h; cases h)
  | true =>
    rw [hB] at hy
    rw [if_pos (by simp [Region.wanted, ms_o10, hy])]
    obtain rfl : v14 = .pointer (some ⟨kb, 0, none⟩) := f14 hB
    have e14 := eval_slot t14
    unfold ms_o10
    go_simp
    refine (ms_of_1 w hI).mono ?_
    rintro e w1 ⟨rfl, M1, F1⟩
    exact hK _ _ M1 (fun j u h => specV_fr F1 j u h) (fun _ => rfl)
theorem ms_s11 (A3 : a0.tmps[3]? = some (.pointer (some ⟨bx, 0, none⟩))) : StepOk Tryz.prog ms_ops Q a0 (Ms W0 bx kb 29 #[.int .i64 wide, .int .i64 high, .int .i64 fbits, .int .i64 ptype, .int .i64 pbits, .int .i64 nonref, .slice ca cycle.length cap, .int .i64 refs, .int .i64 delay]) (specV kb (ms_V kb bx wide high fbits ptype pbits nonref cycle refs delay ca cap b0 b1 b2 b3 b4 b5 b6 b7 fit)) 11 := by
  intro a w hout hI hdep o ho K hK
  obtain rfl : o = ms_o11 := Option.some.inj (ho.symm.trans (by kernel_rfl))
  clear ho
  have t3 := (hout 3 (by kernel_rfl)).trans A3
  obtain ⟨v13, t13, f13⟩ := hdep 8 13 (by kernel_rfl)
  obtain rfl : v13 = .bool b0 := f13 rfl
  have hy := yielded_is (ops := ms_ops) (j := 8) (d := 13) (by kernel_rfl) t13
  cases hB : b0 with
  | false =>
    rw [hB] at hy
    rw [if_neg (by simp [Region.wanted, ms_o11, hy])]
    exact hK _ _ hI (fun _ _ h => h) (fun h => by rw [hB] at h; cases h)
  | true =>
    rw [hB] at hy
    rw [if_pos (by simp [Region.wanted, ms_o11, hy])]
    have e3 := eval_slot t3
    unfold ms_o11
    go_simp
    exact hK _ _ hI (fun _ _ h => h) (fun _ => rfl)
theorem ms_s12 : StepOk Tryz.prog ms_ops Q a0 (Ms W0 bx kb 29 #[.int .i64 wide, .int .i64 high, .int .i64 fbits, .int .i64 ptype, .int .i64 pbits, .int .i64 nonref, .slice ca cycle.length cap, .int .i64 refs, .int .i64 delay]) (specV kb (ms_V kb bx wide high fbits ptype pbits nonref cycle refs delay ca cap b0 b1 b2 b3 b4 b5 b6 b7 fit)) 12 := by
  intro a w hout hI hdep o ho K hK
  obtain rfl : o = ms_o12 := Option.some.inj (ho.symm.trans (by kernel_rfl))
  clear ho
  obtain ⟨v16, t16, f16⟩ := hdep 11 16 (by kernel_rfl)
  obtain ⟨v13, t13, f13⟩ := hdep 8 13 (by kernel_rfl)
  obtain rfl : v13 = .bool b0 := f13 rfl
  have hy := yielded_is (ops := ms_ops) (j := 8) (d := 13) (by kernel_rfl) t13
  cases hB : b0 with
  | false =>
    rw [hB] at hy
    rw [if_neg (by simp [Region.wanted, ms_o12, hy])]
    exact hK _ _ hI (fun _ _ h => h) (fun h => by rw [hB] at h; cases h)
  | true =>
    rw [hB] at hy
    rw [if_pos (by simp [Region.wanted, ms_o12, hy])]
    obtain rfl : v16 = .pointer (some ⟨bx, 2, none⟩) := f16 hB
    have e16 := eval_slot t16
    have c := hI.box 2 (.int .i64 fbits) rfl
    unfold ms_o12
    go_simp
    exact hK _ _ hI (fun _ _ h => h) (fun _ => rfl)
theorem ms_s13 (A3 : a0.tmps[3]? = some (.pointer (some ⟨bx, 0, none⟩))) : StepOk Tryz.prog ms_ops Q a0 (Ms W0 bx kb 29 #[.int .i64 wide, .int .i64 high, .int .i64 fbits, .int .i64 ptype, .int .i64 pbits, .int .i64 nonref, .slice ca cycle.length cap, .int .i64 refs, .int .i64 delay]) (specV kb (ms_V kb bx wide high fbits ptype pbits nonref cycle refs delay ca cap b0 b1 b2 b3 b4 b5 b6 b7 fit)) 13 := by
  intro a w hout hI hdep o ho K hK
  obtain rfl : o = ms_o13 := Option.some.inj (ho.symm.trans (by kernel_rfl))
  clear ho
  have t3 := (hout 3 (by kernel_rfl)).trans A3
  obtain ⟨v13, t13, f13⟩ := hdep 8 13 (by kernel_rfl)
  obtain rfl : v13 = .bool b0 := f13 rfl
  have hy := yielded_is (ops := ms_ops) (j := 8) (d := 13) (by kernel_rfl) t13
  cases hB : b0 with
  | false =>
    rw [hB] at hy
    rw [if_neg (by simp [Region.wanted, ms_o13, hy])]
    exact hK _ _ hI (fun _ _ h => h) (fun h => by rw [hB] at h; cases h)
  | true =>
    rw [hB] at hy
    rw [if_pos (by simp [Region.wanted, ms_o13, hy])]
    have e3 := eval_slot t3
    unfold ms_o13
    go_simp
    exact hK _ _ hI (fun _ _ h => h) (fun _ => rfl)
theorem ms_s14 : StepOk Tryz.prog ms_ops Q a0 (Ms W0 bx kb 29 #[.int .i64 wide, .int .i64 high, .int .i64 fbits, .int .i64 ptype, .int .i64 pbits, .int .i64 nonref, .slice ca cycle.length cap, .int .i64 refs, .int .i64 delay]) (specV kb (ms_V kb bx wide high fbits ptype pbits nonref cycle refs delay ca cap b0 b1 b2 b3 b4 b5 b6 b7 fit)) 14 := by
  intro a w hout hI hdep o ho K hK
  obtain rfl : o = ms_o14 := Option.some.inj (ho.symm.trans (by kernel_rfl))
  clear ho
  obtain ⟨v18, t18, f18⟩ := hdep 13 18 (by kernel_rfl)
  obtain ⟨v13, t13, f13⟩ := hdep 8 13 (by kernel_rfl)
  obtain rfl : v13 = .bool b0 := f13 rfl
  have hy := yielded_is (ops := ms_ops) (j := 8) (d := 13) (by kernel_rfl) t13
  cases hB : b0 with
  | false =>
    rw [hB] at hy
    rw [if_neg (by simp [Region.wanted, ms_o14, hy])]
    exact hK _ _ hI (fun _ _ h => h) (fun h => by rw [hB] at h; cases h)
  | true =>
    rw [hB] at hy
    rw [if_pos (by simp [Region.wanted, ms_o14, hy])]
    obtain rfl : v18 = .pointer (some ⟨bx, 4, none⟩) := f18 hB
    have e18 := eval_slot t18
    have c := hI.box 4 (.int .i64 pbits) rfl
    unfold ms_o14
    go_simp
    exact hK _ _ hI (fun _ _ h => h) (fun _ => rfl)
theorem ms_s15 : StepOk Tryz.prog ms_ops Q a0 (Ms W0 bx kb 29 #[.int .i64 wide, .int .i64 high, .int .i64 fbits, .int .i64 ptype, .int .i64 pbits, .int .i64 nonref, .slice ca cycle.length cap, .int .i64 refs, .int .i64 delay]) (specV kb (ms_V kb bx wide high fbits ptype pbits nonref cycle refs delay ca cap b0 b1 b2 b3 b4 b5 b6 b7 fit)) 15 := by
  intro a w hout hI hdep o ho K hK
  obtain rfl : o = ms_o15 := Option.some.inj (ho.symm.trans (by kernel_rfl))
  clear ho
  obtain ⟨v17, t17, f17⟩ := hdep 12 17 (by kernel_rfl)
  obtain ⟨v19, t19, f19⟩ := hdep 14 19 (by kernel_rfl)
  obtain ⟨v13, t13, f13⟩ := hdep 8 13 (by kernel_rfl)
  obtain rfl : v13 = .bool b0 := f13 rfl
  have hy := yielded_is (ops := ms_ops) (j := 8) (d := 13) (by kernel_rfl) t13
  cases hB : b0 with
  | false =>
    rw [hB] at hy
    rw [if_neg (by simp [Region.wanted, ms_o15, hy])]
    exact hK _ _ hI (fun _ _ h => h) (fun h => by rw [hB] at h; cases h)
  | true =>
    rw [hB] at hy
    rw [if_pos (by simp [Region.wanted, ms_o15, hy])]
    obtain rfl : v17 = .int .i64 fbits := f17 hB
    obtain rfl : v19 = .int .i64 pbits := f19 hB
    have e17 := eval_slot t17
    have e19 := eval_slot t19
    unfold ms_o15
    go_simp
    exact hK _ _ (hI.alloc _) (fun j u h => specV_fr (Fr.alloc (Fr.refl _ _) _) j u h) (fun _ => ⟨w.heap.size, rfl, heap_alloc_last _ _, by have := hI.2.1.lt; omega⟩)
theorem ms_s16 (HH : ∀ (wr : World) (a : Option Addr) (cap : Nat), IntRow wr a [fbits, pbits] → Calls Tryz.prog 100 #[.agg #[.int .i64 4, .int .i64 8], .slice a 2 cap] wr fun e w' => e = .returned (.bool b1) ∧ Below wr.heap.size wr w') : StepOk Tryz.prog ms_ops Q a0 (Ms W0 bx kb 29 #[.int .i64 wide, .int .i64 high, .int .i64 fbits, .int .i64 ptype, .int .i64 pbits, .int .i64 nonref, .slice ca cycle.length cap, .int .i64 refs, .int .i64 delay]) (specV kb (ms_V kb bx wide high fbits ptype pbits nonref cycle refs delay ca cap b0 b1 b2 b3 b4 b5 b6 b7 fit)) 16 := by
  intro a w hout hI hdep o ho K hK
  obtain rfl : o = ms_o16 := Option.some.inj (ho.symm.trans (by kernel_rfl))
  clear ho
  obtain ⟨v15, t15, f15⟩ := hdep 10 15 (by kernel_rfl)
  obtain ⟨v20, t20, f20⟩ := hdep 15 20 (by kernel_rfl)
  obtain ⟨v13, t13, f13⟩ := hdep 8 13 (by kernel_rfl)
  obtain rfl : v13 = .bool b0 := f13 rfl
  have hy := yielded_is (ops := ms_ops) (j := 8) (d := 13) (by kernel_rfl) t13
  cases hB : b0 with
  | false =>
    rw [hB] at hy
    rw [if_neg (by simp [Region.wanted, ms_o16, hy])]
    exact hK _ _ hI (fun _ _ h => h) (fun h => by rw [hB] at h; cases h)
  | true =>
    rw [hB] at hy
    rw [if_pos (by simp [Region.wanted, ms_o16, hy])]
    obtain rfl : v15 = .agg #[.int .i64 4, .int .i64 8] := f15 hB
    obtain ⟨g, rfl, hg, hgk⟩ := f20 hB
    have e15 := eval_slot t15
    have e20 := eval_slot t20
    unfold ms_o16
    go_simp
    refine (HH w _ _ (row_of_ints hg)).mono ?_
    rintro e w1 ⟨rfl, B1⟩
    exact hK _ _ (hI.below B1) (fun j u h => specV_fr (Fr.of_below B1) j u h) (fun _ => rfl)
theorem ms_s17 : StepOk Tryz.prog ms_ops Q a0 (Ms W0 bx kb 29 #[.int .i64 wide, .int .i64 high, .int .i64 fbits, .int .i64 ptype, .int .i64 pbits, .int .i64 nonref, .slice ca cycle.length cap, .int .i64 refs, .int .i64 delay]) (specV kb (ms_V kb bx wide high fbits ptype pbits nonref cycle refs delay ca cap b0 b1 b2 b3 b4 b5 b6 b7 fit)) 17 := by
  intro a w hout hI hdep o ho K hK
  obtain rfl : o = ms_o17 := Option.some.inj (ho.symm.trans (by kernel_rfl))
  clear ho
  obtain ⟨v13, t13, f13⟩ := hdep 8 13 (by kernel_rfl)
  obtain ⟨v21, t21, f21⟩ := hdep 16 21 (by kernel_rfl)
  rw [if_pos (show Region.wanted ms_o17 _ = true from rfl)]
  obtain rfl : v13 = .bool b0 := f13 rfl
  have e13 := eval_slot t13
  cases hb : b0 with
  | false =>
    rw [hb] at e13
    unfold ms_o17
    go_simp
    exact hK _ _ hI (fun _ _ h => h) (fun _ => by simp [hb])
  | true =>
    obtain rfl : v21 = .bool b1 := f21 (by simp [hb])
    have e21 := eval_slot t21
    rw [hb] at e13
    unfold ms_o17
    go_simp
    exact hK _ _ hI (fun _ _ h => h) (fun _ => by simp [hb])
theorem ms_s18 : StepOk Tryz.prog ms_ops Q a0 (Ms W0 bx kb 29 #[.int .i64 wide, .int .i64 high, .int .i64 fbits, .int .i64 ptype, .int .i64 pbits, .int .i64 nonref, .slice ca cycle.length cap, .int .i64 refs, .int .i64 delay]) (specV kb (ms_V kb bx wide high fbits ptype pbits nonref cycle refs delay ca cap b0 b1 b2 b3 b4 b5 b6 b7 fit)) 18 := by
  intro a w hout hI hdep o ho K hK
  obtain rfl : o = ms_o18 := Option.some.inj (ho.symm.trans (by kernel_rfl))
  clear ho
  obtain ⟨v22, t22, f22⟩ := hdep 17 22 (by kernel_rfl)
  rw [if_pos (show Region.wanted ms_o18 _ = true from rfl)]
  obtain rfl : v22 = .bool (b0 && b1) := f22 rfl
  have e22 := eval_slot t22
  unfold ms_o18
  go_simp
  exact hK _ _ hI (fun _ _ h => h) (fun _ => rfl)
theorem ms_s19 (A0 : a0.tmps[0]? = some (.pointer (some ⟨kb, 0, none⟩))) : StepOk Tryz.prog ms_ops Q a0 (Ms W0 bx kb 29 #[.int .i64 wide, .int .i64 high, .int .i64 fbits, .int .i64 ptype, .int .i64 pbits, .int .i64 nonref, .slice ca cycle.length cap, .int .i64 refs, .int .i64 delay]) (specV kb (ms_V kb bx wide high fbits ptype pbits nonref cycle refs delay ca cap b0 b1 b2 b3 b4 b5 b6 b7 fit)) 19 := by
  intro a w hout hI hdep o ho K hK
  obtain rfl : o = ms_o19 := Option.some.inj (ho.symm.trans (by kernel_rfl))
  clear ho
  have t0 := (hout 0 (by kernel_rfl)).trans A0
  obtain ⟨v23, t23, f23⟩ := hdep 18 23 (by kernel_rfl)
  obtain rfl : v23 = .bool (b0 && b1) := f23 rfl
  have hy := yielded_is (ops := ms_ops) (j := 18) (d := 23) (by kernel_rfl) t23
  cases hB : (b0 && b1) with
  | false =>
    rw [hB] at hy
    rw [if_neg (by simp [Region.wanted, ms_o19, hy])]
    exact hK _ _ hI (fun _ _ h => h) (fun h => by rw [hB] at h; cases h)
  | true =>
    rw [hB] at hy
    rw [if_pos (by simp [Region.wanted, ms_o19, hy])]
    have e0 := eval_slot t0
    unfold ms_o19
    go_simp
    exact hK _ _ hI (fun _ _ h => h) (fun _ => rfl)
theorem ms_s20 : StepOk Tryz.prog ms_ops Q a0 (Ms W0 bx kb 29 #[.int .i64 wide, .int .i64 high, .int .i64 fbits, .int .i64 ptype, .int .i64 pbits, .int .i64 nonref, .slice ca cycle.length cap, .int .i64 refs, .int .i64 delay]) (specV kb (ms_V kb bx wide high fbits ptype pbits nonref cycle refs delay ca cap b0 b1 b2 b3 b4 b5 b6 b7 fit)) 20 := by
  intro a w hout hI hdep o ho K hK
  obtain rfl : o = ms_o20 := Option.some.inj (ho.symm.trans (by kernel_rfl))
  clear ho
  obtain ⟨v24, t24, f24⟩ := hdep 19 24 (by kernel_rfl)
  obtain ⟨v23, t23, f23⟩ := hdep 18 23 (by kernel_rfl)
  obtain rfl : v23 = .bool (b0 && b1) := f23 rfl
  have hy := yielded_is (ops := ms_ops) (j := 18) (d := 23) (by kernel_rfl) t23
  cases hB : (b0 && b1) with
  | false =>
    rw [hB] at hy
    rw [if_neg (by simp [Region.wanted, ms_o20, hy])]
    exact hK _ _ hI (fun _ _ h => h) (fun h => by rw [hB] at h; cases h)
  | true =>
    rw [hB] at hy
    rw [if_pos (by simp [Region.wanted, ms_o20, hy])]
    obtain rfl : v24 = .pointer (some ⟨kb, 0, none⟩) := f24 hB
    have e24 := eval_slot t24
    unfold ms_o20
    go_simp
    refine (ms_of_2 w hI).mono ?_
    rintro e w1 ⟨rfl, M1, F1⟩
    exact hK _ _ M1 (fun j u h => specV_fr F1 j u h) (fun _ => rfl)
theorem ms_s21 (A3 : a0.tmps[3]? = some (.pointer (some ⟨bx, 0, none⟩))) : StepOk Tryz.prog ms_ops Q a0 (Ms W0 bx kb 29 #[.int .i64 wide, .int .i64 high, .int .i64 fbits, .int .i64 ptype, .int .i64 pbits, .int .i64 nonref, .slice ca cycle.length cap, .int .i64 refs, .int .i64 delay]) (specV kb (ms_V kb bx wide high fbits ptype pbits nonref cycle refs delay ca cap b0 b1 b2 b3 b4 b5 b6 b7 fit)) 21 := by
  intro a w hout hI hdep o ho K hK
  obtain rfl : o = ms_o21 := Option.some.inj (ho.symm.trans (by kernel_rfl))
  clear ho
  have t3 := (hout 3 (by kernel_rfl)).trans A3
  obtain ⟨v23, t23, f23⟩ := hdep 18 23 (by kernel_rfl)
  obtain rfl : v23 = .bool (b0 && b1) := f23 rfl
  have hy := yielded_is (ops := ms_ops) (j := 18) (d := 23) (by kernel_rfl) t23
  cases hB : (b0 && b1) with
  | false =>
    rw [hB] at hy
    rw [if_neg (by simp [Region.wanted, ms_o21, hy])]
    exact hK _ _ hI (fun _ _ h => h) (fun h => by rw [hB] at h; cases h)
  | true =>
    rw [hB] at hy
    rw [if_pos (by simp [Region.wanted, ms_o21, hy])]
    have e3 := eval_slot t3
    unfold ms_o21
    go_simp
    exact hK _ _ hI (fun _ _ h => h) (fun _ => rfl)
theorem ms_s22 : StepOk Tryz.prog ms_ops Q a0 (Ms W0 bx kb 29 #[.int .i64 wide, .int .i64 high, .int .i64 fbits, .int .i64 ptype, .int .i64 pbits, .int .i64 nonref, .slice ca cycle.length cap, .int .i64 refs, .int .i64 delay]) (specV kb (ms_V kb bx wide high fbits ptype pbits nonref cycle refs delay ca cap b0 b1 b2 b3 b4 b5 b6 b7 fit)) 22 := by
  intro a w hout hI hdep o ho K hK
  obtain rfl : o = ms_o22 := Option.some.inj (ho.symm.trans (by kernel_rfl))
  clear ho
  obtain ⟨v26, t26, f26⟩ := hdep 21 26 (by kernel_rfl)
  obtain ⟨v23, t23, f23⟩ := hdep 18 23 (by kernel_rfl)
  obtain rfl : v23 = .bool (b0 && b1) := f23 rfl
  have hy := yielded_is (ops := ms_ops) (j := 18) (d := 23) (by kernel_rfl) t23
  cases hB : (b0 && b1) with
  | false =>
    rw [hB] at hy
    rw [if_neg (by simp [Region.wanted, ms_o22, hy])]
    exact hK _ _ hI (fun _ _ h => h) (fun h => by rw [hB] at h; cases h)
  | true =>
    rw [hB] at hy
    rw [if_pos (by simp [Region.wanted, ms_o22, hy])]
    obtain rfl : v26 = .pointer (some ⟨bx, 3, none⟩) := f26 hB
    have e26 := eval_slot t26
    have c := hI.box 3 (.int .i64 ptype) rfl
    unfold ms_o22
    go_simp
    exact hK _ _ hI (fun _ _ h => h) (fun _ => rfl)
theorem ms_s23 : StepOk Tryz.prog ms_ops Q a0 (Ms W0 bx kb 29 #[.int .i64 wide, .int .i64 high, .int .i64 fbits, .int .i64 ptype, .int .i64 pbits, .int .i64 nonref, .slice ca cycle.length cap, .int .i64 refs, .int .i64 delay]) (specV kb (ms_V kb bx wide high fbits ptype pbits nonref cycle refs delay ca cap b0 b1 b2 b3 b4 b5 b6 b7 fit)) 23 := by
  intro a w hout hI hdep o ho K hK
  obtain rfl : o = ms_o23 := Option.some.inj (ho.symm.trans (by kernel_rfl))
  clear ho
  obtain ⟨v27, t27, f27⟩ := hdep 22 27 (by kernel_rfl)
  obtain ⟨v23, t23, f23⟩ := hdep 18 23 (by kernel_rfl)
  obtain rfl : v23 = .bool (b0 && b1) := f23 rfl
  have hy := yielded_is (ops := ms_ops) (j := 18) (d := 23) (by kernel_rfl) t23
  cases hB : (b0 && b1) with
  | false =>
    rw [hB] at hy
    rw [if_neg (by simp [Region.wanted, ms_o23, hy])]
    exact hK _ _ hI (fun _ _ h => h) (fun h => by rw [hB] at h; cases h)
  | true =>
    rw [hB] at hy
    rw [if_pos (by simp [Region.wanted, ms_o23, hy])]
    obtain rfl : v27 = .int .i64 ptype := f27 hB
    have e27 := eval_slot t27
    unfold ms_o23
    go_simp
    exact hK _ _ (hI.alloc _) (fun j u h => specV_fr (Fr.alloc (Fr.refl _ _) _) j u h) (fun _ => ⟨w.heap.size, rfl, heap_alloc_last _ _, by have := hI.2.1.lt; omega⟩)
theorem ms_s24 (HH : ∀ (wr : World) (a : Option Addr) (cap : Nat), IntRow wr a [ptype] → Calls Tryz.prog 100 #[.agg #[.int .i64 0, .int .i64 2], .slice a 1 cap] wr fun e w' => e = .returned (.bool b2) ∧ Below wr.heap.size wr w') : StepOk Tryz.prog ms_ops Q a0 (Ms W0 bx kb 29 #[.int .i64 wide, .int .i64 high, .int .i64 fbits, .int .i64 ptype, .int .i64 pbits, .int .i64 nonref, .slice ca cycle.length cap, .int .i64 refs, .int .i64 delay]) (specV kb (ms_V kb bx wide high fbits ptype pbits nonref cycle refs delay ca cap b0 b1 b2 b3 b4 b5 b6 b7 fit)) 24 := by
  intro a w hout hI hdep o ho K hK
  obtain rfl : o = ms_o24 := Option.some.inj (ho.symm.trans (by kernel_rfl))
  clear ho
  obtain ⟨v25, t25, f25⟩ := hdep 20 25 (by kernel_rfl)
  obtain ⟨v28, t28, f28⟩ := hdep 23 28 (by kernel_rfl)
  obtain ⟨v23, t23, f23⟩ := hdep 18 23 (by kernel_rfl)
  obtain rfl : v23 = .bool (b0 && b1) := f23 rfl
  have hy := yielded_is (ops := ms_ops) (j := 18) (d := 23) (by kernel_rfl) t23
  cases hB : (b0 && b1) with
  | false =>
    rw [hB] at hy
    rw [if_neg (by simp [Region.wanted, ms_o24, hy])]
    exact hK _ _ hI (fun _ _ h => h) (fun h => by rw [hB] at h; cases h)
  | true =>
    rw [hB] at hy
    rw [if_pos (by simp [Region.wanted, ms_o24, hy])]
    obtain rfl : v25 = .agg #[.int .i64 0, .int .i64 2] := f25 hB
    obtain ⟨g, rfl, hg, hgk⟩ := f28 hB
    have e25 := eval_slot t25
    have e28 := eval_slot t28
    unfold ms_o24
    go_simp
    refine (HH w _ _ (row_of_ints hg)).mono ?_
    rintro e w1 ⟨rfl, B1⟩
    exact hK _ _ (hI.below B1) (fun j u h => specV_fr (Fr.of_below B1) j u h) (fun _ => rfl)
theorem ms_s25 : StepOk Tryz.prog ms_ops Q a0 (Ms W0 bx kb 29 #[.int .i64 wide, .int .i64 high, .int .i64 fbits, .int .i64 ptype, .int .i64 pbits, .int .i64 nonref, .slice ca cycle.length cap, .int .i64 refs, .int .i64 delay]) (specV kb (ms_V kb bx wide high fbits ptype pbits nonref cycle refs delay ca cap b0 b1 b2 b3 b4 b5 b6 b7 fit)) 25 := by
  intro a w hout hI hdep o ho K hK
  obtain rfl : o = ms_o25 := Option.some.inj (ho.symm.trans (by kernel_rfl))
  clear ho
  obtain ⟨v23, t23, f23⟩ := hdep 18 23 (by kernel_rfl)
  obtain ⟨v29, t29, f29⟩ := hdep 24 29 (by kernel_rfl)
  rw [if_pos (show Region.wanted ms_o25 _ = true from rfl)]
  obtain rfl : v23 = .bool (b0 && b1) := f23 rfl
  have e23 := eval_slot t23
  cases hb : (b0 && b1) with
  | false =>
    rw [hb] at e23
    unfold ms_o25
    go_simp
    exact hK _ _ hI (fun _ _ h => h) (fun _ => by simp [hb])
  | true =>
    obtain rfl : v29 = .bool b2 := f29 (by simp [hb])
    have e29 := eval_slot t29
    rw [hb] at e23
    unfold ms_o25
    go_simp
    exact hK _ _ hI (fun _ _ h => h) (fun _ => by simp [hb])
theorem ms_s26 : StepOk Tryz.prog ms_ops Q a0 (Ms W0 bx kb 29 #[.int .i64 wide, .int .i64 high, .int .i64 fbits, .int .i64 ptype, .int .i64 pbits, .int .i64 nonref, .slice ca cycle.length cap, .int .i64 refs, .int .i64 delay]) (specV kb (ms_V kb bx wide high fbits ptype pbits nonref cycle refs delay ca cap b0 b1 b2 b3 b4 b5 b6 b7 fit)) 26 := by
  intro a w hout hI hdep o ho K hK
  obtain rfl : o = ms_o26 := Option.some.inj (ho.symm.trans (by kernel_rfl))
  clear ho
  obtain ⟨v30, t30, f30⟩ := hdep 25 30 (by kernel_rfl)
  rw [if_pos (show Region.wanted ms_o26 _ = true from rfl)]
  obtain rfl : v30 = .bool ((b0 && b1) && b2) := f30 rfl
  have e30 := eval_slot t30
  unfold ms_o26
  go_simp
  exact hK _ _ hI (fun _ _ h => h) (fun _ => rfl)
theorem ms_s27 (A0 : a0.tmps[0]? = some (.pointer (some ⟨kb, 0, none⟩))) : StepOk Tryz.prog ms_ops Q a0 (Ms W0 bx kb 29 #[.int .i64 wide, .int .i64 high, .int .i64 fbits, .int .i64 ptype, .int .i64 pbits, .int .i64 nonref, .slice ca cycle.length cap, .int .i64 refs, .int .i64 delay]) (specV kb (ms_V kb bx wide high fbits ptype pbits nonref cycle refs delay ca cap b0 b1 b2 b3 b4 b5 b6 b7 fit)) 27 := by
  intro a w hout hI hdep o ho K hK
  obtain rfl : o = ms_o27 := Option.some.inj (ho.symm.trans (by kernel_rfl))
  clear ho
  have t0 := (hout 0 (by kernel_rfl)).trans A0
  obtain ⟨v31, t31, f31⟩ := hdep 26 31 (by kernel_rfl)
  obtain rfl : v31 = .bool ((b0 && b1) && b2) := f31 rfl
  have hy := yielded_is (ops := ms_ops) (j := 26) (d := 31) (by kernel_rfl) t31
  cases hB : ((b0 && b1) && b2) with
  | false =>
    rw [hB] at hy
    rw [if_neg (by simp [Region.wanted, ms_o27, hy])]
    exact hK _ _ hI (fun _ _ h => h) (fun h => by rw [hB] at h; cases h)
  | true =>
    rw [hB] at hy
    rw [if_pos (by simp [Region.wanted, ms_o27, hy])]
    have e0 := eval_slot t0
    unfold ms_o27
    go_simp
    exact hK _ _ hI (fun _ _ h => h) (fun _ => rfl)
theorem ms_s28 : StepOk Tryz.prog ms_ops Q a0 (Ms W0 bx kb 29 #[.int .i64 wide, .int .i64 high, .int .i64 fbits, .int .i64 ptype, .int .i64 pbits, .int .i64 nonref, .slice ca cycle.length cap, .int .i64 refs, .int .i64 delay]) (specV kb (ms_V kb bx wide high fbits ptype pbits nonref cycle refs delay ca cap b0 b1 b2 b3 b4 b5 b6 b7 fit)) 28 := by
  intro a w hout hI hdep o ho K hK
  obtain rfl : o = ms_o28 := Option.some.inj (ho.symm.trans (by kernel_rfl))
  clear ho
  obtain ⟨v32, t32, f32⟩ := hdep 27 32 (by kernel_rfl)
  obtain ⟨v31, t31, f31⟩ := hdep 26 31 (by kernel_rfl)
  obtain rfl : v31 = .bool ((b0 && b1) && b2) := f31 rfl
  have hy := yielded_is (ops := ms_ops) (j := 26) (d := 31) (by kernel_rfl) t31
  cases hB : ((b0 && b1) && b2) with
  | false =>
    rw [hB] at hy
    rw [if_neg (by simp [Region.wanted, ms_o28, hy])]
    exact hK _ _ hI (fun _ _ h => h) (fun h => by rw [hB] at h; cases h)
  | true =>
    rw [hB] at hy
    rw [if_pos (by simp [Region.wanted, ms_o28, hy])]
    obtain rfl : v32 = .pointer (some ⟨kb, 0, none⟩) := f32 hB
    have e32 := eval_slot t32
    unfold ms_o28
    go_simp
    refine (ms_of_3 w hI).mono ?_
    rintro e w1 ⟨rfl, M1, F1⟩
    exact hK _ _ M1 (fun j u h => specV_fr F1 j u h) (fun _ => rfl)
theorem ms_s29 (A3 : a0.tmps[3]? = some (.pointer (some ⟨bx, 0, none⟩))) : StepOk Tryz.prog ms_ops Q a0 (Ms W0 bx kb 29 #[.int .i64 wide, .int .i64 high, .int .i64 fbits, .int .i64 ptype, .int .i64 pbits, .int .i64 nonref, .slice ca cycle.length cap, .int .i64 refs, .int .i64 delay]) (specV kb (ms_V kb bx wide high fbits ptype pbits nonref cycle refs delay ca cap b0 b1 b2 b3 b4 b5 b6 b7 fit)) 29 := by
  intro a w hout hI hdep o ho K hK
  obtain rfl : o = ms_o29 := Option.some.inj (ho.symm.trans (by kernel_rfl))
  clear ho
  have t3 := (hout 3 (by kernel_rfl)).trans A3
  obtain ⟨v31, t31, f31⟩ := hdep 26 31 (by kernel_rfl)
  obtain rfl : v31 = .bool ((b0 && b1) && b2) := f31 rfl
  have hy := yielded_is (ops := ms_ops) (j := 26) (d := 31) (by kernel_rfl) t31
  cases hB : ((b0 && b1) && b2) with
  | false =>
    rw [hB] at hy
    rw [if_neg (by simp [Region.wanted, ms_o29, hy])]
    exact hK _ _ hI (fun _ _ h => h) (fun h => by rw [hB] at h; cases h)
  | true =>
    rw [hB] at hy
    rw [if_pos (by simp [Region.wanted, ms_o29, hy])]
    have e3 := eval_slot t3
    unfold ms_o29
    go_simp
    exact hK _ _ hI (fun _ _ h => h) (fun _ => rfl)
theorem ms_s30 : StepOk Tryz.prog ms_ops Q a0 (Ms W0 bx kb 29 #[.int .i64 wide, .int .i64 high, .int .i64 fbits, .int .i64 ptype, .int .i64 pbits, .int .i64 nonref, .slice ca cycle.length cap, .int .i64 refs, .int .i64 delay]) (specV kb (ms_V kb bx wide high fbits ptype pbits nonref cycle refs delay ca cap b0 b1 b2 b3 b4 b5 b6 b7 fit)) 30 := by
  intro a w hout hI hdep o ho K hK
  obtain rfl : o = ms_o30 := Option.some.inj (ho.symm.trans (by kernel_rfl))
  clear ho
  obtain ⟨v34, t34, f34⟩ := hdep 29 34 (by kernel_rfl)
  obtain ⟨v31, t31, f31⟩ := hdep 26 31 (by kernel_rfl)
  obtain rfl : v31 = .bool ((b0 && b1) && b2) := f31 rfl
  have hy := yielded_is (ops := ms_ops) (j := 26) (d := 31) (by kernel_rfl) t31
  cases hB : ((b0 && b1) && b2) with
  | false =>
    rw [hB] at hy
    rw [if_neg (by simp [Region.wanted, ms_o30, hy])]
    exact hK _ _ hI (fun _ _ h => h) (fun h => by rw [hB] at h; cases h)
  | true =>
    rw [hB] at hy
    rw [if_pos (by simp [Region.wanted, ms_o30, hy])]
    obtain rfl : v34 = .pointer (some ⟨bx, 6, none⟩) := f34 hB
    have e34 := eval_slot t34
    have c := hI.box 6 (.slice ca cycle.length cap) rfl
    unfold ms_o30
    go_simp
    exact hK _ _ hI (fun _ _ h => h) (fun _ => rfl)
theorem ms_s31 : StepOk Tryz.prog ms_ops Q a0 (Ms W0 bx kb 29 #[.int .i64 wide, .int .i64 high, .int .i64 fbits, .int .i64 ptype, .int .i64 pbits, .int .i64 nonref, .slice ca cycle.length cap, .int .i64 refs, .int .i64 delay]) (specV kb (ms_V kb bx wide high fbits ptype pbits nonref cycle refs delay ca cap b0 b1 b2 b3 b4 b5 b6 b7 fit)) 31 := by
  intro a w hout hI hdep o ho K hK
  obtain rfl : o = ms_o31 := Option.some.inj (ho.symm.trans (by kernel_rfl))
  clear ho
  obtain ⟨v35, t35, f35⟩ := hdep 30 35 (by kernel_rfl)
  obtain ⟨v31, t31, f31⟩ := hdep 26 31 (by kernel_rfl)
  obtain rfl : v31 = .bool ((b0 && b1) && b2) := f31 rfl
  have hy := yielded_is (ops := ms_ops) (j := 26) (d := 31) (by kernel_rfl) t31
  cases hB : ((b0 && b1) && b2) with
  | false =>
    rw [hB] at hy
    rw [if_neg (by simp [Region.wanted, ms_o31, hy])]
    exact hK _ _ hI (fun _ _ h => h) (fun h => by rw [hB] at h; cases h)
  | true =>
    rw [hB] at hy
    rw [if_pos (by simp [Region.wanted, ms_o31, hy])]
    obtain rfl : v35 = .slice ca cycle.length cap := f35 hB
    have e35 := eval_slot t35
    unfold ms_o31
    go_simp
    exact hK _ _ hI (fun _ _ h => h) (fun _ => rfl)
theorem ms_s32 : StepOk Tryz.prog ms_ops Q a0 (Ms W0 bx kb 29 #[.int .i64 wide, .int .i64 high, .int .i64 fbits, .int .i64 ptype, .int .i64 pbits, .int .i64 nonref, .slice ca cycle.length cap, .int .i64 refs, .int .i64 delay]) (specV kb (ms_V kb bx wide high fbits ptype pbits nonref cycle refs delay ca cap b0 b1 b2 b3 b4 b5 b6 b7 fit)) 32 := by
  intro a w hout hI hdep o ho K hK
  obtain rfl : o = ms_o32 := Option.some.inj (ho.symm.trans (by kernel_rfl))
  clear ho
  obtain ⟨v36, t36, f36⟩ := hdep 31 36 (by kernel_rfl)
  obtain ⟨v31, t31, f31⟩ := hdep 26 31 (by kernel_rfl)
  obtain rfl : v31 = .bool ((b0 && b1) && b2) := f31 rfl
  have hy := yielded_is (ops := ms_ops) (j := 26) (d := 31) (by kernel_rfl) t31
  cases hB : ((b0 && b1) && b2) with
  | false =>
    rw [hB] at hy
    rw [if_neg (by simp [Region.wanted, ms_o32, hy])]
    exact hK _ _ hI (fun _ _ h => h) (fun h => by rw [hB] at h; cases h)
  | true =>
    rw [hB] at hy
    rw [if_pos (by simp [Region.wanted, ms_o32, hy])]
    obtain rfl : v36 = .int .i64 (cycle.length : Int) := f36 hB
    have e36 := eval_slot t36
    unfold ms_o32
    go_simp
    exact hK _ _ (hI.alloc _) (fun j u h => specV_fr (Fr.alloc (Fr.refl _ _) _) j u h) (fun _ => ⟨w.heap.size, rfl, heap_alloc_last _ _, by have := hI.2.1.lt; omega⟩)
theorem ms_s33 (HH : ∀ (wr : World) (a : Option Addr) (cap : Nat), IntRow wr a [(cycle.length : Int)] → Calls Tryz.prog 100 #[.agg #[.int .i64 0, .int .i64 4], .slice a 1 cap] wr fun e w' => e = .returned (.bool b3) ∧ Below wr.heap.size wr w') : StepOk Tryz.prog ms_ops Q a0 (Ms W0 bx kb 29 #[.int .i64 wide, .int .i64 high, .int .i64 fbits, .int .i64 ptype, .int .i64 pbits, .int .i64 nonref, .slice ca cycle.length cap, .int .i64 refs, .int .i64 delay]) (specV kb (ms_V kb bx wide high fbits ptype pbits nonref cycle refs delay ca cap b0 b1 b2 b3 b4 b5 b6 b7 fit)) 33 := by
  intro a w hout hI hdep o ho K hK
  obtain rfl : o = ms_o33 := Option.some.inj (ho.symm.trans (by kernel_rfl))
  clear ho
  obtain ⟨v33, t33, f33⟩ := hdep 28 33 (by kernel_rfl)
  obtain ⟨v37, t37, f37⟩ := hdep 32 37 (by kernel_rfl)
  obtain ⟨v31, t31, f31⟩ := hdep 26 31 (by kernel_rfl)
  obtain rfl : v31 = .bool ((b0 && b1) && b2) := f31 rfl
  have hy := yielded_is (ops := ms_ops) (j := 26) (d := 31) (by kernel_rfl) t31
  cases hB : ((b0 && b1) && b2) with
  | false =>
    rw [hB] at hy
    rw [if_neg (by simp [Region.wanted, ms_o33, hy])]
    exact hK _ _ hI (fun _ _ h => h) (fun h => by rw [hB] at h; cases h)
  | true =>
    rw [hB] at hy
    rw [if_pos (by simp [Region.wanted, ms_o33, hy])]
    obtain rfl : v33 = .agg #[.int .i64 0, .int .i64 4] := f33 hB
    obtain ⟨g, rfl, hg, hgk⟩ := f37 hB
    have e33 := eval_slot t33
    have e37 := eval_slot t37
    unfold ms_o33
    go_simp
    refine (HH w _ _ (row_of_ints hg)).mono ?_
    rintro e w1 ⟨rfl, B1⟩
    exact hK _ _ (hI.below B1) (fun j u h => specV_fr (Fr.of_below B1) j u h) (fun _ => rfl)
theorem ms_s34 : StepOk Tryz.prog ms_ops Q a0 (Ms W0 bx kb 29 #[.int .i64 wide, .int .i64 high, .int .i64 fbits, .int .i64 ptype, .int .i64 pbits, .int .i64 nonref, .slice ca cycle.length cap, .int .i64 refs, .int .i64 delay]) (specV kb (ms_V kb bx wide high fbits ptype pbits nonref cycle refs delay ca cap b0 b1 b2 b3 b4 b5 b6 b7 fit)) 34 := by
  intro a w hout hI hdep o ho K hK
  obtain rfl : o = ms_o34 := Option.some.inj (ho.symm.trans (by kernel_rfl))
  clear ho
  obtain ⟨v31, t31, f31⟩ := hdep 26 31 (by kernel_rfl)
  obtain ⟨v38, t38, f38⟩ := hdep 33 38 (by kernel_rfl)
  rw [if_pos (show Region.wanted ms_o34 _ = true from rfl)]
  obtain rfl : v31 = .bool ((b0 && b1) && b2) := f31 rfl
  have e31 := eval_slot t31
  cases hb : ((b0 && b1) && b2) with
  | false =>
    rw [hb] at e31
    unfold ms_o34
    go_simp
    exact hK _ _ hI (fun _ _ h => h) (fun _ => by simp [hb])
  | true =>
    obtain rfl : v38 = .bool b3 := f38 (by simp [hb])
    have e38 := eval_slot t38
    rw [hb] at e31
    unfold ms_o34
    go_simp
    exact hK _ _ hI (fun _ _ h => h) (fun _ => by simp [hb])
theorem ms_s35 : StepOk Tryz.prog ms_ops Q a0 (Ms W0 bx kb 29 #[.int .i64 wide, .int .i64 high, .int .i64 fbits, .int .i64 ptype, .int .i64 pbits, .int .i64 nonref, .slice ca cycle.length cap, .int .i64 refs, .int .i64 delay]) (specV kb (ms_V kb bx wide high fbits ptype pbits nonref cycle refs delay ca cap b0 b1 b2 b3 b4 b5 b6 b7 fit)) 35 := by
  intro a w hout hI hdep o ho K hK
  obtain rfl : o = ms_o35 := Option.some.inj (ho.symm.trans (by kernel_rfl))
  clear ho
  obtain ⟨v39, t39, f39⟩ := hdep 34 39 (by kernel_rfl)
  rw [if_pos (show Region.wanted ms_o35 _ = true from rfl)]
  obtain rfl : v39 = .bool (((b0 && b1) && b2) && b3) := f39 rfl
  have e39 := eval_slot t39
  unfold ms_o35
  go_simp
  exact hK _ _ hI (fun _ _ h => h) (fun _ => rfl)
theorem ms_s36 (A0 : a0.tmps[0]? = some (.pointer (some ⟨kb, 0, none⟩))) : StepOk Tryz.prog ms_ops Q a0 (Ms W0 bx kb 29 #[.int .i64 wide, .int .i64 high, .int .i64 fbits, .int .i64 ptype, .int .i64 pbits, .int .i64 nonref, .slice ca cycle.length cap, .int .i64 refs, .int .i64 delay]) (specV kb (ms_V kb bx wide high fbits ptype pbits nonref cycle refs delay ca cap b0 b1 b2 b3 b4 b5 b6 b7 fit)) 36 := by
  intro a w hout hI hdep o ho K hK
  obtain rfl : o = ms_o36 := Option.some.inj (ho.symm.trans (by kernel_rfl))
  clear ho
  have t0 := (hout 0 (by kernel_rfl)).trans A0
  obtain ⟨v40, t40, f40⟩ := hdep 35 40 (by kernel_rfl)
  obtain rfl : v40 = .bool (((b0 && b1) && b2) && b3) := f40 rfl
  have hy := yielded_is (ops := ms_ops) (j := 35) (d := 40) (by kernel_rfl) t40
  cases hB : (((b0 && b1) && b2) && b3) with
  | false =>
    rw [hB] at hy
    rw [if_neg (by simp [Region.wanted, ms_o36, hy])]
    exact hK _ _ hI (fun _ _ h => h) (fun h => by rw [hB] at h; cases h)
  | true =>
    rw [hB] at hy
    rw [if_pos (by simp [Region.wanted, ms_o36, hy])]
    have e0 := eval_slot t0
    unfold ms_o36
    go_simp
    exact hK _ _ hI (fun _ _ h => h) (fun _ => rfl)
theorem ms_s37 : StepOk Tryz.prog ms_ops Q a0 (Ms W0 bx kb 29 #[.int .i64 wide, .int .i64 high, .int .i64 fbits, .int .i64 ptype, .int .i64 pbits, .int .i64 nonref, .slice ca cycle.length cap, .int .i64 refs, .int .i64 delay]) (specV kb (ms_V kb bx wide high fbits ptype pbits nonref cycle refs delay ca cap b0 b1 b2 b3 b4 b5 b6 b7 fit)) 37 := by
  intro a w hout hI hdep o ho K hK
  obtain rfl : o = ms_o37 := Option.some.inj (ho.symm.trans (by kernel_rfl))
  clear ho
  obtain ⟨v41, t41, f41⟩ := hdep 36 41 (by kernel_rfl)
  obtain ⟨v40, t40, f40⟩ := hdep 35 40 (by kernel_rfl)
  obtain rfl : v40 = .bool (((b0 && b1) && b2) && b3) := f40 rfl
  have hy := yielded_is (ops := ms_ops) (j := 35) (d := 40) (by kernel_rfl) t40
  cases hB : (((b0 && b1) && b2) && b3) with
  | false =>
    rw [hB] at hy
    rw [if_neg (by simp [Region.wanted, ms_o37, hy])]
    exact hK _ _ hI (fun _ _ h => h) (fun h => by rw [hB] at h; cases h)
  | true =>
    rw [hB] at hy
    rw [if_pos (by simp [Region.wanted, ms_o37, hy])]
    obtain rfl : v41 = .pointer (some ⟨kb, 0, none⟩) := f41 hB
    have e41 := eval_slot t41
    unfold ms_o37
    go_simp
    refine (ms_of_4 w hI).mono ?_
    rintro e w1 ⟨rfl, M1, F1⟩
    exact hK _ _ M1 (fun j u h => specV_fr F1 j u h) (fun _ => rfl)
theorem ms_s38 (A3 : a0.tmps[3]? = some (.pointer (some ⟨bx, 0, none⟩))) : StepOk Tryz.prog ms_ops Q a0 (Ms W0 bx kb 29 #[.int .i64 wide, .int .i64 high, .int .i64 fbits, .int .i64 ptype, .int .i64 pbits, .int .i64 nonref, .slice ca cycle.length cap, .int .i64 refs, .int .i64 delay]) (specV kb (ms_V kb bx wide high fbits ptype pbits nonref cycle refs delay ca cap b0 b1 b2 b3 b4 b5 b6 b7 fit)) 38 := by
  intro a w hout hI hdep o ho K hK
  obtain rfl : o = ms_o38 := Option.some.inj (ho.symm.trans (by kernel_rfl))
  clear ho
  have t3 := (hout 3 (by kernel_rfl)).trans A3
  obtain ⟨v40, t40, f40⟩ := hdep 35 40 (by kernel_rfl)
  obtain rfl : v40 = .bool (((b0 && b1) && b2) && b3) := f40 rfl
  have hy := yielded_is (ops := ms_ops) (j := 35) (d := 40) (by kernel_rfl) t40
  cases hB : (((b0 && b1) && b2) && b3) with
  | false =>
    rw [hB] at hy
    rw [if_neg (by simp [Region.wanted, ms_o38, hy])]
    exact hK _ _ hI (fun _ _ h => h) (fun h => by rw [hB] at h; cases h)
  | true =>
    rw [hB] at hy
    rw [if_pos (by simp [Region.wanted, ms_o38, hy])]
    have e3 := eval_slot t3
    unfold ms_o38
    go_simp
    exact hK _ _ hI (fun _ _ h => h) (fun _ => rfl)
theorem ms_s39 : StepOk Tryz.prog ms_ops Q a0 (Ms W0 bx kb 29 #[.int .i64 wide, .int .i64 high, .int .i64 fbits, .int .i64 ptype, .int .i64 pbits, .int .i64 nonref, .slice ca cycle.length cap, .int .i64 refs, .int .i64 delay]) (specV kb (ms_V kb bx wide high fbits ptype pbits nonref cycle refs delay ca cap b0 b1 b2 b3 b4 b5 b6 b7 fit)) 39 := by
  intro a w hout hI hdep o ho K hK
  obtain rfl : o = ms_o39 := Option.some.inj (ho.symm.trans (by kernel_rfl))
  clear ho
  obtain ⟨v43, t43, f43⟩ := hdep 38 43 (by kernel_rfl)
  obtain ⟨v40, t40, f40⟩ := hdep 35 40 (by kernel_rfl)
  obtain rfl : v40 = .bool (((b0 && b1) && b2) && b3) := f40 rfl
  have hy := yielded_is (ops := ms_ops) (j := 35) (d := 40) (by kernel_rfl) t40
  cases hB : (((b0 && b1) && b2) && b3) with
  | false =>
    rw [hB] at hy
    rw [if_neg (by simp [Region.wanted, ms_o39, hy])]
    exact hK _ _ hI (fun _ _ h => h) (fun h => by rw [hB] at h; cases h)
  | true =>
    rw [hB] at hy
    rw [if_pos (by simp [Region.wanted, ms_o39, hy])]
    obtain rfl : v43 = .pointer (some ⟨bx, 5, none⟩) := f43 hB
    have e43 := eval_slot t43
    have c := hI.box 5 (.int .i64 nonref) rfl
    unfold ms_o39
    go_simp
    exact hK _ _ hI (fun _ _ h => h) (fun _ => rfl)
theorem ms_s40 : StepOk Tryz.prog ms_ops Q a0 (Ms W0 bx kb 29 #[.int .i64 wide, .int .i64 high, .int .i64 fbits, .int .i64 ptype, .int .i64 pbits, .int .i64 nonref, .slice ca cycle.length cap, .int .i64 refs, .int .i64 delay]) (specV kb (ms_V kb bx wide high fbits ptype pbits nonref cycle refs delay ca cap b0 b1 b2 b3 b4 b5 b6 b7 fit)) 40 := by
  intro a w hout hI hdep o ho K hK
  obtain rfl : o = ms_o40 := Option.some.inj (ho.symm.trans (by kernel_rfl))
  clear ho
  obtain ⟨v44, t44, f44⟩ := hdep 39 44 (by kernel_rfl)
  obtain ⟨v40, t40, f40⟩ := hdep 35 40 (by kernel_rfl)
  obtain rfl : v40 = .bool (((b0 && b1) && b2) && b3) := f40 rfl
  have hy := yielded_is (ops := ms_ops) (j := 35) (d := 40) (by kernel_rfl) t40
  cases hB : (((b0 && b1) && b2) && b3) with
  | false =>
    rw [hB] at hy
    rw [if_neg (by simp [Region.wanted, ms_o40, hy])]
    exact hK _ _ hI (fun _ _ h => h) (fun h => by rw [hB] at h; cases h)
  | true =>
    rw [hB] at hy
    rw [if_pos (by simp [Region.wanted, ms_o40, hy])]
    obtain rfl : v44 = .int .i64 nonref := f44 hB
    have e44 := eval_slot t44
    unfold ms_o40
    go_simp
    exact hK _ _ (hI.alloc _) (fun j u h => specV_fr (Fr.alloc (Fr.refl _ _) _) j u h) (fun _ => ⟨w.heap.size, rfl, heap_alloc_last _ _, by have := hI.2.1.lt; omega⟩)
theorem ms_s41 (HH : ∀ (wr : World) (a : Option Addr) (cap : Nat), IntRow wr a [nonref] → Calls Tryz.prog 100 #[.agg #[.int .i64 (-1000), .int .i64 1000], .slice a 1 cap] wr fun e w' => e = .returned (.bool b4) ∧ Below wr.heap.size wr w') : StepOk Tryz.prog ms_ops Q a0 (Ms W0 bx kb 29 #[.int .i64 wide, .int .i64 high, .int .i64 fbits, .int .i64 ptype, .int .i64 pbits, .int .i64 nonref, .slice ca cycle.length cap, .int .i64 refs, .int .i64 delay]) (specV kb (ms_V kb bx wide high fbits ptype pbits nonref cycle refs delay ca cap b0 b1 b2 b3 b4 b5 b6 b7 fit)) 41 := by
  intro a w hout hI hdep o ho K hK
  obtain rfl : o = ms_o41 := Option.some.inj (ho.symm.trans (by kernel_rfl))
  clear ho
  obtain ⟨v42, t42, f42⟩ := hdep 37 42 (by kernel_rfl)
  obtain ⟨v45, t45, f45⟩ := hdep 40 45 (by kernel_rfl)
  obtain ⟨v40, t40, f40⟩ := hdep 35 40 (by kernel_rfl)
  obtain rfl : v40 = .bool (((b0 && b1) && b2) && b3) := f40 rfl
  have hy := yielded_is (ops := ms_ops) (j := 35) (d := 40) (by kernel_rfl) t40
  cases hB : (((b0 && b1) && b2) && b3) with
  | false =>
    rw [hB] at hy
    rw [if_neg (by simp [Region.wanted, ms_o41, hy])]
    exact hK _ _ hI (fun _ _ h => h) (fun h => by rw [hB] at h; cases h)
  | true =>
    rw [hB] at hy
    rw [if_pos (by simp [Region.wanted, ms_o41, hy])]
    obtain rfl : v42 = .agg #[.int .i64 (-1000), .int .i64 1000] := f42 hB
    obtain ⟨g, rfl, hg, hgk⟩ := f45 hB
    have e42 := eval_slot t42
    have e45 := eval_slot t45
    unfold ms_o41
    go_simp
    refine (HH w _ _ (row_of_ints hg)).mono ?_
    rintro e w1 ⟨rfl, B1⟩
    exact hK _ _ (hI.below B1) (fun j u h => specV_fr (Fr.of_below B1) j u h) (fun _ => rfl)
theorem ms_s42 : StepOk Tryz.prog ms_ops Q a0 (Ms W0 bx kb 29 #[.int .i64 wide, .int .i64 high, .int .i64 fbits, .int .i64 ptype, .int .i64 pbits, .int .i64 nonref, .slice ca cycle.length cap, .int .i64 refs, .int .i64 delay]) (specV kb (ms_V kb bx wide high fbits ptype pbits nonref cycle refs delay ca cap b0 b1 b2 b3 b4 b5 b6 b7 fit)) 42 := by
  intro a w hout hI hdep o ho K hK
  obtain rfl : o = ms_o42 := Option.some.inj (ho.symm.trans (by kernel_rfl))
  clear ho
  obtain ⟨v40, t40, f40⟩ := hdep 35 40 (by kernel_rfl)
  obtain ⟨v46, t46, f46⟩ := hdep 41 46 (by kernel_rfl)
  rw [if_pos (show Region.wanted ms_o42 _ = true from rfl)]
  obtain rfl : v40 = .bool (((b0 && b1) && b2) && b3) := f40 rfl
  have e40 := eval_slot t40
  cases hb : (((b0 && b1) && b2) && b3) with
  | false =>
    rw [hb] at e40
    unfold ms_o42
    go_simp
    exact hK _ _ hI (fun _ _ h => h) (fun _ => by simp [hb])
  | true =>
    obtain rfl : v46 = .bool b4 := f46 (by simp [hb])
    have e46 := eval_slot t46
    rw [hb] at e40
    unfold ms_o42
    go_simp
    exact hK _ _ hI (fun _ _ h => h) (fun _ => by simp [hb])
theorem ms_s43 : StepOk Tryz.prog ms_ops Q a0 (Ms W0 bx kb 29 #[.int .i64 wide, .int .i64 high, .int .i64 fbits, .int .i64 ptype, .int .i64 pbits, .int .i64 nonref, .slice ca cycle.length cap, .int .i64 refs, .int .i64 delay]) (specV kb (ms_V kb bx wide high fbits ptype pbits nonref cycle refs delay ca cap b0 b1 b2 b3 b4 b5 b6 b7 fit)) 43 := by
  intro a w hout hI hdep o ho K hK
  obtain rfl : o = ms_o43 := Option.some.inj (ho.symm.trans (by kernel_rfl))
  clear ho
  obtain ⟨v47, t47, f47⟩ := hdep 42 47 (by kernel_rfl)
  rw [if_pos (show Region.wanted ms_o43 _ = true from rfl)]
  obtain rfl : v47 = .bool ((((b0 && b1) && b2) && b3) && b4) := f47 rfl
  have e47 := eval_slot t47
  unfold ms_o43
  go_simp
  exact hK _ _ hI (fun _ _ h => h) (fun _ => rfl)
theorem ms_s44 (A0 : a0.tmps[0]? = some (.pointer (some ⟨kb, 0, none⟩))) : StepOk Tryz.prog ms_ops Q a0 (Ms W0 bx kb 29 #[.int .i64 wide, .int .i64 high, .int .i64 fbits, .int .i64 ptype, .int .i64 pbits, .int .i64 nonref, .slice ca cycle.length cap, .int .i64 refs, .int .i64 delay]) (specV kb (ms_V kb bx wide high fbits ptype pbits nonref cycle refs delay ca cap b0 b1 b2 b3 b4 b5 b6 b7 fit)) 44 := by
  intro a w hout hI hdep o ho K hK
  obtain rfl : o = ms_o44 := Option.some.inj (ho.symm.trans (by kernel_rfl))
  clear ho
  have t0 := (hout 0 (by kernel_rfl)).trans A0
  obtain ⟨v48, t48, f48⟩ := hdep 43 48 (by kernel_rfl)
  obtain rfl : v48 = .bool ((((b0 && b1) && b2) && b3) && b4) := f48 rfl
  have hy := yielded_is (ops := ms_ops) (j := 43) (d := 48) (by kernel_rfl) t48
  cases hB : ((((b0 && b1) && b2) && b3) && b4) with
  | false =>
    rw [hB] at hy
    rw [if_neg (by simp [Region.wanted, ms_o44, hy])]
    exact hK _ _ hI (fun _ _ h => h) (fun h => by rw [hB] at h; cases h)
  | true =>
    rw [hB] at hy
    rw [if_pos (by simp [Region.wanted, ms_o44, hy])]
    have e0 := eval_slot t0
    unfold ms_o44
    go_simp
    exact hK _ _ hI (fun _ _ h => h) (fun _ => rfl)
theorem ms_s45 : StepOk Tryz.prog ms_ops Q a0 (Ms W0 bx kb 29 #[.int .i64 wide, .int .i64 high, .int .i64 fbits, .int .i64 ptype, .int .i64 pbits, .int .i64 nonref, .slice ca cycle.length cap, .int .i64 refs, .int .i64 delay]) (specV kb (ms_V kb bx wide high fbits ptype pbits nonref cycle refs delay ca cap b0 b1 b2 b3 b4 b5 b6 b7 fit)) 45 := by
  intro a w hout hI hdep o ho K hK
  obtain rfl : o = ms_o45 := Option.some.inj (ho.symm.trans (by kernel_rfl))
  clear ho
  obtain ⟨v49, t49, f49⟩ := hdep 44 49 (by kernel_rfl)
  obtain ⟨v48, t48, f48⟩ := hdep 43 48 (by kernel_rfl)
  obtain rfl : v48 = .bool ((((b0 && b1) && b2) && b3) && b4) := f48 rfl
  have hy := yielded_is (ops := ms_ops) (j := 43) (d := 48) (by kernel_rfl) t48
  cases hB : ((((b0 && b1) && b2) && b3) && b4) with
  | false =>
    rw [hB] at hy
    rw [if_neg (by simp [Region.wanted, ms_o45, hy])]
    exact hK _ _ hI (fun _ _ h => h) (fun h => by rw [hB] at h; cases h)
  | true =>
    rw [hB] at hy
    rw [if_pos (by simp [Region.wanted, ms_o45, hy])]
    obtain rfl : v49 = .pointer (some ⟨kb, 0, none⟩) := f49 hB
    have e49 := eval_slot t49
    unfold ms_o45
    go_simp
    refine (ms_of_4 w hI).mono ?_
    rintro e w1 ⟨rfl, M1, F1⟩
    exact hK _ _ M1 (fun j u h => specV_fr F1 j u h) (fun _ => rfl)
theorem ms_s46 (A3 : a0.tmps[3]? = some (.pointer (some ⟨bx, 0, none⟩))) : StepOk Tryz.prog ms_ops Q a0 (Ms W0 bx kb 29 #[.int .i64 wide, .int .i64 high, .int .i64 fbits, .int .i64 ptype, .int .i64 pbits, .int .i64 nonref, .slice ca cycle.length cap, .int .i64 refs, .int .i64 delay]) (specV kb (ms_V kb bx wide high fbits ptype pbits nonref cycle refs delay ca cap b0 b1 b2 b3 b4 b5 b6 b7 fit)) 46 := by
  intro a w hout hI hdep o ho K hK
  obtain rfl : o = ms_o46 := Option.some.inj (ho.symm.trans (by kernel_rfl))
  clear ho
  have t3 := (hout 3 (by kernel_rfl)).trans A3
  obtain ⟨v48, t48, f48⟩ := hdep 43 48 (by kernel_rfl)
  obtain rfl : v48 = .bool ((((b0 && b1) && b2) && b3) && b4) := f48 rfl
  have hy := yielded_is (ops := ms_ops) (j := 43) (d := 48) (by kernel_rfl) t48
  cases hB : ((((b0 && b1) && b2) && b3) && b4) with
  | false =>
    rw [hB] at hy
    rw [if_neg (by simp [Region.wanted, ms_o46, hy])]
    exact hK _ _ hI (fun _ _ h => h) (fun h => by rw [hB] at h; cases h)
  | true =>
    rw [hB] at hy
    rw [if_pos (by simp [Region.wanted, ms_o46, hy])]
    have e3 := eval_slot t3
    unfold ms_o46
    go_simp
    exact hK _ _ hI (fun _ _ h => h) (fun _ => rfl)
theorem ms_s47 : StepOk Tryz.prog ms_ops Q a0 (Ms W0 bx kb 29 #[.int .i64 wide, .int .i64 high, .int .i64 fbits, .int .i64 ptype, .int .i64 pbits, .int .i64 nonref, .slice ca cycle.length cap, .int .i64 refs, .int .i64 delay]) (specV kb (ms_V kb bx wide high fbits ptype pbits nonref cycle refs delay ca cap b0 b1 b2 b3 b4 b5 b6 b7 fit)) 47 := by
  intro a w hout hI hdep o ho K hK
  obtain rfl : o = ms_o47 := Option.some.inj (ho.symm.trans (by kernel_rfl))
  clear ho
  obtain ⟨v51, t51, f51⟩ := hdep 46 51 (by kernel_rfl)
  obtain ⟨v48, t48, f48⟩ := hdep 43 48 (by kernel_rfl)
  obtain rfl : v48 = .bool ((((b0 && b1) && b2) && b3) && b4) := f48 rfl
  have hy := yielded_is (ops := ms_ops) (j := 43) (d := 48) (by kernel_rfl) t48
  cases hB : ((((b0 && b1) && b2) && b3) && b4) with
  | false =>
    rw [hB] at hy
    rw [if_neg (by simp [Region.wanted, ms_o47, hy])]
    exact hK _ _ hI (fun _ _ h => h) (fun h => by rw [hB] at h; cases h)
  | true =>
    rw [hB] at hy
    rw [if_pos (by simp [Region.wanted, ms_o47, hy])]
    obtain rfl : v51 = .pointer (some ⟨bx, 6, none⟩) := f51 hB
    have e51 := eval_slot t51
    have c := hI.box 6 (.slice ca cycle.length cap) rfl
    unfold ms_o47
    go_simp
    exact hK _ _ hI (fun _ _ h => h) (fun _ => rfl)
theorem ms_s48 (HC : ∀ wr : World, Ms W0 bx kb 29 #[.int .i64 wide, .int .i64 high, .int .i64 fbits, .int .i64 ptype, .int .i64 pbits, .int .i64 nonref, .slice ca cycle.length cap, .int .i64 refs, .int .i64 delay] wr → Calls Tryz.prog 100 #[.agg #[.int .i64 (-1000), .int .i64 1000], .slice ca cycle.length cap] wr fun e w' => e = .returned (.bool b5) ∧ Below wr.heap.size wr w') : StepOk Tryz.prog ms_ops Q a0 (Ms W0 bx kb 29 #[.int .i64 wide, .int .i64 high, .int .i64 fbits, .int .i64 ptype, .int .i64 pbits, .int .i64 nonref, .slice ca cycle.length cap, .int .i64 refs, .int .i64 delay]) (specV kb (ms_V kb bx wide high fbits ptype pbits nonref cycle refs delay ca cap b0 b1 b2 b3 b4 b5 b6 b7 fit)) 48 := by
  intro a w hout hI hdep o ho K hK
  obtain rfl : o = ms_o48 := Option.some.inj (ho.symm.trans (by kernel_rfl))
  clear ho
  obtain ⟨v50, t50, f50⟩ := hdep 45 50 (by kernel_rfl)
  obtain ⟨v52, t52, f52⟩ := hdep 47 52 (by kernel_rfl)
  obtain ⟨v48, t48, f48⟩ := hdep 43 48 (by kernel_rfl)
  obtain rfl : v48 = .bool ((((b0 && b1) && b2) && b3) && b4) := f48 rfl
  have hy := yielded_is (ops := ms_ops) (j := 43) (d := 48) (by kernel_rfl) t48
  cases hB : ((((b0 && b1) && b2) && b3) && b4) with
  | false =>
    rw [hB] at hy
    rw [if_neg (by simp [Region.wanted, ms_o48, hy])]
    exact hK _ _ hI (fun _ _ h => h) (fun h => by rw [hB] at h; cases h)
  | true =>
    rw [hB] at hy
    rw [if_pos (by simp [Region.wanted, ms_o48, hy])]
    obtain rfl : v50 = .agg #[.int .i64 (-1000), .int .i64 1000] := f50 hB
    obtain rfl : v52 = .slice ca cycle.length cap := f52 hB
    have e50 := eval_slot t50
    have e52 := eval_slot t52
    unfold ms_o48
    go_simp
    refine (HC w hI).mono ?_
    rintro e w1 ⟨rfl, B1⟩
    exact hK _ _ (hI.below B1) (fun j u h => specV_fr (Fr.of_below B1) j u h) (fun _ => rfl)
theorem ms_s49 : StepOk Tryz.prog ms_ops Q a0 (Ms W0 bx kb 29 #[.int .i64 wide, .int .i64 high, .int .i64 fbits, .int .i64 ptype, .int .i64 pbits, .int .i64 nonref, .slice ca cycle.length cap, .int .i64 refs, .int .i64 delay]) (specV kb (ms_V kb bx wide high fbits ptype pbits nonref cycle refs delay ca cap b0 b1 b2 b3 b4 b5 b6 b7 fit)) 49 := by
  intro a w hout hI hdep o ho K hK
  obtain rfl : o = ms_o49 := Option.some.inj (ho.symm.trans (by kernel_rfl))
  clear ho
  obtain ⟨v48, t48, f48⟩ := hdep 43 48 (by kernel_rfl)
  obtain ⟨v53, t53, f53⟩ := hdep 48 53 (by kernel_rfl)
  rw [if_pos (show Region.wanted ms_o49 _ = true from rfl)]
  obtain rfl : v48 = .bool ((((b0 && b1) && b2) && b3) && b4) := f48 rfl
  have e48 := eval_slot t48
  cases hb : ((((b0 && b1) && b2) && b3) && b4) with
  | false =>
    rw [hb] at e48
    unfold ms_o49
    go_simp
    exact hK _ _ hI (fun _ _ h => h) (fun _ => by simp [hb])
  | true =>
    obtain rfl : v53 = .bool b5 := f53 (by simp [hb])
    have e53 := eval_slot t53
    rw [hb] at e48
    unfold ms_o49
    go_simp
    exact hK _ _ hI (fun _ _ h => h) (fun _ => by simp [hb])
theorem ms_s50 : StepOk Tryz.prog ms_ops Q a0 (Ms W0 bx kb 29 #[.int .i64 wide, .int .i64 high, .int .i64 fbits, .int .i64 ptype, .int .i64 pbits, .int .i64 nonref, .slice ca cycle.length cap, .int .i64 refs, .int .i64 delay]) (specV kb (ms_V kb bx wide high fbits ptype pbits nonref cycle refs delay ca cap b0 b1 b2 b3 b4 b5 b6 b7 fit)) 50 := by
  intro a w hout hI hdep o ho K hK
  obtain rfl : o = ms_o50 := Option.some.inj (ho.symm.trans (by kernel_rfl))
  clear ho
  obtain ⟨v54, t54, f54⟩ := hdep 49 54 (by kernel_rfl)
  rw [if_pos (show Region.wanted ms_o50 _ = true from rfl)]
  obtain rfl : v54 = .bool (((((b0 && b1) && b2) && b3) && b4) && b5) := f54 rfl
  have e54 := eval_slot t54
  unfold ms_o50
  go_simp
  exact hK _ _ hI (fun _ _ h => h) (fun _ => rfl)
theorem ms_s51 (A0 : a0.tmps[0]? = some (.pointer (some ⟨kb, 0, none⟩))) : StepOk Tryz.prog ms_ops Q a0 (Ms W0 bx kb 29 #[.int .i64 wide, .int .i64 high, .int .i64 fbits, .int .i64 ptype, .int .i64 pbits, .int .i64 nonref, .slice ca cycle.length cap, .int .i64 refs, .int .i64 delay]) (specV kb (ms_V kb bx wide high fbits ptype pbits nonref cycle refs delay ca cap b0 b1 b2 b3 b4 b5 b6 b7 fit)) 51 := by
  intro a w hout hI hdep o ho K hK
  obtain rfl : o = ms_o51 := Option.some.inj (ho.symm.trans (by kernel_rfl))
  clear ho
  have t0 := (hout 0 (by kernel_rfl)).trans A0
  obtain ⟨v55, t55, f55⟩ := hdep 50 55 (by kernel_rfl)
  obtain rfl : v55 = .bool (((((b0 && b1) && b2) && b3) && b4) && b5) := f55 rfl
  have hy := yielded_is (ops := ms_ops) (j := 50) (d := 55) (by kernel_rfl) t55
  cases hB : (((((b0 && b1) && b2) && b3) && b4) && b5) with
  | false =>
    rw [hB] at hy
    rw [if_neg (by simp [Region.wanted, ms_o51, hy])]
    exact hK _ _ hI (fun _ _ h => h) (fun h => by rw [hB] at h; cases h)
  | true =>
    rw [hB] at hy
    rw [if_pos (by simp [Region.wanted, ms_o51, hy])]
    have e0 := eval_slot t0
    unfold ms_o51
    go_simp
    exact hK _ _ hI (fun _ _ h => h) (fun _ => rfl)
theorem ms_s52 : StepOk Tryz.prog ms_ops Q a0 (Ms W0 bx kb 29 #[.int .i64 wide, .int .i64 high, .int .i64 fbits, .int .i64 ptype, .int .i64 pbits, .int .i64 nonref, .slice ca cycle.length cap, .int .i64 refs, .int .i64 delay]) (specV kb (ms_V kb bx wide high fbits ptype pbits nonref cycle refs delay ca cap b0 b1 b2 b3 b4 b5 b6 b7 fit)) 52 := by
  intro a w hout hI hdep o ho K hK
  obtain rfl : o = ms_o52 := Option.some.inj (ho.symm.trans (by kernel_rfl))
  clear ho
  obtain ⟨v56, t56, f56⟩ := hdep 51 56 (by kernel_rfl)
  obtain ⟨v55, t55, f55⟩ := hdep 50 55 (by kernel_rfl)
  obtain rfl : v55 = .bool (((((b0 && b1) && b2) && b3) && b4) && b5) := f55 rfl
  have hy := yielded_is (ops := ms_ops) (j := 50) (d := 55) (by kernel_rfl) t55
  cases hB : (((((b0 && b1) && b2) && b3) && b4) && b5) with
  | false =>
    rw [hB] at hy
    rw [if_neg (by simp [Region.wanted, ms_o52, hy])]
    exact hK _ _ hI (fun _ _ h => h) (fun h => by rw [hB] at h; cases h)
  | true =>
    rw [hB] at hy
    rw [if_pos (by simp [Region.wanted, ms_o52, hy])]
    obtain rfl : v56 = .pointer (some ⟨kb, 0, none⟩) := f56 hB
    have e56 := eval_slot t56
    unfold ms_o52
    go_simp
    refine (ms_of_5 w hI).mono ?_
    rintro e w1 ⟨rfl, M1, F1⟩
    exact hK _ _ M1 (fun j u h => specV_fr F1 j u h) (fun _ => rfl)
theorem ms_s53 (A3 : a0.tmps[3]? = some (.pointer (some ⟨bx, 0, none⟩))) : StepOk Tryz.prog ms_ops Q a0 (Ms W0 bx kb 29 #[.int .i64 wide, .int .i64 high, .int .i64 fbits, .int .i64 ptype, .int .i64 pbits, .int .i64 nonref, .slice ca cycle.length cap, .int .i64 refs, .int .i64 delay]) (specV kb (ms_V kb bx wide high fbits ptype pbits nonref cycle refs delay ca cap b0 b1 b2 b3 b4 b5 b6 b7 fit)) 53 := by
  intro a w hout hI hdep o ho K hK
  obtain rfl : o = ms_o53 := Option.some.inj (ho.symm.trans (by kernel_rfl))
  clear ho
  have t3 := (hout 3 (by kernel_rfl)).trans A3
  obtain ⟨v55, t55, f55⟩ := hdep 50 55 (by kernel_rfl)
  obtain rfl : v55 = .bool (((((b0 && b1) && b2) && b3) && b4) && b5) := f55 rfl
  have hy := yielded_is (ops := ms_ops) (j := 50) (d := 55) (by kernel_rfl) t55
  cases hB : (((((b0 && b1) && b2) && b3) && b4) && b5) with
  | false =>
    rw [hB] at hy
    rw [if_neg (by simp [Region.wanted, ms_o53, hy])]
    exact hK _ _ hI (fun _ _ h => h) (fun h => by rw [hB] at h; cases h)
  | true =>
    rw [hB] at hy
    rw [if_pos (by simp [Region.wanted, ms_o53, hy])]
    have e3 := eval_slot t3
    unfold ms_o53
    go_simp
    exact hK _ _ hI (fun _ _ h => h) (fun _ => rfl)
theorem ms_s54 : StepOk Tryz.prog ms_ops Q a0 (Ms W0 bx kb 29 #[.int .i64 wide, .int .i64 high, .int .i64 fbits, .int .i64 ptype, .int .i64 pbits, .int .i64 nonref, .slice ca cycle.length cap, .int .i64 refs, .int .i64 delay]) (specV kb (ms_V kb bx wide high fbits ptype pbits nonref cycle refs delay ca cap b0 b1 b2 b3 b4 b5 b6 b7 fit)) 54 := by
  intro a w hout hI hdep o ho K hK
  obtain rfl : o = ms_o54 := Option.some.inj (ho.symm.trans (by kernel_rfl))
  clear ho
  obtain ⟨v58, t58, f58⟩ := hdep 53 58 (by kernel_rfl)
  obtain ⟨v55, t55, f55⟩ := hdep 50 55 (by kernel_rfl)
  obtain rfl : v55 = .bool (((((b0 && b1) && b2) && b3) && b4) && b5) := f55 rfl
  have hy := yielded_is (ops := ms_ops) (j := 50) (d := 55) (by kernel_rfl) t55
  cases hB : (((((b0 && b1) && b2) && b3) && b4) && b5) with
  | false =>
    rw [hB] at hy
    rw [if_neg (by simp [Region.wanted, ms_o54, hy])]
    exact hK _ _ hI (fun _ _ h => h) (fun h => by rw [hB] at h; cases h)
  | true =>
    rw [hB] at hy
    rw [if_pos (by simp [Region.wanted, ms_o54, hy])]
    obtain rfl : v58 = .pointer (some ⟨bx, 7, none⟩) := f58 hB
    have e58 := eval_slot t58
    have c := hI.box 7 (.int .i64 refs) rfl
    unfold ms_o54
    go_simp
    exact hK _ _ hI (fun _ _ h => h) (fun _ => rfl)
theorem ms_s55 : StepOk Tryz.prog ms_ops Q a0 (Ms W0 bx kb 29 #[.int .i64 wide, .int .i64 high, .int .i64 fbits, .int .i64 ptype, .int .i64 pbits, .int .i64 nonref, .slice ca cycle.length cap, .int .i64 refs, .int .i64 delay]) (specV kb (ms_V kb bx wide high fbits ptype pbits nonref cycle refs delay ca cap b0 b1 b2 b3 b4 b5 b6 b7 fit)) 55 := by
  intro a w hout hI hdep o ho K hK
  obtain rfl : o = ms_o55 := Option.some.inj (ho.symm.trans (by kernel_rfl))
  clear ho
  obtain ⟨v59, t59, f59⟩ := hdep 54 59 (by kernel_rfl)
  obtain ⟨v55, t55, f55⟩ := hdep 50 55 (by kernel_rfl)
  obtain rfl : v55 = .bool (((((b0 && b1) && b2) && b3) && b4) && b5) := f55 rfl
  have hy := yielded_is (ops := ms_ops) (j := 50) (d := 55) (by kernel_rfl) t55
  cases hB : (((((b0 && b1) && b2) && b3) && b4) && b5) with
  | false =>
    rw [hB] at hy
    rw [if_neg (by simp [Region.wanted, ms_o55, hy])]
    exact hK _ _ hI (fun _ _ h => h) (fun h => by rw [hB] at h; cases h)
  | true =>
    rw [hB] at hy
    rw [if_pos (by simp [Region.wanted, ms_o55, hy])]
    obtain rfl : v59 = .int .i64 refs := f59 hB
    have e59 := eval_slot t59
    unfold ms_o55
    go_simp
    exact hK _ _ (hI.alloc _) (fun j u h => specV_fr (Fr.alloc (Fr.refl _ _) _) j u h) (fun _ => ⟨w.heap.size, rfl, heap_alloc_last _ _, by have := hI.2.1.lt; omega⟩)
theorem ms_s56 (HH : ∀ (wr : World) (a : Option Addr) (cap : Nat), IntRow wr a [refs] → Calls Tryz.prog 100 #[.agg #[.int .i64 1, .int .i64 8], .slice a 1 cap] wr fun e w' => e = .returned (.bool b6) ∧ Below wr.heap.size wr w') : StepOk Tryz.prog ms_ops Q a0 (Ms W0 bx kb 29 #[.int .i64 wide, .int .i64 high, .int .i64 fbits, .int .i64 ptype, .int .i64 pbits, .int .i64 nonref, .slice ca cycle.length cap, .int .i64 refs, .int .i64 delay]) (specV kb (ms_V kb bx wide high fbits ptype pbits nonref cycle refs delay ca cap b0 b1 b2 b3 b4 b5 b6 b7 fit)) 56 := by
  intro a w hout hI hdep o ho K hK
  obtain rfl : o = ms_o56 := Option.some.inj (ho.symm.trans (by kernel_rfl))
  clear ho
  obtain ⟨v57, t57, f57⟩ := hdep 52 57 (by kernel_rfl)
  obtain ⟨v60, t60, f60⟩ := hdep 55 60 (by kernel_rfl)
  obtain ⟨v55, t55, f55⟩ := hdep 50 55 (by kernel_rfl)
  obtain rfl : v55 = .bool (((((b0 && b1) && b2) && b3) && b4) && b5) := f55 rfl
  have hy := yielded_is (ops := ms_ops) (j := 50) (d := 55) (by kernel_rfl) t55
  cases hB : (((((b0 && b1) && b2) && b3) && b4) && b5) with
  | false =>
    rw [hB] at hy
    rw [if_neg (by simp [Region.wanted, ms_o56, hy])]
    exact hK _ _ hI (fun _ _ h => h) (fun h => by rw [hB] at h; cases h)
  | true =>
    rw [hB] at hy
    rw [if_pos (by simp [Region.wanted, ms_o56, hy])]
    obtain rfl : v57 = .agg #[.int .i64 1, .int .i64 8] := f57 hB
    obtain ⟨g, rfl, hg, hgk⟩ := f60 hB
    have e57 := eval_slot t57
    have e60 := eval_slot t60
    unfold ms_o56
    go_simp
    refine (HH w _ _ (row_of_ints hg)).mono ?_
    rintro e w1 ⟨rfl, B1⟩
    exact hK _ _ (hI.below B1) (fun j u h => specV_fr (Fr.of_below B1) j u h) (fun _ => rfl)
theorem ms_s57 : StepOk Tryz.prog ms_ops Q a0 (Ms W0 bx kb 29 #[.int .i64 wide, .int .i64 high, .int .i64 fbits, .int .i64 ptype, .int .i64 pbits, .int .i64 nonref, .slice ca cycle.length cap, .int .i64 refs, .int .i64 delay]) (specV kb (ms_V kb bx wide high fbits ptype pbits nonref cycle refs delay ca cap b0 b1 b2 b3 b4 b5 b6 b7 fit)) 57 := by
  intro a w hout hI hdep o ho K hK
  obtain rfl : o = ms_o57 := Option.some.inj (ho.symm.trans (by kernel_rfl))
  clear ho
  obtain ⟨v55, t55, f55⟩ := hdep 50 55 (by kernel_rfl)
  obtain ⟨v61, t61, f61⟩ := hdep 56 61 (by kernel_rfl)
  rw [if_pos (show Region.wanted ms_o57 _ = true from rfl)]
  obtain rfl : v55 = .bool (((((b0 && b1) && b2) && b3) && b4) && b5) := f55 rfl
  have e55 := eval_slot t55
  cases hb : (((((b0 && b1) && b2) && b3) && b4) && b5) with
  | false =>
    rw [hb] at e55
    unfold ms_o57
    go_simp
    exact hK _ _ hI (fun _ _ h => h) (fun _ => by simp [hb])
  | true =>
    obtain rfl : v61 = .bool b6 := f61 (by simp [hb])
    have e61 := eval_slot t61
    rw [hb] at e55
    unfold ms_o57
    go_simp
    exact hK _ _ hI (fun _ _ h => h) (fun _ => by simp [hb])
theorem ms_s58 : StepOk Tryz.prog ms_ops Q a0 (Ms W0 bx kb 29 #[.int .i64 wide, .int .i64 high, .int .i64 fbits, .int .i64 ptype, .int .i64 pbits, .int .i64 nonref, .slice ca cycle.length cap, .int .i64 refs, .int .i64 delay]) (specV kb (ms_V kb bx wide high fbits ptype pbits nonref cycle refs delay ca cap b0 b1 b2 b3 b4 b5 b6 b7 fit)) 58 := by
  intro a w hout hI hdep o ho K hK
  obtain rfl : o = ms_o58 := Option.some.inj (ho.symm.trans (by kernel_rfl))
  clear ho
  obtain ⟨v62, t62, f62⟩ := hdep 57 62 (by kernel_rfl)
  rw [if_pos (show Region.wanted ms_o58 _ = true from rfl)]
  obtain rfl : v62 = .bool ((((((b0 && b1) && b2) && b3) && b4) && b5) && b6) := f62 rfl
  have e62 := eval_slot t62
  unfold ms_o58
  go_simp
  exact hK _ _ hI (fun _ _ h => h) (fun _ => rfl)
theorem ms_s59 (A3 : a0.tmps[3]? = some (.pointer (some ⟨bx, 0, none⟩))) : StepOk Tryz.prog ms_ops Q a0 (Ms W0 bx kb 29 #[.int .i64 wide, .int .i64 high, .int .i64 fbits, .int .i64 ptype, .int .i64 pbits, .int .i64 nonref, .slice ca cycle.length cap, .int .i64 refs, .int .i64 delay]) (specV kb (ms_V kb bx wide high fbits ptype pbits nonref cycle refs delay ca cap b0 b1 b2 b3 b4 b5 b6 b7 fit)) 59 := by
  intro a w hout hI hdep o ho K hK
  obtain rfl : o = ms_o59 := Option.some.inj (ho.symm.trans (by kernel_rfl))
  clear ho
  have t3 := (hout 3 (by kernel_rfl)).trans A3
  obtain ⟨v63, t63, f63⟩ := hdep 58 63 (by kernel_rfl)
  obtain rfl : v63 = .bool ((((((b0 && b1) && b2) && b3) && b4) && b5) && b6) := f63 rfl
  have hy := yielded_is (ops := ms_ops) (j := 58) (d := 63) (by kernel_rfl) t63
  cases hB : ((((((b0 && b1) && b2) && b3) && b4) && b5) && b6) with
  | false =>
    rw [hB] at hy
    rw [if_neg (by simp [Region.wanted, ms_o59, hy])]
    exact hK _ _ hI (fun _ _ h => h) (fun h => by rw [hB] at h; cases h)
  | true =>
    rw [hB] at hy
    rw [if_pos (by simp [Region.wanted, ms_o59, hy])]
    have e3 := eval_slot t3
    unfold ms_o59
    go_simp
    exact hK _ _ hI (fun _ _ h => h) (fun _ => rfl)
theorem ms_s60 : StepOk Tryz.prog ms_ops Q a0 (Ms W0 bx kb 29 #[.int .i64 wide, .int .i64 high, .int .i64 fbits, .int .i64 ptype, .int .i64 pbits, .int .i64 nonref, .slice ca cycle.length cap, .int .i64 refs, .int .i64 delay]) (specV kb (ms_V kb bx wide high fbits ptype pbits nonref cycle refs delay ca cap b0 b1 b2 b3 b4 b5 b6 b7 fit)) 60 := by
  intro a w hout hI hdep o ho K hK
  obtain rfl : o = ms_o60 := Option.some.inj (ho.symm.trans (by kernel_rfl))
  clear ho
  obtain ⟨v64, t64, f64⟩ := hdep 59 64 (by kernel_rfl)
  obtain ⟨v63, t63, f63⟩ := hdep 58 63 (by kernel_rfl)
  obtain rfl : v63 = .bool ((((((b0 && b1) && b2) && b3) && b4) && b5) && b6) := f63 rfl
  have hy := yielded_is (ops := ms_ops) (j := 58) (d := 63) (by kernel_rfl) t63
  cases hB : ((((((b0 && b1) && b2) && b3) && b4) && b5) && b6) with
  | false =>
    rw [hB] at hy
    rw [if_neg (by simp [Region.wanted, ms_o60, hy])]
    exact hK _ _ hI (fun _ _ h => h) (fun h => by rw [hB] at h; cases h)
  | true =>
    rw [hB] at hy
    rw [if_pos (by simp [Region.wanted, ms_o60, hy])]
    obtain rfl : v64 = .pointer (some ⟨bx, 7, none⟩) := f64 hB
    have e64 := eval_slot t64
    have c := hI.box 7 (.int .i64 refs) rfl
    unfold ms_o60
    go_simp
    exact hK _ _ hI (fun _ _ h => h) (fun _ => rfl)
theorem ms_s61 : StepOk Tryz.prog ms_ops Q a0 (Ms W0 bx kb 29 #[.int .i64 wide, .int .i64 high, .int .i64 fbits, .int .i64 ptype, .int .i64 pbits, .int .i64 nonref, .slice ca cycle.length cap, .int .i64 refs, .int .i64 delay]) (specV kb (ms_V kb bx wide high fbits ptype pbits nonref cycle refs delay ca cap b0 b1 b2 b3 b4 b5 b6 b7 fit)) 61 := by
  intro a w hout hI hdep o ho K hK
  obtain rfl : o = ms_o61 := Option.some.inj (ho.symm.trans (by kernel_rfl))
  clear ho
  obtain ⟨v65, t65, f65⟩ := hdep 60 65 (by kernel_rfl)
  obtain ⟨v63, t63, f63⟩ := hdep 58 63 (by kernel_rfl)
  obtain rfl : v63 = .bool ((((((b0 && b1) && b2) && b3) && b4) && b5) && b6) := f63 rfl
  have hy := yielded_is (ops := ms_ops) (j := 58) (d := 63) (by kernel_rfl) t63
  cases hB : ((((((b0 && b1) && b2) && b3) && b4) && b5) && b6) with
  | false =>
    rw [hB] at hy
    rw [if_neg (by simp [Region.wanted, ms_o61, hy])]
    exact hK _ _ hI (fun _ _ h => h) (fun h => by rw [hB] at h; cases h)
  | true =>
    rw [hB] at hy
    rw [if_pos (by simp [Region.wanted, ms_o61, hy])]
    obtain rfl : v65 = .int .i64 refs := f65 hB
    have e65 := eval_slot t65
    unfold ms_o61
    go_simp
    exact hK _ _ hI (fun _ _ h => h) (fun _ => rfl)
theorem ms_s62 (A3 : a0.tmps[3]? = some (.pointer (some ⟨bx, 0, none⟩))) : StepOk Tryz.prog ms_ops Q a0 (Ms W0 bx kb 29 #[.int .i64 wide, .int .i64 high, .int .i64 fbits, .int .i64 ptype, .int .i64 pbits, .int .i64 nonref, .slice ca cycle.length cap, .int .i64 refs, .int .i64 delay]) (specV kb (ms_V kb bx wide high fbits ptype pbits nonref cycle refs delay ca cap b0 b1 b2 b3 b4 b5 b6 b7 fit)) 62 := by
  intro a w hout hI hdep o ho K hK
  obtain rfl : o = ms_o62 := Option.some.inj (ho.symm.trans (by kernel_rfl))
  clear ho
  have t3 := (hout 3 (by kernel_rfl)).trans A3
  obtain ⟨v63, t63, f63⟩ := hdep 58 63 (by kernel_rfl)
  obtain rfl : v63 = .bool ((((((b0 && b1) && b2) && b3) && b4) && b5) && b6) := f63 rfl
  have hy := yielded_is (ops := ms_ops) (j := 58) (d := 63) (by kernel_rfl) t63
  cases hB : ((((((b0 && b1) && b2) && b3) && b4) && b5) && b6) with
  | false =>
    rw [hB] at hy
    rw [if_neg (by simp [Region.wanted, ms_o62, hy])]
    exact hK _ _ hI (fun _ _ h => h) (fun h => by rw [hB] at h; cases h)
  | true =>
    rw [hB] at hy
    rw [if_pos (by simp [Region.wanted, ms_o62, hy])]
    have e3 := eval_slot t3
    unfold ms_o62
    go_simp
    exact hK _ _ hI (fun _ _ h => h) (fun _ => rfl)
theorem ms_s63 : StepOk Tryz.prog ms_ops Q a0 (Ms W0 bx kb 29 #[.int .i64 wide, .int .i64 high, .int .i64 fbits, .int .i64 ptype, .int .i64 pbits, .int .i64 nonref, .slice ca cycle.length cap, .int .i64 refs, .int .i64 delay]) (specV kb (ms_V kb bx wide high fbits ptype pbits nonref cycle refs delay ca cap b0 b1 b2 b3 b4 b5 b6 b7 fit)) 63 := by
  intro a w hout hI hdep o ho K hK
  obtain rfl : o = ms_o63 := Option.some.inj (ho.symm.trans (by kernel_rfl))
  clear ho
  obtain ⟨v67, t67, f67⟩ := hdep 62 67 (by kernel_rfl)
  obtain ⟨v63, t63, f63⟩ := hdep 58 63 (by kernel_rfl)
  obtain rfl : v63 = .bool ((((((b0 && b1) && b2) && b3) && b4) && b5) && b6) := f63 rfl
  have hy := yielded_is (ops := ms_ops) (j := 58) (d := 63) (by kernel_rfl) t63
  cases hB : ((((((b0 && b1) && b2) && b3) && b4) && b5) && b6) with
  | false =>
    rw [hB] at hy
    rw [if_neg (by simp [Region.wanted, ms_o63, hy])]
    exact hK _ _ hI (fun _ _ h => h) (fun h => by rw [hB] at h; cases h)
  | true =>
    rw [hB] at hy
    rw [if_pos (by simp [Region.wanted, ms_o63, hy])]
    obtain rfl : v67 = .pointer (some ⟨bx, 8, none⟩) := f67 hB
    have e67 := eval_slot t67
    have c := hI.box 8 (.int .i64 delay) rfl
    unfold ms_o63
    go_simp
    exact hK _ _ hI (fun _ _ h => h) (fun _ => rfl)
theorem ms_s64 : StepOk Tryz.prog ms_ops Q a0 (Ms W0 bx kb 29 #[.int .i64 wide, .int .i64 high, .int .i64 fbits, .int .i64 ptype, .int .i64 pbits, .int .i64 nonref, .slice ca cycle.length cap, .int .i64 refs, .int .i64 delay]) (specV kb (ms_V kb bx wide high fbits ptype pbits nonref cycle refs delay ca cap b0 b1 b2 b3 b4 b5 b6 b7 fit)) 64 := by
  intro a w hout hI hdep o ho K hK
  obtain rfl : o = ms_o64 := Option.some.inj (ho.symm.trans (by kernel_rfl))
  clear ho
  obtain ⟨v68, t68, f68⟩ := hdep 63 68 (by kernel_rfl)
  obtain ⟨v63, t63, f63⟩ := hdep 58 63 (by kernel_rfl)
  obtain rfl : v63 = .bool ((((((b0 && b1) && b2) && b3) && b4) && b5) && b6) := f63 rfl
  have hy := yielded_is (ops := ms_ops) (j := 58) (d := 63) (by kernel_rfl) t63
  cases hB : ((((((b0 && b1) && b2) && b3) && b4) && b5) && b6) with
  | false =>
    rw [hB] at hy
    rw [if_neg (by simp [Region.wanted, ms_o64, hy])]
    exact hK _ _ hI (fun _ _ h => h) (fun h => by rw [hB] at h; cases h)
  | true =>
    rw [hB] at hy
    rw [if_pos (by simp [Region.wanted, ms_o64, hy])]
    obtain rfl : v68 = .int .i64 delay := f68 hB
    have e68 := eval_slot t68
    unfold ms_o64
    go_simp
    exact hK _ _ (hI.alloc _) (fun j u h => specV_fr (Fr.alloc (Fr.refl _ _) _) j u h) (fun _ => ⟨w.heap.size, rfl, heap_alloc_last _ _, by have := hI.2.1.lt; omega⟩)
theorem ms_s65 (HH : ∀ (wr : World) (a : Option Addr) (cap : Nat), IntRow wr a [delay] → Calls Tryz.prog 100 #[.agg #[.int .i64 0, .int .i64 refs], .slice a 1 cap] wr fun e w' => e = .returned (.bool b7) ∧ Below wr.heap.size wr w') : StepOk Tryz.prog ms_ops Q a0 (Ms W0 bx kb 29 #[.int .i64 wide, .int .i64 high, .int .i64 fbits, .int .i64 ptype, .int .i64 pbits, .int .i64 nonref, .slice ca cycle.length cap, .int .i64 refs, .int .i64 delay]) (specV kb (ms_V kb bx wide high fbits ptype pbits nonref cycle refs delay ca cap b0 b1 b2 b3 b4 b5 b6 b7 fit)) 65 := by
  intro a w hout hI hdep o ho K hK
  obtain rfl : o = ms_o65 := Option.some.inj (ho.symm.trans (by kernel_rfl))
  clear ho
  obtain ⟨v66, t66, f66⟩ := hdep 61 66 (by kernel_rfl)
  obtain ⟨v69, t69, f69⟩ := hdep 64 69 (by kernel_rfl)
  obtain ⟨v63, t63, f63⟩ := hdep 58 63 (by kernel_rfl)
  obtain rfl : v63 = .bool ((((((b0 && b1) && b2) && b3) && b4) && b5) && b6) := f63 rfl
  have hy := yielded_is (ops := ms_ops) (j := 58) (d := 63) (by kernel_rfl) t63
  cases hB : ((((((b0 && b1) && b2) && b3) && b4) && b5) && b6) with
  | false =>
    rw [hB] at hy
    rw [if_neg (by simp [Region.wanted, ms_o65, hy])]
    exact hK _ _ hI (fun _ _ h => h) (fun h => by rw [hB] at h; cases h)
  | true =>
    rw [hB] at hy
    rw [if_pos (by simp [Region.wanted, ms_o65, hy])]
    obtain rfl : v66 = .agg #[.int .i64 0, .int .i64 refs] := f66 hB
    obtain ⟨g, rfl, hg, hgk⟩ := f69 hB
    have e66 := eval_slot t66
    have e69 := eval_slot t69
    unfold ms_o65
    go_simp
    refine (HH w _ _ (row_of_ints hg)).mono ?_
    rintro e w1 ⟨rfl, B1⟩
    exact hK _ _ (hI.below B1) (fun j u h => specV_fr (Fr.of_below B1) j u h) (fun _ => rfl)
theorem ms_s66 : StepOk Tryz.prog ms_ops Q a0 (Ms W0 bx kb 29 #[.int .i64 wide, .int .i64 high, .int .i64 fbits, .int .i64 ptype, .int .i64 pbits, .int .i64 nonref, .slice ca cycle.length cap, .int .i64 refs, .int .i64 delay]) (specV kb (ms_V kb bx wide high fbits ptype pbits nonref cycle refs delay ca cap b0 b1 b2 b3 b4 b5 b6 b7 fit)) 66 := by
  intro a w hout hI hdep o ho K hK
  obtain rfl : o = ms_o66 := Option.some.inj (ho.symm.trans (by kernel_rfl))
  clear ho
  obtain ⟨v63, t63, f63⟩ := hdep 58 63 (by kernel_rfl)
  obtain ⟨v70, t70, f70⟩ := hdep 65 70 (by kernel_rfl)
  rw [if_pos (show Region.wanted ms_o66 _ = true from rfl)]
  obtain rfl : v63 = .bool ((((((b0 && b1) && b2) && b3) && b4) && b5) && b6) := f63 rfl
  have e63 := eval_slot t63
  cases hb : ((((((b0 && b1) && b2) && b3) && b4) && b5) && b6) with
  | false =>
    rw [hb] at e63
    unfold ms_o66
    go_simp
    exact hK _ _ hI (fun _ _ h => h) (fun _ => by simp [hb])
  | true =>
    obtain rfl : v70 = .bool b7 := f70 (by simp [hb])
    have e70 := eval_slot t70
    rw [hb] at e63
    unfold ms_o66
    go_simp
    exact hK _ _ hI (fun _ _ h => h) (fun _ => by simp [hb])
theorem ms_s67 : StepOk Tryz.prog ms_ops Q a0 (Ms W0 bx kb 29 #[.int .i64 wide, .int .i64 high, .int .i64 fbits, .int .i64 ptype, .int .i64 pbits, .int .i64 nonref, .slice ca cycle.length cap, .int .i64 refs, .int .i64 delay]) (specV kb (ms_V kb bx wide high fbits ptype pbits nonref cycle refs delay ca cap b0 b1 b2 b3 b4 b5 b6 b7 fit)) 67 := by
  intro a w hout hI hdep o ho K hK
  obtain rfl : o = ms_o67 := Option.some.inj (ho.symm.trans (by kernel_rfl))
  clear ho
  obtain ⟨v71, t71, f71⟩ := hdep 66 71 (by kernel_rfl)
  rw [if_pos (show Region.wanted ms_o67 _ = true from rfl)]
  obtain rfl : v71 = .bool (((((((b0 && b1) && b2) && b3) && b4) && b5) && b6) && b7) := f71 rfl
  have e71 := eval_slot t71
  unfold ms_o67
  go_simp
  exact hK _ _ hI (fun _ _ h => h) (fun _ => rfl)
theorem ms_s68 (A3 : a0.tmps[3]? = some (.pointer (some ⟨bx, 0, none⟩))) : StepOk Tryz.prog ms_ops Q a0 (Ms W0 bx kb 29 #[.int .i64 wide, .int .i64 high, .int .i64 fbits, .int .i64 ptype, .int .i64 pbits, .int .i64 nonref, .slice ca cycle.length cap, .int .i64 refs, .int .i64 delay]) (specV kb (ms_V kb bx wide high fbits ptype pbits nonref cycle refs delay ca cap b0 b1 b2 b3 b4 b5 b6 b7 fit)) 68 := by
  intro a w hout hI hdep o ho K hK
  obtain rfl : o = ms_o68 := Option.some.inj (ho.symm.trans (by kernel_rfl))
  clear ho
  have t3 := (hout 3 (by kernel_rfl)).trans A3
  obtain ⟨v72, t72, f72⟩ := hdep 67 72 (by kernel_rfl)
  obtain rfl : v72 = .bool (((((((b0 && b1) && b2) && b3) && b4) && b5) && b6) && b7) := f72 rfl
  have hy := yielded_is (ops := ms_ops) (j := 67) (d := 72) (by kernel_rfl) t72
  cases hB : (((((((b0 && b1) && b2) && b3) && b4) && b5) && b6) && b7) with
  | false =>
    rw [hB] at hy
    rw [if_neg (by simp [Region.wanted, ms_o68, hy])]
    exact hK _ _ hI (fun _ _ h => h) (fun h => by rw [hB] at h; cases h)
  | true =>
    rw [hB] at hy
    rw [if_pos (by simp [Region.wanted, ms_o68, hy])]
    have e3 := eval_slot t3
    have c0 := hI.box 0 (.int .i64 wide) rfl
    have c1 := hI.box 1 (.int .i64 high) rfl
    have c2 := hI.box 2 (.int .i64 fbits) rfl
    have c3 := hI.box 3 (.int .i64 ptype) rfl
    have c4 := hI.box 4 (.int .i64 pbits) rfl
    have c5 := hI.box 5 (.int .i64 nonref) rfl
    have c6 := hI.box 6 (.slice ca cycle.length cap) rfl
    have c7 := hI.box 7 (.int .i64 refs) rfl
    have c8 := hI.box 8 (.int .i64 delay) rfl
    unfold ms_o68
    go_simp
    exact hK _ _ hI (fun _ _ h => h) (fun _ => rfl)
theorem ms_s69 (HF : ∀ wr : World, Calls Tryz.prog 123 #[.agg #[.int .i64 wide, .int .i64 high, .int .i64 fbits, .int .i64 ptype, .int .i64 pbits, .int .i64 nonref, .slice ca cycle.length cap, .int .i64 refs, .int .i64 delay]] wr fun e w' => e = .returned (.bool fit) ∧ Below wr.heap.size wr w') : StepOk Tryz.prog ms_ops Q a0 (Ms W0 bx kb 29 #[.int .i64 wide, .int .i64 high, .int .i64 fbits, .int .i64 ptype, .int .i64 pbits, .int .i64 nonref, .slice ca cycle.length cap, .int .i64 refs, .int .i64 delay]) (specV kb (ms_V kb bx wide high fbits ptype pbits nonref cycle refs delay ca cap b0 b1 b2 b3 b4 b5 b6 b7 fit)) 69 := by
  intro a w hout hI hdep o ho K hK
  obtain rfl : o = ms_o69 := Option.some.inj (ho.symm.trans (by kernel_rfl))
  clear ho
  obtain ⟨v73, t73, f73⟩ := hdep 68 73 (by kernel_rfl)
  obtain ⟨v72, t72, f72⟩ := hdep 67 72 (by kernel_rfl)
  obtain rfl : v72 = .bool (((((((b0 && b1) && b2) && b3) && b4) && b5) && b6) && b7) := f72 rfl
  have hy := yielded_is (ops := ms_ops) (j := 67) (d := 72) (by kernel_rfl) t72
  cases hB : (((((((b0 && b1) && b2) && b3) && b4) && b5) && b6) && b7) with
  | false =>
    rw [hB] at hy
    rw [if_neg (by simp [Region.wanted, ms_o69, hy])]
    exact hK _ _ hI (fun _ _ h => h) (fun h => by rw [hB] at h; cases h)
  | true =>
    rw [hB] at hy
    rw [if_pos (by simp [Region.wanted, ms_o69, hy])]
    obtain rfl : v73 = .agg #[.int .i64 wide, .int .i64 high, .int .i64 fbits, .int .i64 ptype, .int .i64 pbits, .int .i64 nonref, .slice ca cycle.length cap, .int .i64 refs, .int .i64 delay] := f73 hB
    have e73 := eval_slot t73
    unfold ms_o69
    go_simp
    refine (HF w).mono ?_
    rintro e w1 ⟨rfl, B1⟩
    exact hK _ _ (hI.below B1) (fun j u h => specV_fr (Fr.of_below B1) j u h) (fun _ => rfl)
theorem ms_s70 : StepOk Tryz.prog ms_ops Q a0 (Ms W0 bx kb 29 #[.int .i64 wide, .int .i64 high, .int .i64 fbits, .int .i64 ptype, .int .i64 pbits, .int .i64 nonref, .slice ca cycle.length cap, .int .i64 refs, .int .i64 delay]) (specV kb (ms_V kb bx wide high fbits ptype pbits nonref cycle refs delay ca cap b0 b1 b2 b3 b4 b5 b6 b7 fit)) 70 := by
  intro a w hout hI hdep o ho K hK
  obtain rfl : o = ms_o70 := Option.some.inj (ho.symm.trans (by kernel_rfl))
  clear ho
  obtain ⟨v72, t72, f72⟩ := hdep 67 72 (by kernel_rfl)
  obtain ⟨v74, t74, f74⟩ := hdep 69 74 (by kernel_rfl)
  rw [if_pos (show Region.wanted ms_o70 _ = true from rfl)]
  obtain rfl : v72 = .bool (((((((b0 && b1) && b2) && b3) && b4) && b5) && b6) && b7) := f72 rfl
  have e72 := eval_slot t72
  cases hb : (((((((b0 && b1) && b2) && b3) && b4) && b5) && b6) && b7) with
  | false =>
    rw [hb] at e72
    unfold ms_o70
    go_simp
    exact hK _ _ hI (fun _ _ h => h) (fun _ => by simp [hb])
  | true =>
    obtain rfl : v74 = .bool fit := f74 (by simp [hb])
    have e74 := eval_slot t74
    rw [hb] at e72
    unfold ms_o70
    go_simp
    exact hK _ _ hI (fun _ _ h => h) (fun _ => by simp [hb])
theorem ms_s71 : StepOk Tryz.prog ms_ops Q a0 (Ms W0 bx kb 29 #[.int .i64 wide, .int .i64 high, .int .i64 fbits, .int .i64 ptype, .int .i64 pbits, .int .i64 nonref, .slice ca cycle.length cap, .int .i64 refs, .int .i64 delay]) (specV kb (ms_V kb bx wide high fbits ptype pbits nonref cycle refs delay ca cap b0 b1 b2 b3 b4 b5 b6 b7 fit)) 71 := by
  intro a w hout hI hdep o ho K hK
  obtain rfl : o = ms_o71 := Option.some.inj (ho.symm.trans (by kernel_rfl))
  clear ho
  obtain ⟨v75, t75, f75⟩ := hdep 70 75 (by kernel_rfl)
  rw [if_pos (show Region.wanted ms_o71 _ = true from rfl)]
  obtain rfl : v75 = .bool ((((((((b0 && b1) && b2) && b3) && b4) && b5) && b6) && b7) && fit) := f75 rfl
  have e75 := eval_slot t75
  unfold ms_o71
  go_simp
  exact hK _ _ hI (fun _ _ h => h) (fun _ => rfl)

end
theorem may_progS (wide high fbits ptype pbits nonref : Int) (cycle : List Int) (refs delay : Int) :
    ((((((((inAll [wide, high] 1 8 && inAll [fbits, pbits] 4 8) && inAll [ptype] 0 2) && inAll [(cycle.length : Int)] 0 4) && inAll [nonref] (-1000) 1000) && inAll cycle (-1000) 1000) && inAll [refs] 1 8) && inAll [delay] 0 refs) && fitB ptype pbits nonref cycle delay) = decide (SpsN.may ⟨wide, high, fbits, ptype, pbits, nonref, cycle, refs, delay⟩) := by
  rw [← may_prog]
  simp only [Bool.and_assoc]

set_option maxRecDepth 100000 in
set_option maxHeartbeats 4000000 in
theorem maySpsK (w : World) (kb : Nat) (s : SpsN) (ca : Option Addr) (cap : Nat) (hk : Kp w kb) (h : IntRow w ca s.cycle) (hn : s.cycle ≠ [] → ∀ g, ca = some g → g.block ≠ kb) (hl : s.cycle.length ≤ 1000000000) :
    Calls Tryz.prog 98 #[.pointer (some ⟨kb, 0, none⟩), spsV s ca cap] w fun e w' => e = .returned (.bool (decide s.may)) ∧ Kp w' kb ∧ Fr (fun k => k = kb) w w' := by
  obtain ⟨wide, high, fbits, ptype, pbits, nonref, cycle, refs, delay⟩ := s
  have hfit := fun w => fits_any w ⟨wide, high, fbits, ptype, pbits, nonref, cycle, refs, delay⟩ ca cap
  unfold spsV at hfit ⊢
  simp only at h hl hn hfit ⊢
  rw [← may_progS]
  obtain ⟨fit, hf⟩ : ∃ b, fitB ptype pbits nonref cycle delay = b := ⟨_, rfl⟩
  rw [hf] at hfit ⊢
  obtain ⟨b0, h0⟩ : ∃ b, inAll [wide, high] 1 8 = b := ⟨_, rfl⟩
  obtain ⟨b1, h1⟩ : ∃ b, inAll [fbits, pbits] 4 8 = b := ⟨_, rfl⟩
  obtain ⟨b2, h2⟩ : ∃ b, inAll [ptype] 0 2 = b := ⟨_, rfl⟩
  obtain ⟨b3, h3⟩ : ∃ b, inAll [(cycle.length : Int)] 0 4 = b := ⟨_, rfl⟩
  obtain ⟨b4, h4⟩ : ∃ b, inAll [nonref] (-1000) 1000 = b := ⟨_, rfl⟩
  obtain ⟨b5, h5⟩ : ∃ b, inAll cycle (-1000) 1000 = b := ⟨_, rfl⟩
  obtain ⟨b6, h6⟩ : ∃ b, inAll [refs] 1 8 = b := ⟨_, rfl⟩
  obtain ⟨b7, h7⟩ : ∃ b, inAll [delay] 0 refs = b := ⟨_, rfl⟩
  rw [h0, h1, h2, h3, h4, h5, h6, h7]
  have m0 : Ms w w.heap.size kb 29 #[.int .i64 wide, .int .i64 high, .int .i64 fbits, .int .i64 ptype, .int .i64 pbits, .int .i64 nonref, .slice ca cycle.length cap, .int .i64 refs, .int .i64 delay] (w.alloc (.cells #[.int .i64 wide, .int .i64 high, .int .i64 fbits, .int .i64 ptype, .int .i64 pbits, .int .i64 nonref, .slice ca cycle.length cap, .int .i64 refs, .int .i64 delay] 29)).drew := by
    refine ⟨heap_alloc_last _ _, ?_, ((Fr.refl _ _).alloc _).drew, by have := hk.lt; omega⟩
    exact hk.keep (S := fun _ => False) (((Fr.refl _ _).alloc _).drew) (fun e => e)
  have M0 := Lib.hid m0
  have HR := Lib.hid h
  have HN := Lib.hid hn
  have HF := Lib.hid hfit
  clear m0 h hn hfit hk
  go_enter Tryz.func98, Tryz.ntmps98
  go_wp2_with fail
  refine wp_region_midst (ops := ms_ops) _ (specV kb (ms_V kb w.heap.size wide high fbits ptype pbits nonref cycle refs delay ca cap b0 b1 b2 b3 b4 b5 b6 b7 fit)) (by kernel_rfl) (by kernel_rfl) M0.out (fun i hi => ?_) (fun a wz h => ?_)
  · match i, hi with | 0, _ => exact ms_s0 rfl | 1, _ => exact ms_s1 | 2, _ => exact ms_s2 rfl | 3, _ => exact ms_s3 | 4, _ => exact ms_s4 rfl | 5, _ => exact ms_s5 | 6, _ => exact ms_s6 | 7, _ => exact ms_s7 (holds_is h0 (by simp)) | 8, _ => exact ms_s8 | 9, _ => exact ms_s9 rfl | 10, _ => exact ms_s10 | 11, _ => exact ms_s11 rfl | 12, _ => exact ms_s12 | 13, _ => exact ms_s13 rfl | 14, _ => exact ms_s14 | 15, _ => exact ms_s15 | 16, _ => exact ms_s16 (holds_is h1 (by simp)) | 17, _ => exact ms_s17 | 18, _ => exact ms_s18 | 19, _ => exact ms_s19 rfl | 20, _ => exact ms_s20 | 21, _ => exact ms_s21 rfl | 22, _ => exact ms_s22 | 23, _ => exact ms_s23 | 24, _ => exact ms_s24 (holds_is h2 (by simp)) | 25, _ => exact ms_s25 | 26, _ => exact ms_s26 | 27, _ => exact ms_s27 rfl | 28, _ => exact ms_s28 | 29, _ => exact ms_s29 rfl | 30, _ => exact ms_s30 | 31, _ => exact ms_s31 | 32, _ => exact ms_s32 | 33, _ => exact ms_s33 (holds_is h3 (by simp)) | 34, _ => exact ms_s34 | 35, _ => exact ms_s35 | 36, _ => exact ms_s36 rfl | 37, _ => exact ms_s37 | 38, _ => exact ms_s38 rfl | 39, _ => exact ms_s39 | 40, _ => exact ms_s40 | 41, _ => exact ms_s41 (holds_is h4 (by simp)) | 42, _ => exact ms_s42 | 43, _ => exact ms_s43 | 44, _ => exact ms_s44 rfl | 45, _ => exact ms_s45 | 46, _ => exact ms_s46 rfl | 47, _ => exact ms_s47 | 48, _ => exact ms_s48 (fun wr hM => holds_is h5 hl wr _ _ (hM.row HR.out HN.out)) | 49, _ => exact ms_s49 | 50, _ => exact ms_s50 | 51, _ => exact ms_s51 rfl | 52, _ => exact ms_s52 | 53, _ => exact ms_s53 rfl | 54, _ => exact ms_s54 | 55, _ => exact ms_s55 | 56, _ => exact ms_s56 (holds_is h6 (by simp)) | 57, _ => exact ms_s57 | 58, _ => exact ms_s58 | 59, _ => exact ms_s59 rfl | 60, _ => exact ms_s60 | 61, _ => exact ms_s61 | 62, _ => exact ms_s62 rfl | 63, _ => exact ms_s63 | 64, _ => exact ms_s64 | 65, _ => exact ms_s65 (holds_is h7 (by simp)) | 66, _ => exact ms_s66 | 67, _ => exact ms_s67 | 68, _ => exact ms_s68 rfl | 69, _ => exact ms_s69 HF.out | 70, _ => exact ms_s70 | 71, _ => exact ms_s71 | k + 72, h => exact absurd h (by simp [ms_ops])
  · obtain ⟨v, t2, e2⟩ := h.get 71 4 (by kernel_rfl)
    obtain rfl := e2 rfl
    have hd := h.defers
    have MF := h.inv
    clear h
    go_wp2_with fail
    refine bodyPost_ret (v := .bool ((((((((b0 && b1) && b2) && b3) && b4) && b5) && b6) && b7) && fit)) (by simp [results, Tryz.results98, go_sem, t2]) hd ⟨rfl, MF.2.1, MF.2.2.1⟩
end Go.Proofs.YthcbgijmnonckaaGreat
