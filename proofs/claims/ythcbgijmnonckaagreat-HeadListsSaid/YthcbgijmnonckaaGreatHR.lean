/- Layer 4: the program's mayBegin: its region, operation by operation. -/
import Derived.Test.YthcbgijmnonckaaGreatHP
namespace Go.Proofs.YthcbgijmnonckaaGreat
open Go.RowKit Zo Zp
set_option linter.unusedVariables false

def mb_o0 : Oper := { dst := some 13, op := Op.fieldAddr 26 (Operand.tmp 3) 0, type := 0, pos := "may.go:75", after := #[], guard := none }
def mb_o1 : Oper := { dst := some 14, op := Op.load 3 (Operand.tmp 13), type := 3, pos := "may.go:75", after := #[{ on := 0, ground := Ground.data }], guard := none }
def mb_o2 : Oper := { dst := some 15, op := Op.move (Operand.tmp 5), type := 3, pos := "may.go:75", after := #[], guard := none }
def mb_o3 : Oper := { dst := some 16, op := Op.call { callee := Callee.value (Operand.func 75), args := #[Operand.tmp 14, Operand.const (Value.int IntKind.i64 0), Operand.tmp 15], argTypes := #[3, 3, 3] }, type := 4, pos := "may.go:75", after := #[{ on := 1, ground := Ground.data }, { on := 2, ground := Ground.data }], guard := none }
def mb_o4 : Oper := { dst := some 17, op := Op.move (Operand.tmp 16), type := 4, pos := "may.go:75", after := #[{ on := 3, ground := Ground.data }, { on := 3, ground := Ground.chain }], guard := none }
def mb_o5 : Oper := { dst := some 18, op := Op.fieldAddr 26 (Operand.tmp 3) 1, type := 0, pos := "may.go:75", after := #[{ on := 4, ground := Ground.guard }], guard := some (4, true) }
def mb_o6 : Oper := { dst := some 19, op := Op.load 3 (Operand.tmp 18), type := 3, pos := "may.go:75", after := #[{ on := 5, ground := Ground.data }, { on := 4, ground := Ground.guard }], guard := some (4, true) }
def mb_o7 : Oper := { dst := some 20, op := Op.move (Operand.tmp 5), type := 3, pos := "may.go:75", after := #[{ on := 4, ground := Ground.guard }], guard := some (4, true) }
def mb_o8 : Oper := { dst := some 21, op := Op.fieldAddr 26 (Operand.tmp 3) 0, type := 0, pos := "may.go:75", after := #[{ on := 4, ground := Ground.guard }], guard := some (4, true) }
def mb_o9 : Oper := { dst := some 22, op := Op.load 3 (Operand.tmp 21), type := 3, pos := "may.go:75", after := #[{ on := 8, ground := Ground.data }, { on := 4, ground := Ground.guard }], guard := some (4, true) }
def mb_o10 : Oper := { dst := some 23, op := Op.binOp BinOp.sub 3 (Operand.tmp 20) (Operand.tmp 22) 3, type := 3, pos := "may.go:75", after := #[{ on := 7, ground := Ground.data }, { on := 9, ground := Ground.data }, { on := 4, ground := Ground.guard }], guard := some (4, true) }
def mb_o11 : Oper := { dst := some 24, op := Op.call { callee := Callee.value (Operand.func 75), args := #[Operand.tmp 19, Operand.const (Value.int IntKind.i64 1), Operand.tmp 23], argTypes := #[3, 3, 3] }, type := 4, pos := "may.go:75", after := #[{ on := 6, ground := Ground.data }, { on := 10, ground := Ground.data }, { on := 4, ground := Ground.chain }, { on := 4, ground := Ground.guard }], guard := some (4, true) }
def mb_o12 : Oper := { dst := some 25, op := Op.pick (Operand.tmp 17) (Operand.tmp 24) (Operand.const (Value.bool false)), type := 4, pos := "may.go:75", after := #[{ on := 4, ground := Ground.data }, { on := 11, ground := Ground.data }], guard := none }
def mb_o13 : Oper := { dst := some 26, op := Op.move (Operand.tmp 25), type := 4, pos := "may.go:75", after := #[{ on := 12, ground := Ground.data }, { on := 11, ground := Ground.chain }], guard := none }
def mb_o14 : Oper := { dst := some 27, op := Op.fieldAddr 26 (Operand.tmp 3) 2, type := 0, pos := "may.go:75", after := #[{ on := 13, ground := Ground.guard }], guard := some (13, true) }
def mb_o15 : Oper := { dst := some 28, op := Op.load 3 (Operand.tmp 27), type := 3, pos := "may.go:75", after := #[{ on := 14, ground := Ground.data }, { on := 13, ground := Ground.guard }], guard := some (13, true) }
def mb_o16 : Oper := { dst := some 29, op := Op.call { callee := Callee.value (Operand.func 75), args := #[Operand.tmp 28, Operand.const (Value.int IntKind.i64 0), Operand.const (Value.int IntKind.i64 2)], argTypes := #[3, 3, 3] }, type := 4, pos := "may.go:76", after := #[{ on := 15, ground := Ground.data }, { on := 13, ground := Ground.chain }, { on := 13, ground := Ground.guard }], guard := some (13, true) }
def mb_o17 : Oper := { dst := some 30, op := Op.pick (Operand.tmp 26) (Operand.tmp 29) (Operand.const (Value.bool false)), type := 4, pos := "may.go:75", after := #[{ on := 13, ground := Ground.data }, { on := 16, ground := Ground.data }], guard := none }
def mb_o18 : Oper := { dst := some 31, op := Op.move (Operand.tmp 30), type := 4, pos := "may.go:75", after := #[{ on := 17, ground := Ground.data }, { on := 16, ground := Ground.chain }], guard := none }
def mb_o19 : Oper := { dst := some 32, op := Op.fieldAddr 26 (Operand.tmp 3) 2, type := 0, pos := "may.go:75", after := #[{ on := 18, ground := Ground.guard }], guard := some (18, true) }
def mb_o20 : Oper := { dst := some 33, op := Op.load 3 (Operand.tmp 32), type := 3, pos := "may.go:75", after := #[{ on := 19, ground := Ground.data }, { on := 18, ground := Ground.guard }], guard := some (18, true) }
def mb_o21 : Oper := { dst := some 34, op := Op.binOp BinOp.eql 3 (Operand.tmp 33) (Operand.const (Value.int IntKind.i64 2)) 3, type := 4, pos := "may.go:75", after := #[{ on := 20, ground := Ground.data }, { on := 18, ground := Ground.guard }], guard := some (18, true) }
def mb_o22 : Oper := { dst := some 35, op := Op.move (Operand.tmp 34), type := 4, pos := "may.go:75", after := #[{ on := 21, ground := Ground.data }, { on := 18, ground := Ground.chain }, { on := 18, ground := Ground.guard }], guard := some (18, true) }
def mb_o23 : Oper := { dst := some 36, op := Op.fieldAddr 87 (Operand.tmp 2) 3, type := 0, pos := "may.go:75", after := #[{ on := 22, ground := Ground.guard }], guard := some (22, false) }
def mb_o24 : Oper := { dst := some 37, op := Op.load 4 (Operand.tmp 36), type := 4, pos := "may.go:75", after := #[{ on := 23, ground := Ground.data }, { on := 22, ground := Ground.guard }], guard := some (22, false) }
def mb_o25 : Oper := { dst := some 38, op := Op.unOp UnOp.not 4 (Operand.tmp 37), type := 4, pos := "may.go:75", after := #[{ on := 24, ground := Ground.data }, { on := 22, ground := Ground.guard }], guard := some (22, false) }
def mb_o26 : Oper := { dst := some 39, op := Op.pick (Operand.tmp 35) (Operand.const (Value.bool true)) (Operand.tmp 38), type := 4, pos := "may.go:75", after := #[{ on := 22, ground := Ground.data }, { on := 25, ground := Ground.data }, { on := 18, ground := Ground.guard }], guard := some (18, true) }
def mb_o27 : Oper := { dst := some 40, op := Op.pick (Operand.tmp 31) (Operand.tmp 39) (Operand.const (Value.bool false)), type := 4, pos := "may.go:75", after := #[{ on := 18, ground := Ground.data }, { on := 26, ground := Ground.data }], guard := none }
def mb_o28 : Oper := { dst := some 41, op := Op.move (Operand.tmp 40), type := 4, pos := "may.go:75", after := #[{ on := 27, ground := Ground.data }, { on := 22, ground := Ground.chain }], guard := none }
def mb_o29 : Oper := { dst := some 42, op := Op.fieldAddr 26 (Operand.tmp 3) 3, type := 0, pos := "may.go:75", after := #[{ on := 28, ground := Ground.guard }], guard := some (28, true) }
def mb_o30 : Oper := { dst := some 43, op := Op.load 3 (Operand.tmp 42), type := 3, pos := "may.go:75", after := #[{ on := 29, ground := Ground.data }, { on := 28, ground := Ground.guard }], guard := some (28, true) }
def mb_o31 : Oper := { dst := some 44, op := Op.fieldAddr 87 (Operand.tmp 2) 3, type := 0, pos := "may.go:75", after := #[{ on := 28, ground := Ground.guard }], guard := some (28, true) }
def mb_o32 : Oper := { dst := some 45, op := Op.load 4 (Operand.tmp 44), type := 4, pos := "may.go:75", after := #[{ on := 31, ground := Ground.data }, { on := 28, ground := Ground.guard }], guard := some (28, true) }
def mb_o33 : Oper := { dst := some 46, op := Op.unOp UnOp.not 4 (Operand.tmp 45), type := 4, pos := "may.go:75", after := #[{ on := 32, ground := Ground.data }, { on := 28, ground := Ground.guard }], guard := some (28, true) }
def mb_o34 : Oper := { dst := some 47, op := Op.fieldAddr 87 (Operand.tmp 2) 0, type := 0, pos := "may.go:75", after := #[{ on := 28, ground := Ground.guard }], guard := some (28, true) }
def mb_o35 : Oper := { dst := some 48, op := Op.fieldAddr 29 (Operand.tmp 47) 2, type := 0, pos := "may.go:75", after := #[{ on := 34, ground := Ground.data }, { on := 28, ground := Ground.guard }], guard := some (28, true) }
def mb_o36 : Oper := { dst := some 49, op := Op.load 3 (Operand.tmp 48), type := 3, pos := "may.go:75", after := #[{ on := 35, ground := Ground.data }, { on := 28, ground := Ground.guard }], guard := some (28, true) }
def mb_o37 : Oper := { dst := some 50, op := Op.binOp BinOp.shl 3 (Operand.const (Value.int IntKind.i64 1)) (Operand.tmp 49) 3, type := 3, pos := "may.go:75", after := #[{ on := 36, ground := Ground.data }, { on := 28, ground := Ground.guard }], guard := some (28, true) }
def mb_o38 : Oper := { dst := some 51, op := Op.binOp BinOp.sub 3 (Operand.tmp 50) (Operand.const (Value.int IntKind.i64 1)) 3, type := 3, pos := "may.go:75", after := #[{ on := 37, ground := Ground.data }, { on := 28, ground := Ground.guard }], guard := some (28, true) }
def mb_o39 : Oper := { dst := some 52, op := Op.call { callee := Callee.value (Operand.func 101), args := #[Operand.tmp 46, Operand.tmp 51], argTypes := #[4, 3] }, type := 3, pos := "may.go:77", after := #[{ on := 33, ground := Ground.data }, { on := 38, ground := Ground.data }, { on := 28, ground := Ground.chain }, { on := 28, ground := Ground.guard }], guard := some (28, true) }
def mb_o40 : Oper := { dst := some 53, op := Op.call { callee := Callee.value (Operand.func 75), args := #[Operand.tmp 43, Operand.const (Value.int IntKind.i64 0), Operand.tmp 52], argTypes := #[3, 3, 3] }, type := 4, pos := "may.go:77", after := #[{ on := 30, ground := Ground.data }, { on := 39, ground := Ground.data }, { on := 39, ground := Ground.chain }, { on := 28, ground := Ground.guard }], guard := some (28, true) }
def mb_o41 : Oper := { dst := some 54, op := Op.pick (Operand.tmp 41) (Operand.tmp 53) (Operand.const (Value.bool false)), type := 4, pos := "may.go:75", after := #[{ on := 28, ground := Ground.data }, { on := 40, ground := Ground.data }], guard := none }
def mb_o42 : Oper := { dst := some 55, op := Op.move (Operand.tmp 54), type := 4, pos := "may.go:75", after := #[{ on := 41, ground := Ground.data }, { on := 40, ground := Ground.chain }], guard := none }
def mb_o43 : Oper := { dst := some 56, op := Op.fieldAddr 26 (Operand.tmp 3) 4, type := 0, pos := "may.go:75", after := #[{ on := 42, ground := Ground.guard }], guard := some (42, true) }
def mb_o44 : Oper := { dst := some 57, op := Op.load 3 (Operand.tmp 56), type := 3, pos := "may.go:75", after := #[{ on := 43, ground := Ground.data }, { on := 42, ground := Ground.guard }], guard := some (42, true) }
def mb_o45 : Oper := { dst := some 58, op := Op.fieldAddr 87 (Operand.tmp 2) 3, type := 0, pos := "may.go:75", after := #[{ on := 42, ground := Ground.guard }], guard := some (42, true) }
def mb_o46 : Oper := { dst := some 59, op := Op.load 4 (Operand.tmp 58), type := 4, pos := "may.go:75", after := #[{ on := 45, ground := Ground.data }, { on := 42, ground := Ground.guard }], guard := some (42, true) }
def mb_o47 : Oper := { dst := some 60, op := Op.call { callee := Callee.value (Operand.func 101), args := #[Operand.tmp 59, Operand.const (Value.int IntKind.i64 255)], argTypes := #[4, 3] }, type := 3, pos := "may.go:78", after := #[{ on := 46, ground := Ground.data }, { on := 42, ground := Ground.chain }, { on := 42, ground := Ground.guard }], guard := some (42, true) }
def mb_o48 : Oper := { dst := some 61, op := Op.call { callee := Callee.value (Operand.func 75), args := #[Operand.tmp 57, Operand.const (Value.int IntKind.i64 0), Operand.tmp 60], argTypes := #[3, 3, 3] }, type := 4, pos := "may.go:78", after := #[{ on := 44, ground := Ground.data }, { on := 47, ground := Ground.data }, { on := 47, ground := Ground.chain }, { on := 42, ground := Ground.guard }], guard := some (42, true) }
def mb_o49 : Oper := { dst := some 62, op := Op.pick (Operand.tmp 55) (Operand.tmp 61) (Operand.const (Value.bool false)), type := 4, pos := "may.go:75", after := #[{ on := 42, ground := Ground.data }, { on := 48, ground := Ground.data }], guard := none }
def mb_o50 : Oper := { dst := some 63, op := Op.move (Operand.tmp 62), type := 4, pos := "may.go:75", after := #[{ on := 49, ground := Ground.data }, { on := 48, ground := Ground.chain }], guard := none }
def mb_o51 : Oper := { dst := some 64, op := Op.fieldAddr 26 (Operand.tmp 3) 5, type := 0, pos := "may.go:75", after := #[{ on := 50, ground := Ground.guard }], guard := some (50, true) }
def mb_o52 : Oper := { dst := some 65, op := Op.load 3 (Operand.tmp 64), type := 3, pos := "may.go:75", after := #[{ on := 51, ground := Ground.data }, { on := 50, ground := Ground.guard }], guard := some (50, true) }
def mb_o53 : Oper := { dst := some 66, op := Op.fieldAddr 87 (Operand.tmp 2) 0, type := 0, pos := "may.go:75", after := #[{ on := 50, ground := Ground.guard }], guard := some (50, true) }
def mb_o54 : Oper := { dst := some 67, op := Op.fieldAddr 29 (Operand.tmp 66) 3, type := 0, pos := "may.go:75", after := #[{ on := 53, ground := Ground.data }, { on := 50, ground := Ground.guard }], guard := some (50, true) }
def mb_o55 : Oper := { dst := some 68, op := Op.load 3 (Operand.tmp 67), type := 3, pos := "may.go:75", after := #[{ on := 54, ground := Ground.data }, { on := 50, ground := Ground.guard }], guard := some (50, true) }
def mb_o56 : Oper := { dst := some 69, op := Op.binOp BinOp.eql 3 (Operand.tmp 68) (Operand.const (Value.int IntKind.i64 0)) 3, type := 4, pos := "may.go:75", after := #[{ on := 55, ground := Ground.data }, { on := 50, ground := Ground.guard }], guard := some (50, true) }
def mb_o57 : Oper := { dst := some 70, op := Op.fieldAddr 87 (Operand.tmp 2) 0, type := 0, pos := "may.go:75", after := #[{ on := 50, ground := Ground.guard }], guard := some (50, true) }
def mb_o58 : Oper := { dst := some 71, op := Op.fieldAddr 29 (Operand.tmp 70) 4, type := 0, pos := "may.go:75", after := #[{ on := 57, ground := Ground.data }, { on := 50, ground := Ground.guard }], guard := some (50, true) }
def mb_o59 : Oper := { dst := some 72, op := Op.load 3 (Operand.tmp 71), type := 3, pos := "may.go:75", after := #[{ on := 58, ground := Ground.data }, { on := 50, ground := Ground.guard }], guard := some (50, true) }
def mb_o60 : Oper := { dst := some 73, op := Op.binOp BinOp.shl 3 (Operand.const (Value.int IntKind.i64 1)) (Operand.tmp 72) 3, type := 3, pos := "may.go:75", after := #[{ on := 59, ground := Ground.data }, { on := 50, ground := Ground.guard }], guard := some (50, true) }
def mb_o61 : Oper := { dst := some 74, op := Op.binOp BinOp.sub 3 (Operand.tmp 73) (Operand.const (Value.int IntKind.i64 1)) 3, type := 3, pos := "may.go:75", after := #[{ on := 60, ground := Ground.data }, { on := 50, ground := Ground.guard }], guard := some (50, true) }
def mb_o62 : Oper := { dst := some 75, op := Op.call { callee := Callee.value (Operand.func 101), args := #[Operand.tmp 69, Operand.tmp 74], argTypes := #[4, 3] }, type := 3, pos := "may.go:79", after := #[{ on := 56, ground := Ground.data }, { on := 61, ground := Ground.data }, { on := 50, ground := Ground.chain }, { on := 50, ground := Ground.guard }], guard := some (50, true) }
def mb_o63 : Oper := { dst := some 76, op := Op.call { callee := Callee.value (Operand.func 75), args := #[Operand.tmp 65, Operand.const (Value.int IntKind.i64 0), Operand.tmp 75], argTypes := #[3, 3, 3] }, type := 4, pos := "may.go:79", after := #[{ on := 52, ground := Ground.data }, { on := 62, ground := Ground.data }, { on := 62, ground := Ground.chain }, { on := 50, ground := Ground.guard }], guard := some (50, true) }
def mb_o64 : Oper := { dst := some 77, op := Op.pick (Operand.tmp 63) (Operand.tmp 76) (Operand.const (Value.bool false)), type := 4, pos := "may.go:75", after := #[{ on := 50, ground := Ground.data }, { on := 63, ground := Ground.data }], guard := none }
def mb_o65 : Oper := { dst := some 78, op := Op.move (Operand.tmp 77), type := 4, pos := "may.go:75", after := #[{ on := 64, ground := Ground.data }, { on := 63, ground := Ground.chain }], guard := none }
def mb_o66 : Oper := { dst := some 79, op := Op.fieldAddr 26 (Operand.tmp 3) 2, type := 0, pos := "may.go:75", after := #[{ on := 65, ground := Ground.guard }], guard := some (65, true) }
def mb_o67 : Oper := { dst := some 80, op := Op.load 3 (Operand.tmp 79), type := 3, pos := "may.go:75", after := #[{ on := 66, ground := Ground.data }, { on := 65, ground := Ground.guard }], guard := some (65, true) }
def mb_o68 : Oper := { dst := some 81, op := Op.binOp BinOp.eql 3 (Operand.tmp 80) (Operand.const (Value.int IntKind.i64 1)) 3, type := 4, pos := "may.go:75", after := #[{ on := 67, ground := Ground.data }, { on := 65, ground := Ground.guard }], guard := some (65, true) }
def mb_o69 : Oper := { dst := some 82, op := Op.move (Operand.tmp 81), type := 4, pos := "may.go:75", after := #[{ on := 68, ground := Ground.data }, { on := 65, ground := Ground.chain }, { on := 65, ground := Ground.guard }], guard := some (65, true) }
def mb_o70 : Oper := { dst := some 83, op := Op.fieldAddr 26 (Operand.tmp 3) 6, type := 0, pos := "may.go:75", after := #[{ on := 69, ground := Ground.guard }], guard := some (69, false) }
def mb_o71 : Oper := { dst := some 84, op := Op.load 4 (Operand.tmp 83), type := 4, pos := "may.go:75", after := #[{ on := 70, ground := Ground.data }, { on := 69, ground := Ground.guard }], guard := some (69, false) }
def mb_o72 : Oper := { dst := some 85, op := Op.unOp UnOp.not 4 (Operand.tmp 84), type := 4, pos := "may.go:75", after := #[{ on := 71, ground := Ground.data }, { on := 69, ground := Ground.guard }], guard := some (69, false) }
def mb_o73 : Oper := { dst := some 86, op := Op.pick (Operand.tmp 82) (Operand.const (Value.bool true)) (Operand.tmp 85), type := 4, pos := "may.go:75", after := #[{ on := 69, ground := Ground.data }, { on := 72, ground := Ground.data }, { on := 65, ground := Ground.guard }], guard := some (65, true) }
def mb_o74 : Oper := { dst := some 87, op := Op.pick (Operand.tmp 78) (Operand.tmp 86) (Operand.const (Value.bool false)), type := 4, pos := "may.go:75", after := #[{ on := 65, ground := Ground.data }, { on := 73, ground := Ground.data }], guard := none }
def mb_o75 : Oper := { dst := some 4, op := Op.assign (Operand.tmp 87), type := 4, pos := "may.go:75", after := ([{ on := 74, ground := Ground.data }, { on := 69, ground := Ground.chain }, { on := 0, ground := Ground.phase }, { on := 1, ground := Ground.phase }, { on := 2, ground := Ground.phase }, { on := 3, ground := Ground.phase }, { on := 4, ground := Ground.phase }, { on := 5, ground := Ground.phase }, { on := 6, ground := Ground.phase }, { on := 7, ground := Ground.phase }, { on := 8, ground := Ground.phase }, { on := 9, ground := Ground.phase }, { on := 10, ground := Ground.phase }, { on := 11, ground := Ground.phase }, { on := 12, ground := Ground.phase }, { on := 13, ground := Ground.phase }, { on := 14, ground := Ground.phase }, { on := 15, ground := Ground.phase }, { on := 16, ground := Ground.phase }, { on := 17, ground := Ground.phase }, { on := 18, ground := Ground.phase }, { on := 19, ground := Ground.phase }, { on := 20, ground := Ground.phase }, { on := 21, ground := Ground.phase }, { on := 22, ground := Ground.phase }, { on := 23, ground := Ground.phase }, { on := 24, ground := Ground.phase }, { on := 25, ground := Ground.phase }, { on := 26, ground := Ground.phase }, { on := 27, ground := Ground.phase }, { on := 28, ground := Ground.phase }, { on := 29, ground := Ground.phase }, { on := 30, ground := Ground.phase }, { on := 31, ground := Ground.phase }, { on := 32, ground := Ground.phase }, { on := 33, ground := Ground.phase }, { on := 34, ground := Ground.phase }, { on := 35, ground := Ground.phase }].append [{ on := 36, ground := Ground.phase }, { on := 37, ground := Ground.phase }, { on := 38, ground := Ground.phase }, { on := 39, ground := Ground.phase }, { on := 40, ground := Ground.phase }, { on := 41, ground := Ground.phase }, { on := 42, ground := Ground.phase }, { on := 43, ground := Ground.phase }, { on := 44, ground := Ground.phase }, { on := 45, ground := Ground.phase }, { on := 46, ground := Ground.phase }, { on := 47, ground := Ground.phase }, { on := 48, ground := Ground.phase }, { on := 49, ground := Ground.phase }, { on := 50, ground := Ground.phase }, { on := 51, ground := Ground.phase }, { on := 52, ground := Ground.phase }, { on := 53, ground := Ground.phase }, { on := 54, ground := Ground.phase }, { on := 55, ground := Ground.phase }, { on := 56, ground := Ground.phase }, { on := 57, ground := Ground.phase }, { on := 58, ground := Ground.phase }, { on := 59, ground := Ground.phase }, { on := 60, ground := Ground.phase }, { on := 61, ground := Ground.phase }, { on := 62, ground := Ground.phase }, { on := 63, ground := Ground.phase }, { on := 64, ground := Ground.phase }, { on := 65, ground := Ground.phase }, { on := 66, ground := Ground.phase }, { on := 67, ground := Ground.phase }, { on := 68, ground := Ground.phase }, { on := 69, ground := Ground.phase }, { on := 70, ground := Ground.phase }, { on := 71, ground := Ground.phase }, { on := 72, ground := Ground.phase }, { on := 73, ground := Ground.phase }, { on := 74, ground := Ground.phase }]).toArray, guard := none }
def mb_ops : Array Oper := #[mb_o0, mb_o1, mb_o2, mb_o3, mb_o4, mb_o5, mb_o6, mb_o7, mb_o8, mb_o9, mb_o10, mb_o11, mb_o12, mb_o13, mb_o14, mb_o15, mb_o16, mb_o17, mb_o18, mb_o19, mb_o20, mb_o21, mb_o22, mb_o23, mb_o24, mb_o25, mb_o26, mb_o27, mb_o28, mb_o29, mb_o30, mb_o31, mb_o32, mb_o33, mb_o34, mb_o35, mb_o36, mb_o37, mb_o38, mb_o39, mb_o40, mb_o41, mb_o42, mb_o43, mb_o44, mb_o45, mb_o46, mb_o47, mb_o48, mb_o49, mb_o50, mb_o51, mb_o52, mb_o53, mb_o54, mb_o55, mb_o56, mb_o57, mb_o58, mb_o59, mb_o60, mb_o61, mb_o62, mb_o63, mb_o64, mb_o65, mb_o66, mb_o67, mb_o68, mb_o69, mb_o70, mb_o71, mb_o72, mb_o73, mb_o74, mb_o75]
def mb_V (ub hb : Nat) (s : SpsN) (sa : Option Addr) (scap : Nat) (p : PpsN) (ref : Int) (key : Bool) (h : HeadN) (m0 m1 q0 q1 os : Option Addr) (m0c m1c q0c q1c osc : Nat) (room : Int) (x3 : Bool) (x10 : Int) (x11 : Bool) (x12 : Bool) (x16 : Bool) (x17 : Bool) (x21 : Bool) (x25 : Bool) (x26 : Bool) (x27 : Bool) (x33 : Bool) (x37 : Int) (x38 : Int) (x39 : Int) (x40 : Bool) (x41 : Bool) (x47 : Int) (x48 : Bool) (x49 : Bool) (x56 : Bool) (x60 : Int) (x61 : Int) (x62 : Int) (x63 : Bool) (x64 : Bool) (x68 : Bool) (x72 : Bool) (x73 : Bool) (x74 : Bool) : List (Bool × Value) := [(true, .pointer (some ⟨hb, 0, none⟩)), (true, .int .i64 h.first), (true, .int .i64 room), (true, .bool x3), (true, .bool x3), ((true && (x3 == true)), .pointer (some ⟨hb, 1, none⟩)), ((true && (x3 == true)), .int .i64 h.count), ((true && (x3 == true)), .int .i64 room), ((true && (x3 == true)), .pointer (some ⟨hb, 0, none⟩)), ((true && (x3 == true)), .int .i64 h.first), ((true && (x3 == true)), .int .i64 x10), ((true && (x3 == true)), .bool x11), (true, .bool x12), (true, .bool x12), ((true && (x12 == true)), .pointer (some ⟨hb, 2, none⟩)), ((true && (x12 == true)), .int .i64 h.type), ((true && (x12 == true)), .bool x16), (true, .bool x17), (true, .bool x17), ((true && (x17 == true)), .pointer (some ⟨hb, 2, none⟩)), ((true && (x17 == true)), .int .i64 h.type), ((true && (x17 == true)), .bool x21), ((true && (x17 == true)), .bool x21), (((true && (x17 == true)) && (x21 == false)), .pointer (some ⟨ub, 19, none⟩)), (((true && (x17 == true)) && (x21 == false)), .bool key), (((true && (x17 == true)) && (x21 == false)), .bool x25), ((true && (x17 == true)), .bool x26), (true, .bool x27), (true, .bool x27), ((true && (x27 == true)), .pointer (some ⟨hb, 3, none⟩)), ((true && (x27 == true)), .int .i64 h.fnum), ((true && (x27 == true)), .pointer (some ⟨ub, 19, none⟩)), ((true && (x27 == true)), .bool key), ((true && (x27 == true)), .bool x33), ((true && (x27 == true)), .pointer (some ⟨ub, 0, none⟩)), ((true && (x27 == true)), .pointer (some ⟨ub, 2, none⟩)), ((true && (x27 == true)), .int .i64 s.fbits), ((true && (x27 == true)), .int .i64 x37), ((true && (x27 == true)), .int .i64 x38), ((true && (x27 == true)), .int .i64 x39), ((true && (x27 == true)), .bool x40), (true, .bool x41), (true, .bool x41), ((true && (x41 == true)), .pointer (some ⟨hb, 4, none⟩)), ((true && (x41 == true)), .int .i64 h.id), ((true && (x41 == true)), .pointer (some ⟨ub, 19, none⟩)), ((true && (x41 == true)), .bool key), ((true && (x41 == true)), .int .i64 x47), ((true && (x41 == true)), .bool x48), (true, .bool x49), (true, .bool x49), ((true && (x49 == true)), .pointer (some ⟨hb, 5, none⟩)), ((true && (x49 == true)), .int .i64 h.poc), ((true && (x49 == true)), .pointer (some ⟨ub, 0, none⟩)), ((true && (x49 == true)), .pointer (some ⟨ub, 3, none⟩)), ((true && (x49 == true)), .int .i64 s.ptype), ((true && (x49 == true)), .bool x56), ((true && (x49 == true)), .pointer (some ⟨ub, 0, none⟩)), ((true && (x49 == true)), .pointer (some ⟨ub, 4, none⟩)), ((true && (x49 == true)), .int .i64 s.pbits), ((true && (x49 == true)), .int .i64 x60), ((true && (x49 == true)), .int .i64 x61), ((true && (x49 == true)), .int .i64 x62), ((true && (x49 == true)), .bool x63), (true, .bool x64), (true, .bool x64), ((true && (x64 == true)), .pointer (some ⟨hb, 2, none⟩)), ((true && (x64 == true)), .int .i64 h.type), ((true && (x64 == true)), .bool x68), ((true && (x64 == true)), .bool x68), (((true && (x64 == true)) && (x68 == false)), .pointer (some ⟨hb, 6, none⟩)), (((true && (x64 == true)) && (x68 == false)), .bool h.spatial), (((true && (x64 == true)) && (x68 == false)), .bool x72), ((true && (x64 == true)), .bool x73), (true, .bool x74), (true, .bool x74)]
section
set_option maxRecDepth 100000
set_option maxHeartbeats 1000000
variable {ub hb : Nat} {s : SpsN} {sa : Option Addr} {scap : Nat} {p : PpsN} {ref : Int} {key : Bool} {h : HeadN} {m0 m1 q0 q1 os : Option Addr} {m0c m1c q0c q1c osc : Nat} {room : Int} {x3 : Bool} {x10 : Int} {x11 : Bool} {x12 : Bool} {x16 : Bool} {x17 : Bool} {x21 : Bool} {x25 : Bool} {x26 : Bool} {x27 : Bool} {x33 : Bool} {x37 : Int} {x38 : Int} {x39 : Int} {x40 : Bool} {x41 : Bool} {x47 : Int} {x48 : Bool} {x49 : Bool} {x56 : Bool} {x60 : Int} {x61 : Int} {x62 : Int} {x63 : Bool} {x64 : Bool} {x68 : Bool} {x72 : Bool} {x73 : Bool} {x74 : Bool} {Q : Exit → Act → World → Prop} {a0 : Act} {W0 : World}
theorem mb_s0 (A3 : a0.tmps[3]? = some (.pointer (some ⟨hb, 0, none⟩))) : StepOk Tryz.prog mb_ops Q a0 (qI W0) (qV (mb_V ub hb s sa scap p ref key h m0 m1 q0 q1 os m0c m1c q0c q1c osc room x3 x10 x11 x12 x16 x17 x21 x25 x26 x27 x33 x37 x38 x39 x40 x41 x47 x48 x49 x56 x60 x61 x62 x63 x64 x68 x72 x73 x74)) 0 := by
  refine stepP mb_o0 (by kernel_rfl) rfl rfl ?_
  intro a w ho hI hp hB K hK
  have t3 := (ho 3 (by kernel_rfl)).trans A3
  have e3 := eval_slot t3
  clear ho hp
  unfold mb_o0
  go_simp
  exact hK _ _ hI rfl
theorem mb_s1 (Y : W0.heap[hb]? = some (.cells #[.int .i64 h.first, .int .i64 h.count, .int .i64 h.type, .int .i64 h.fnum, .int .i64 h.id, .int .i64 h.poc, .bool h.spatial, .int .i64 h.act0, .int .i64 h.act1, .slice m0 h.mods0.length m0c, .slice m1 h.mods1.length m1c, .int .i64 h.log, .int .i64 h.logc, .slice q0 h.w0.length q0c, .slice q1 h.w1.length q1c, .bool h.longkey, .slice os h.ops.length osc, .int .i64 h.qp, .bool h.off, .int .i64 h.a, .int .i64 h.b] 26 (0, 0))) : StepOk Tryz.prog mb_ops Q a0 (qI W0) (qV (mb_V ub hb s sa scap p ref key h m0 m1 q0 q1 os m0c m1c q0c q1c osc room x3 x10 x11 x12 x16 x17 x21 x25 x26 x27 x33 x37 x38 x39 x40 x41 x47 x48 x49 x56 x60 x61 x62 x63 x64 x68 x72 x73 x74)) 1 := by
  refine stepP mb_o1 (by kernel_rfl) rfl rfl ?_
  intro a w ho hI hp hB K hK
  have t13 : a.tmps[13]? = some (.pointer (some ⟨hb, 0, none⟩)) := qt (hp 0 13 (by kernel_rfl)) _ rfl rfl
  have e13 := eval_slot t13
  clear ho hp
  have c0 := qcell hI Y 0 (.int .i64 h.first) rfl
  unfold mb_o1
  go_simp
  exact hK _ _ hI rfl
theorem mb_s2 (A5 : a0.tmps[5]? = some (.int .i64 room)) : StepOk Tryz.prog mb_ops Q a0 (qI W0) (qV (mb_V ub hb s sa scap p ref key h m0 m1 q0 q1 os m0c m1c q0c q1c osc room x3 x10 x11 x12 x16 x17 x21 x25 x26 x27 x33 x37 x38 x39 x40 x41 x47 x48 x49 x56 x60 x61 x62 x63 x64 x68 x72 x73 x74)) 2 := by
  refine stepP mb_o2 (by kernel_rfl) rfl rfl ?_
  intro a w ho hI hp hB K hK
  have t5 := (ho 5 (by kernel_rfl)).trans A5
  have e5 := eval_slot t5
  clear ho hp
  unfold mb_o2
  go_simp
  exact hK _ _ hI rfl
theorem mb_s3 (hx : x3 = (inB h.first 0 room)) : StepOk Tryz.prog mb_ops Q a0 (qI W0) (qV (mb_V ub hb s sa scap p ref key h m0 m1 q0 q1 os m0c m1c q0c q1c osc room x3 x10 x11 x12 x16 x17 x21 x25 x26 x27 x33 x37 x38 x39 x40 x41 x47 x48 x49 x56 x60 x61 x62 x63 x64 x68 x72 x73 x74)) 3 := by
  refine stepP mb_o3 (by kernel_rfl) rfl rfl ?_
  intro a w ho hI hp hB K hK
  have t14 : a.tmps[14]? = some (.int .i64 h.first) := qt (hp 1 14 (by kernel_rfl)) _ rfl rfl
  have e14 := eval_slot t14
  have t15 : a.tmps[15]? = some (.int .i64 room) := qt (hp 2 15 (by kernel_rfl)) _ rfl rfl
  have e15 := eval_slot t15
  clear ho hp
  unfold mb_o3
  go_simp
  refine (within_any _ _ _ _).mono ?_
  rintro e w' ⟨rfl, rfl⟩
  exact hK _ _ hI (congrArg (Value.bool) hx.symm)
theorem mb_s4 : StepOk Tryz.prog mb_ops Q a0 (qI W0) (qV (mb_V ub hb s sa scap p ref key h m0 m1 q0 q1 os m0c m1c q0c q1c osc room x3 x10 x11 x12 x16 x17 x21 x25 x26 x27 x33 x37 x38 x39 x40 x41 x47 x48 x49 x56 x60 x61 x62 x63 x64 x68 x72 x73 x74)) 4 := by
  refine stepP mb_o4 (by kernel_rfl) rfl rfl ?_
  intro a w ho hI hp hB K hK
  have t16 : a.tmps[16]? = some (.bool x3) := qt (hp 3 16 (by kernel_rfl)) _ rfl rfl
  have e16 := eval_slot t16
  clear ho hp
  unfold mb_o4
  go_simp
  exact hK _ _ hI rfl
theorem mb_s5 (A3 : a0.tmps[3]? = some (.pointer (some ⟨hb, 0, none⟩))) : StepOk Tryz.prog mb_ops Q a0 (qI W0) (qV (mb_V ub hb s sa scap p ref key h m0 m1 q0 q1 os m0c m1c q0c q1c osc room x3 x10 x11 x12 x16 x17 x21 x25 x26 x27 x33 x37 x38 x39 x40 x41 x47 x48 x49 x56 x60 x61 x62 x63 x64 x68 x72 x73 x74)) 5 := by
  refine stepG mb_o5 4 17 (by kernel_rfl) rfl (by kernel_rfl) (by kernel_rfl) rfl rfl ?_
  intro a w ho hI hp hB K hK
  have t3 := (ho 3 (by kernel_rfl)).trans A3
  have e3 := eval_slot t3
  clear ho hp
  unfold mb_o5
  go_simp
  exact hK _ _ hI rfl
theorem mb_s6 (Y : W0.heap[hb]? = some (.cells #[.int .i64 h.first, .int .i64 h.count, .int .i64 h.type, .int .i64 h.fnum, .int .i64 h.id, .int .i64 h.poc, .bool h.spatial, .int .i64 h.act0, .int .i64 h.act1, .slice m0 h.mods0.length m0c, .slice m1 h.mods1.length m1c, .int .i64 h.log, .int .i64 h.logc, .slice q0 h.w0.length q0c, .slice q1 h.w1.length q1c, .bool h.longkey, .slice os h.ops.length osc, .int .i64 h.qp, .bool h.off, .int .i64 h.a, .int .i64 h.b] 26 (0, 0))) : StepOk Tryz.prog mb_ops Q a0 (qI W0) (qV (mb_V ub hb s sa scap p ref key h m0 m1 q0 q1 os m0c m1c q0c q1c osc room x3 x10 x11 x12 x16 x17 x21 x25 x26 x27 x33 x37 x38 x39 x40 x41 x47 x48 x49 x56 x60 x61 x62 x63 x64 x68 x72 x73 x74)) 6 := by
  refine stepG mb_o6 4 17 (by kernel_rfl) rfl (by kernel_rfl) (by kernel_rfl) rfl rfl ?_
  intro a w ho hI hp hB K hK
  have t18 : a.tmps[18]? = some (.pointer (some ⟨hb, 1, none⟩)) := qt (hp 5 18 (by kernel_rfl)) _ rfl hB
  have e18 := eval_slot t18
  clear ho hp
  have c0 := qcell hI Y 1 (.int .i64 h.count) rfl
  unfold mb_o6
  go_simp
  exact hK _ _ hI rfl
theorem mb_s7 (A5 : a0.tmps[5]? = some (.int .i64 room)) : StepOk Tryz.prog mb_ops Q a0 (qI W0) (qV (mb_V ub hb s sa scap p ref key h m0 m1 q0 q1 os m0c m1c q0c q1c osc room x3 x10 x11 x12 x16 x17 x21 x25 x26 x27 x33 x37 x38 x39 x40 x41 x47 x48 x49 x56 x60 x61 x62 x63 x64 x68 x72 x73 x74)) 7 := by
  refine stepG mb_o7 4 17 (by kernel_rfl) rfl (by kernel_rfl) (by kernel_rfl) rfl rfl ?_
  intro a w ho hI hp hB K hK
  have t5 := (ho 5 (by kernel_rfl)).trans A5
  have e5 := eval_slot t5
  clear ho hp
  unfold mb_o7
  go_simp
  exact hK _ _ hI rfl
theorem mb_s8 (A3 : a0.tmps[3]? = some (.pointer (some ⟨hb, 0, none⟩))) : StepOk Tryz.prog mb_ops Q a0 (qI W0) (qV (mb_V ub hb s sa scap p ref key h m0 m1 q0 q1 os m0c m1c q0c q1c osc room x3 x10 x11 x12 x16 x17 x21 x25 x26 x27 x33 x37 x38 x39 x40 x41 x47 x48 x49 x56 x60 x61 x62 x63 x64 x68 x72 x73 x74)) 8 := by
  refine stepG mb_o8 4 17 (by kernel_rfl) rfl (by kernel_rfl) (by kernel_rfl) rfl rfl ?_
  intro a w ho hI hp hB K hK
  have t3 := (ho 3 (by kernel_rfl)).trans A3
  have e3 := eval_slot t3
  clear ho hp
  unfold mb_o8
  go_simp
  exact hK _ _ hI rfl
theorem mb_s9 (Y : W0.heap[hb]? = some (.cells #[.int .i64 h.first, .int .i64 h.count, .int .i64 h.type, .int .i64 h.fnum, .int .i64 h.id, .int .i64 h.poc, .bool h.spatial, .int .i64 h.act0, .int .i64 h.act1, .slice m0 h.mods0.length m0c, .slice m1 h.mods1.length m1c, .int .i64 h.log, .int .i64 h.logc, .slice q0 h.w0.length q0c, .slice q1 h.w1.length q1c, .bool h.longkey, .slice os h.ops.length osc, .int .i64 h.qp, .bool h.off, .int .i64 h.a, .int .i64 h.b] 26 (0, 0))) : StepOk Tryz.prog mb_ops Q a0 (qI W0) (qV (mb_V ub hb s sa scap p ref key h m0 m1 q0 q1 os m0c m1c q0c q1c osc room x3 x10 x11 x12 x16 x17 x21 x25 x26 x27 x33 x37 x38 x39 x40 x41 x47 x48 x49 x56 x60 x61 x62 x63 x64 x68 x72 x73 x74)) 9 := by
  refine stepG mb_o9 4 17 (by kernel_rfl) rfl (by kernel_rfl) (by kernel_rfl) rfl rfl ?_
  intro a w ho hI hp hB K hK
  have t21 : a.tmps[21]? = some (.pointer (some ⟨hb, 0, none⟩)) := qt (hp 8 21 (by kernel_rfl)) _ rfl hB
  have e21 := eval_slot t21
  clear ho hp
  have c0 := qcell hI Y 0 (.int .i64 h.first) rfl
  unfold mb_o9
  go_simp
  exact hK _ _ hI rfl
theorem mb_s10 (hx : x10 = (room - h.first)) (hq : x3 = inB h.first 0 room) (hr : 0 ≤ room ∧ room ≤ 64) : StepOk Tryz.prog mb_ops Q a0 (qI W0) (qV (mb_V ub hb s sa scap p ref key h m0 m1 q0 q1 os m0c m1c q0c q1c osc room x3 x10 x11 x12 x16 x17 x21 x25 x26 x27 x33 x37 x38 x39 x40 x41 x47 x48 x49 x56 x60 x61 x62 x63 x64 x68 x72 x73 x74)) 10 := by
  refine stepG mb_o10 4 17 (by kernel_rfl) rfl (by kernel_rfl) (by kernel_rfl) rfl rfl ?_
  intro a w ho hI hp hB K hK
  have t20 : a.tmps[20]? = some (.int .i64 room) := qt (hp 7 20 (by kernel_rfl)) _ rfl hB
  have e20 := eval_slot t20
  have t22 : a.tmps[22]? = some (.int .i64 h.first) := qt (hp 9 22 (by kernel_rfl)) _ rfl hB
  have e22 := eval_slot t22
  clear ho hp
  have q3 : x3 = true := by simpa using hB
  rw [hq] at q3
  simp only [inB, decide_eq_true_eq] at q3
  obtain ⟨q4, q5⟩ := q3
  obtain ⟨q6, q7⟩ := hr
  subst hx
  unfold mb_o10
  go_simp
  exact hK _ _ hI (congrArg (Value.int .i64) (by rw [IntKind.wrap_i64]; omega))
theorem mb_s11 (hx : x11 = (inB h.count 1 x10)) : StepOk Tryz.prog mb_ops Q a0 (qI W0) (qV (mb_V ub hb s sa scap p ref key h m0 m1 q0 q1 os m0c m1c q0c q1c osc room x3 x10 x11 x12 x16 x17 x21 x25 x26 x27 x33 x37 x38 x39 x40 x41 x47 x48 x49 x56 x60 x61 x62 x63 x64 x68 x72 x73 x74)) 11 := by
  refine stepG mb_o11 4 17 (by kernel_rfl) rfl (by kernel_rfl) (by kernel_rfl) rfl rfl ?_
  intro a w ho hI hp hB K hK
  have t19 : a.tmps[19]? = some (.int .i64 h.count) := qt (hp 6 19 (by kernel_rfl)) _ rfl hB
  have e19 := eval_slot t19
  have t23 : a.tmps[23]? = some (.int .i64 x10) := qt (hp 10 23 (by kernel_rfl)) _ rfl hB
  have e23 := eval_slot t23
  clear ho hp
  unfold mb_o11
  go_simp
  refine (within_any _ _ _ _).mono ?_
  rintro e w' ⟨rfl, rfl⟩
  exact hK _ _ hI (congrArg (Value.bool) hx.symm)
theorem mb_s12 (hx : x12 = (x3 && x11)) : StepOk Tryz.prog mb_ops Q a0 (qI W0) (qV (mb_V ub hb s sa scap p ref key h m0 m1 q0 q1 os m0c m1c q0c q1c osc room x3 x10 x11 x12 x16 x17 x21 x25 x26 x27 x33 x37 x38 x39 x40 x41 x47 x48 x49 x56 x60 x61 x62 x63 x64 x68 x72 x73 x74)) 12 := by
  refine stepP mb_o12 (by kernel_rfl) rfl rfl ?_
  intro a w ho hI hp hB K hK
  have t17 : a.tmps[17]? = some (.bool x3) := qt (hp 4 17 (by kernel_rfl)) _ rfl rfl
  have e17 := eval_slot t17
  clear ho
  cases hq : x3 with
  | false =>
    have hz := hx.trans (by rw [hq]; rfl : _ = false)
    clear hp
    rw [hq] at e17
    unfold mb_o12
    go_simp
    exact hK _ _ hI (congrArg Value.bool hz.symm)
  | true =>
    have hz := hx.trans (by rw [hq]; rfl : _ = x11)
    have t24 : a.tmps[24]? = some (.bool x11) := qt (hp 11 24 (by kernel_rfl)) _ rfl (by rw [hq]; rfl)
    have e24 := eval_slot t24
    clear hp
    rw [hq] at e17
    unfold mb_o12
    go_simp
    exact hK _ _ hI (congrArg Value.bool hz.symm)
theorem mb_s13 : StepOk Tryz.prog mb_ops Q a0 (qI W0) (qV (mb_V ub hb s sa scap p ref key h m0 m1 q0 q1 os m0c m1c q0c q1c osc room x3 x10 x11 x12 x16 x17 x21 x25 x26 x27 x33 x37 x38 x39 x40 x41 x47 x48 x49 x56 x60 x61 x62 x63 x64 x68 x72 x73 x74)) 13 := by
  refine stepP mb_o13 (by kernel_rfl) rfl rfl ?_
  intro a w ho hI hp hB K hK
  have t25 : a.tmps[25]? = some (.bool x12) := qt (hp 12 25 (by kernel_rfl)) _ rfl rfl
  have e25 := eval_slot t25
  clear ho hp
  unfold mb_o13
  go_simp
  exact hK _ _ hI rfl
theorem mb_s14 (A3 : a0.tmps[3]? = some (.pointer (some ⟨hb, 0, none⟩))) : StepOk Tryz.prog mb_ops Q a0 (qI W0) (qV (mb_V ub hb s sa scap p ref key h m0 m1 q0 q1 os m0c m1c q0c q1c osc room x3 x10 x11 x12 x16 x17 x21 x25 x26 x27 x33 x37 x38 x39 x40 x41 x47 x48 x49 x56 x60 x61 x62 x63 x64 x68 x72 x73 x74)) 14 := by
  refine stepG mb_o14 13 26 (by kernel_rfl) rfl (by kernel_rfl) (by kernel_rfl) rfl rfl ?_
  intro a w ho hI hp hB K hK
  have t3 := (ho 3 (by kernel_rfl)).trans A3
  have e3 := eval_slot t3
  clear ho hp
  unfold mb_o14
  go_simp
  exact hK _ _ hI rfl
theorem mb_s15 (Y : W0.heap[hb]? = some (.cells #[.int .i64 h.first, .int .i64 h.count, .int .i64 h.type, .int .i64 h.fnum, .int .i64 h.id, .int .i64 h.poc, .bool h.spatial, .int .i64 h.act0, .int .i64 h.act1, .slice m0 h.mods0.length m0c, .slice m1 h.mods1.length m1c, .int .i64 h.log, .int .i64 h.logc, .slice q0 h.w0.length q0c, .slice q1 h.w1.length q1c, .bool h.longkey, .slice os h.ops.length osc, .int .i64 h.qp, .bool h.off, .int .i64 h.a, .int .i64 h.b] 26 (0, 0))) : StepOk Tryz.prog mb_ops Q a0 (qI W0) (qV (mb_V ub hb s sa scap p ref key h m0 m1 q0 q1 os m0c m1c q0c q1c osc room x3 x10 x11 x12 x16 x17 x21 x25 x26 x27 x33 x37 x38 x39 x40 x41 x47 x48 x49 x56 x60 x61 x62 x63 x64 x68 x72 x73 x74)) 15 := by
  refine stepG mb_o15 13 26 (by kernel_rfl) rfl (by kernel_rfl) (by kernel_rfl) rfl rfl ?_
  intro a w ho hI hp hB K hK
  have t27 : a.tmps[27]? = some (.pointer (some ⟨hb, 2, none⟩)) := qt (hp 14 27 (by kernel_rfl)) _ rfl hB
  have e27 := eval_slot t27
  clear ho hp
  have c0 := qcell hI Y 2 (.int .i64 h.type) rfl
  unfold mb_o15
  go_simp
  exact hK _ _ hI rfl
theorem mb_s16 (hx : x16 = (inB h.type 0 2)) : StepOk Tryz.prog mb_ops Q a0 (qI W0) (qV (mb_V ub hb s sa scap p ref key h m0 m1 q0 q1 os m0c m1c q0c q1c osc room x3 x10 x11 x12 x16 x17 x21 x25 x26 x27 x33 x37 x38 x39 x40 x41 x47 x48 x49 x56 x60 x61 x62 x63 x64 x68 x72 x73 x74)) 16 := by
  refine stepG mb_o16 13 26 (by kernel_rfl) rfl (by kernel_rfl) (by kernel_rfl) rfl rfl ?_
  intro a w ho hI hp hB K hK
  have t28 : a.tmps[28]? = some (.int .i64 h.type) := qt (hp 15 28 (by kernel_rfl)) _ rfl hB
  have e28 := eval_slot t28
  clear ho hp
  unfold mb_o16
  go_simp
  refine (within_any _ _ _ _).mono ?_
  rintro e w' ⟨rfl, rfl⟩
  exact hK _ _ hI (congrArg (Value.bool) hx.symm)
theorem mb_s17 (hx : x17 = (x12 && x16)) : StepOk Tryz.prog mb_ops Q a0 (qI W0) (qV (mb_V ub hb s sa scap p ref key h m0 m1 q0 q1 os m0c m1c q0c q1c osc room x3 x10 x11 x12 x16 x17 x21 x25 x26 x27 x33 x37 x38 x39 x40 x41 x47 x48 x49 x56 x60 x61 x62 x63 x64 x68 x72 x73 x74)) 17 := by
  refine stepP mb_o17 (by kernel_rfl) rfl rfl ?_
  intro a w ho hI hp hB K hK
  have t26 : a.tmps[26]? = some (.bool x12) := qt (hp 13 26 (by kernel_rfl)) _ rfl rfl
  have e26 := eval_slot t26
  clear ho
  cases hq : x12 with
  | false =>
    have hz := hx.trans (by rw [hq]; rfl : _ = false)
    clear hp
    rw [hq] at e26
    unfold mb_o17
    go_simp
    exact hK _ _ hI (congrArg Value.bool hz.symm)
  | true =>
    have hz := hx.trans (by rw [hq]; rfl : _ = x16)
    have t29 : a.tmps[29]? = some (.bool x16) := qt (hp 16 29 (by kernel_rfl)) _ rfl (by rw [hq]; rfl)
    have e29 := eval_slot t29
    clear hp
    rw [hq] at e26
    unfold mb_o17
    go_simp
    exact hK _ _ hI (congrArg Value.bool hz.symm)
theorem mb_s18 : StepOk Tryz.prog mb_ops Q a0 (qI W0) (qV (mb_V ub hb s sa scap p ref key h m0 m1 q0 q1 os m0c m1c q0c q1c osc room x3 x10 x11 x12 x16 x17 x21 x25 x26 x27 x33 x37 x38 x39 x40 x41 x47 x48 x49 x56 x60 x61 x62 x63 x64 x68 x72 x73 x74)) 18 := by
  refine stepP mb_o18 (by kernel_rfl) rfl rfl ?_
  intro a w ho hI hp hB K hK
  have t30 : a.tmps[30]? = some (.bool x17) := qt (hp 17 30 (by kernel_rfl)) _ rfl rfl
  have e30 := eval_slot t30
  clear ho hp
  unfold mb_o18
  go_simp
  exact hK _ _ hI rfl
theorem mb_s19 (A3 : a0.tmps[3]? = some (.pointer (some ⟨hb, 0, none⟩))) : StepOk Tryz.prog mb_ops Q a0 (qI W0) (qV (mb_V ub hb s sa scap p ref key h m0 m1 q0 q1 os m0c m1c q0c q1c osc room x3 x10 x11 x12 x16 x17 x21 x25 x26 x27 x33 x37 x38 x39 x40 x41 x47 x48 x49 x56 x60 x61 x62 x63 x64 x68 x72 x73 x74)) 19 := by
  refine stepG mb_o19 18 31 (by kernel_rfl) rfl (by kernel_rfl) (by kernel_rfl) rfl rfl ?_
  intro a w ho hI hp hB K hK
  have t3 := (ho 3 (by kernel_rfl)).trans A3
  have e3 := eval_slot t3
  clear ho hp
  unfold mb_o19
  go_simp
  exact hK _ _ hI rfl
theorem mb_s20 (Y : W0.heap[hb]? = some (.cells #[.int .i64 h.first, .int .i64 h.count, .int .i64 h.type, .int .i64 h.fnum, .int .i64 h.id, .int .i64 h.poc, .bool h.spatial, .int .i64 h.act0, .int .i64 h.act1, .slice m0 h.mods0.length m0c, .slice m1 h.mods1.length m1c, .int .i64 h.log, .int .i64 h.logc, .slice q0 h.w0.length q0c, .slice q1 h.w1.length q1c, .bool h.longkey, .slice os h.ops.length osc, .int .i64 h.qp, .bool h.off, .int .i64 h.a, .int .i64 h.b] 26 (0, 0))) : StepOk Tryz.prog mb_ops Q a0 (qI W0) (qV (mb_V ub hb s sa scap p ref key h m0 m1 q0 q1 os m0c m1c q0c q1c osc room x3 x10 x11 x12 x16 x17 x21 x25 x26 x27 x33 x37 x38 x39 x40 x41 x47 x48 x49 x56 x60 x61 x62 x63 x64 x68 x72 x73 x74)) 20 := by
  refine stepG mb_o20 18 31 (by kernel_rfl) rfl (by kernel_rfl) (by kernel_rfl) rfl rfl ?_
  intro a w ho hI hp hB K hK
  have t32 : a.tmps[32]? = some (.pointer (some ⟨hb, 2, none⟩)) := qt (hp 19 32 (by kernel_rfl)) _ rfl hB
  have e32 := eval_slot t32
  clear ho hp
  have c0 := qcell hI Y 2 (.int .i64 h.type) rfl
  unfold mb_o20
  go_simp
  exact hK _ _ hI rfl
theorem mb_s21 (hx : x21 = (h.type == 2)) : StepOk Tryz.prog mb_ops Q a0 (qI W0) (qV (mb_V ub hb s sa scap p ref key h m0 m1 q0 q1 os m0c m1c q0c q1c osc room x3 x10 x11 x12 x16 x17 x21 x25 x26 x27 x33 x37 x38 x39 x40 x41 x47 x48 x49 x56 x60 x61 x62 x63 x64 x68 x72 x73 x74)) 21 := by
  refine stepG mb_o21 18 31 (by kernel_rfl) rfl (by kernel_rfl) (by kernel_rfl) rfl rfl ?_
  intro a w ho hI hp hB K hK
  have t33 : a.tmps[33]? = some (.int .i64 h.type) := qt (hp 20 33 (by kernel_rfl)) _ rfl hB
  have e33 := eval_slot t33
  clear ho hp
  unfold mb_o21
  go_simp
  exact hK _ _ hI (congrArg (Value.bool) hx.symm)
theorem mb_s22 : StepOk Tryz.prog mb_ops Q a0 (qI W0) (qV (mb_V ub hb s sa scap p ref key h m0 m1 q0 q1 os m0c m1c q0c q1c osc room x3 x10 x11 x12 x16 x17 x21 x25 x26 x27 x33 x37 x38 x39 x40 x41 x47 x48 x49 x56 x60 x61 x62 x63 x64 x68 x72 x73 x74)) 22 := by
  refine stepG mb_o22 18 31 (by kernel_rfl) rfl (by kernel_rfl) (by kernel_rfl) rfl rfl ?_
  intro a w ho hI hp hB K hK
  have t34 : a.tmps[34]? = some (.bool x21) := qt (hp 21 34 (by kernel_rfl)) _ rfl hB
  have e34 := eval_slot t34
  clear ho hp
  unfold mb_o22
  go_simp
  exact hK _ _ hI rfl
theorem mb_s23 (A2 : a0.tmps[2]? = some (.pointer (some ⟨ub, 0, none⟩))) : StepOk Tryz.prog mb_ops Q a0 (qI W0) (qV (mb_V ub hb s sa scap p ref key h m0 m1 q0 q1 os m0c m1c q0c q1c osc room x3 x10 x11 x12 x16 x17 x21 x25 x26 x27 x33 x37 x38 x39 x40 x41 x47 x48 x49 x56 x60 x61 x62 x63 x64 x68 x72 x73 x74)) 23 := by
  refine stepG mb_o23 22 35 (by kernel_rfl) rfl (by kernel_rfl) (by kernel_rfl) rfl rfl ?_
  intro a w ho hI hp hB K hK
  have t2 := (ho 2 (by kernel_rfl)).trans A2
  have e2 := eval_slot t2
  clear ho hp
  unfold mb_o23
  go_simp
  exact hK _ _ hI rfl
theorem mb_s24 (X : W0.heap[ub]? = some (.cells #[.int .i64 s.wide, .int .i64 s.high, .int .i64 s.fbits, .int .i64 s.ptype, .int .i64 s.pbits, .int .i64 s.nonref, .slice sa s.cycle.length scap, .int .i64 s.refs, .int .i64 s.delay, .bool p.cabac, .bool p.weighted, .int .i64 p.bipred, .int .i64 p.qp, .int .i64 p.chroma, .bool p.constrained, .bool p.deblock, .int .i64 p.act0, .int .i64 p.act1, .int .i64 ref, .bool key] 87 (0, 0))) : StepOk Tryz.prog mb_ops Q a0 (qI W0) (qV (mb_V ub hb s sa scap p ref key h m0 m1 q0 q1 os m0c m1c q0c q1c osc room x3 x10 x11 x12 x16 x17 x21 x25 x26 x27 x33 x37 x38 x39 x40 x41 x47 x48 x49 x56 x60 x61 x62 x63 x64 x68 x72 x73 x74)) 24 := by
  refine stepG mb_o24 22 35 (by kernel_rfl) rfl (by kernel_rfl) (by kernel_rfl) rfl rfl ?_
  intro a w ho hI hp hB K hK
  have t36 : a.tmps[36]? = some (.pointer (some ⟨ub, 19, none⟩)) := qt (hp 23 36 (by kernel_rfl)) _ rfl hB
  have e36 := eval_slot t36
  clear ho hp
  have c0 := qcell hI X 19 (.bool key) rfl
  unfold mb_o24
  go_simp
  exact hK _ _ hI rfl
theorem mb_s25 (hx : x25 = (!key)) : StepOk Tryz.prog mb_ops Q a0 (qI W0) (qV (mb_V ub hb s sa scap p ref key h m0 m1 q0 q1 os m0c m1c q0c q1c osc room x3 x10 x11 x12 x16 x17 x21 x25 x26 x27 x33 x37 x38 x39 x40 x41 x47 x48 x49 x56 x60 x61 x62 x63 x64 x68 x72 x73 x74)) 25 := by
  refine stepG mb_o25 22 35 (by kernel_rfl) rfl (by kernel_rfl) (by kernel_rfl) rfl rfl ?_
  intro a w ho hI hp hB K hK
  have t37 : a.tmps[37]? = some (.bool key) := qt (hp 24 37 (by kernel_rfl)) _ rfl hB
  have e37 := eval_slot t37
  clear ho hp
  unfold mb_o25
  go_simp
  exact hK _ _ hI (congrArg (Value.bool) hx.symm)
theorem mb_s26 (hx : x26 = (x21 || x25)) : StepOk Tryz.prog mb_ops Q a0 (qI W0) (qV (mb_V ub hb s sa scap p ref key h m0 m1 q0 q1 os m0c m1c q0c q1c osc room x3 x10 x11 x12 x16 x17 x21 x25 x26 x27 x33 x37 x38 x39 x40 x41 x47 x48 x49 x56 x60 x61 x62 x63 x64 x68 x72 x73 x74)) 26 := by
  refine stepG mb_o26 18 31 (by kernel_rfl) rfl (by kernel_rfl) (by kernel_rfl) rfl rfl ?_
  intro a w ho hI hp hB K hK
  have t35 : a.tmps[35]? = some (.bool x21) := qt (hp 22 35 (by kernel_rfl)) _ rfl hB
  have e35 := eval_slot t35
  clear ho
  cases hq : x21 with
  | true =>
    have hz := hx.trans (by rw [hq]; rfl : _ = true)
    clear hp
    rw [hq] at e35
    unfold mb_o26
    go_simp
    exact hK _ _ hI (congrArg Value.bool hz.symm)
  | false =>
    have hz := hx.trans (by rw [hq]; rfl : _ = x25)
    have t38 : a.tmps[38]? = some (.bool x25) := qt (hp 25 38 (by kernel_rfl)) _ rfl (by rw [hq, hB]; rfl)
    have e38 := eval_slot t38
    clear hp
    rw [hq] at e35
    unfold mb_o26
    go_simp
    exact hK _ _ hI (congrArg Value.bool hz.symm)
theorem mb_s27 (hx : x27 = (x17 && x26)) : StepOk Tryz.prog mb_ops Q a0 (qI W0) (qV (mb_V ub hb s sa scap p ref key h m0 m1 q0 q1 os m0c m1c q0c q1c osc room x3 x10 x11 x12 x16 x17 x21 x25 x26 x27 x33 x37 x38 x39 x40 x41 x47 x48 x49 x56 x60 x61 x62 x63 x64 x68 x72 x73 x74)) 27 := by
  refine stepP mb_o27 (by kernel_rfl) rfl rfl ?_
  intro a w ho hI hp hB K hK
  have t31 : a.tmps[31]? = some (.bool x17) := qt (hp 18 31 (by kernel_rfl)) _ rfl rfl
  have e31 := eval_slot t31
  clear ho
  cases hq : x17 with
  | false =>
    have hz := hx.trans (by rw [hq]; rfl : _ = false)
    clear hp
    rw [hq] at e31
    unfold mb_o27
    go_simp
    exact hK _ _ hI (congrArg Value.bool hz.symm)
  | true =>
    have hz := hx.trans (by rw [hq]; rfl : _ = x26)
    have t39 : a.tmps[39]? = some (.bool x26) := qt (hp 26 39 (by kernel_rfl)) _ rfl (by rw [hq]; rfl)
    have e39 := eval_slot t39
    clear hp
    rw [hq] at e31
    unfold mb_o27
    go_simp
    exact hK _ _ hI (congrArg Value.bool hz.symm)
theorem mb_s28 : StepOk Tryz.prog mb_ops Q a0 (qI W0) (qV (mb_V ub hb s sa scap p ref key h m0 m1 q0 q1 os m0c m1c q0c q1c osc room x3 x10 x11 x12 x16 x17 x21 x25 x26 x27 x33 x37 x38 x39 x40 x41 x47 x48 x49 x56 x60 x61 x62 x63 x64 x68 x72 x73 x74)) 28 := by
  refine stepP mb_o28 (by kernel_rfl) rfl rfl ?_
  intro a w ho hI hp hB K hK
  have t40 : a.tmps[40]? = some (.bool x27) := qt (hp 27 40 (by kernel_rfl)) _ rfl rfl
  have e40 := eval_slot t40
  clear ho hp
  unfold mb_o28
  go_simp
  exact hK _ _ hI rfl
theorem mb_s29 (A3 : a0.tmps[3]? = some (.pointer (some ⟨hb, 0, none⟩))) : StepOk Tryz.prog mb_ops Q a0 (qI W0) (qV (mb_V ub hb s sa scap p ref key h m0 m1 q0 q1 os m0c m1c q0c q1c osc room x3 x10 x11 x12 x16 x17 x21 x25 x26 x27 x33 x37 x38 x39 x40 x41 x47 x48 x49 x56 x60 x61 x62 x63 x64 x68 x72 x73 x74)) 29 := by
  refine stepG mb_o29 28 41 (by kernel_rfl) rfl (by kernel_rfl) (by kernel_rfl) rfl rfl ?_
  intro a w ho hI hp hB K hK
  have t3 := (ho 3 (by kernel_rfl)).trans A3
  have e3 := eval_slot t3
  clear ho hp
  unfold mb_o29
  go_simp
  exact hK _ _ hI rfl
theorem mb_s30 (Y : W0.heap[hb]? = some (.cells #[.int .i64 h.first, .int .i64 h.count, .int .i64 h.type, .int .i64 h.fnum, .int .i64 h.id, .int .i64 h.poc, .bool h.spatial, .int .i64 h.act0, .int .i64 h.act1, .slice m0 h.mods0.length m0c, .slice m1 h.mods1.length m1c, .int .i64 h.log, .int .i64 h.logc, .slice q0 h.w0.length q0c, .slice q1 h.w1.length q1c, .bool h.longkey, .slice os h.ops.length osc, .int .i64 h.qp, .bool h.off, .int .i64 h.a, .int .i64 h.b] 26 (0, 0))) : StepOk Tryz.prog mb_ops Q a0 (qI W0) (qV (mb_V ub hb s sa scap p ref key h m0 m1 q0 q1 os m0c m1c q0c q1c osc room x3 x10 x11 x12 x16 x17 x21 x25 x26 x27 x33 x37 x38 x39 x40 x41 x47 x48 x49 x56 x60 x61 x62 x63 x64 x68 x72 x73 x74)) 30 := by
  refine stepG mb_o30 28 41 (by kernel_rfl) rfl (by kernel_rfl) (by kernel_rfl) rfl rfl ?_
  intro a w ho hI hp hB K hK
  have t42 : a.tmps[42]? = some (.pointer (some ⟨hb, 3, none⟩)) := qt (hp 29 42 (by kernel_rfl)) _ rfl hB
  have e42 := eval_slot t42
  clear ho hp
  have c0 := qcell hI Y 3 (.int .i64 h.fnum) rfl
  unfold mb_o30
  go_simp
  exact hK _ _ hI rfl
theorem mb_s31 (A2 : a0.tmps[2]? = some (.pointer (some ⟨ub, 0, none⟩))) : StepOk Tryz.prog mb_ops Q a0 (qI W0) (qV (mb_V ub hb s sa scap p ref key h m0 m1 q0 q1 os m0c m1c q0c q1c osc room x3 x10 x11 x12 x16 x17 x21 x25 x26 x27 x33 x37 x38 x39 x40 x41 x47 x48 x49 x56 x60 x61 x62 x63 x64 x68 x72 x73 x74)) 31 := by
  refine stepG mb_o31 28 41 (by kernel_rfl) rfl (by kernel_rfl) (by kernel_rfl) rfl rfl ?_
  intro a w ho hI hp hB K hK
  have t2 := (ho 2 (by kernel_rfl)).trans A2
  have e2 := eval_slot t2
  clear ho hp
  unfold mb_o31
  go_simp
  exact hK _ _ hI rfl
theorem mb_s32 (X : W0.heap[ub]? = some (.cells #[.int .i64 s.wide, .int .i64 s.high, .int .i64 s.fbits, .int .i64 s.ptype, .int .i64 s.pbits, .int .i64 s.nonref, .slice sa s.cycle.length scap, .int .i64 s.refs, .int .i64 s.delay, .bool p.cabac, .bool p.weighted, .int .i64 p.bipred, .int .i64 p.qp, .int .i64 p.chroma, .bool p.constrained, .bool p.deblock, .int .i64 p.act0, .int .i64 p.act1, .int .i64 ref, .bool key] 87 (0, 0))) : StepOk Tryz.prog mb_ops Q a0 (qI W0) (qV (mb_V ub hb s sa scap p ref key h m0 m1 q0 q1 os m0c m1c q0c q1c osc room x3 x10 x11 x12 x16 x17 x21 x25 x26 x27 x33 x37 x38 x39 x40 x41 x47 x48 x49 x56 x60 x61 x62 x63 x64 x68 x72 x73 x74)) 32 := by
  refine stepG mb_o32 28 41 (by kernel_rfl) rfl (by kernel_rfl) (by kernel_rfl) rfl rfl ?_
  intro a w ho hI hp hB K hK
  have t44 : a.tmps[44]? = some (.pointer (some ⟨ub, 19, none⟩)) := qt (hp 31 44 (by kernel_rfl)) _ rfl hB
  have e44 := eval_slot t44
  clear ho hp
  have c0 := qcell hI X 19 (.bool key) rfl
  unfold mb_o32
  go_simp
  exact hK _ _ hI rfl
theorem mb_s33 (hx : x33 = (!key)) : StepOk Tryz.prog mb_ops Q a0 (qI W0) (qV (mb_V ub hb s sa scap p ref key h m0 m1 q0 q1 os m0c m1c q0c q1c osc room x3 x10 x11 x12 x16 x17 x21 x25 x26 x27 x33 x37 x38 x39 x40 x41 x47 x48 x49 x56 x60 x61 x62 x63 x64 x68 x72 x73 x74)) 33 := by
  refine stepG mb_o33 28 41 (by kernel_rfl) rfl (by kernel_rfl) (by kernel_rfl) rfl rfl ?_
  intro a w ho hI hp hB K hK
  have t45 : a.tmps[45]? = some (.bool key) := qt (hp 32 45 (by kernel_rfl)) _ rfl hB
  have e45 := eval_slot t45
  clear ho hp
  unfold mb_o33
  go_simp
  exact hK _ _ hI (congrArg (Value.bool) hx.symm)
theorem mb_s34 (A2 : a0.tmps[2]? = some (.pointer (some ⟨ub, 0, none⟩))) : StepOk Tryz.prog mb_ops Q a0 (qI W0) (qV (mb_V ub hb s sa scap p ref key h m0 m1 q0 q1 os m0c m1c q0c q1c osc room x3 x10 x11 x12 x16 x17 x21 x25 x26 x27 x33 x37 x38 x39 x40 x41 x47 x48 x49 x56 x60 x61 x62 x63 x64 x68 x72 x73 x74)) 34 := by
  refine stepG mb_o34 28 41 (by kernel_rfl) rfl (by kernel_rfl) (by kernel_rfl) rfl rfl ?_
  intro a w ho hI hp hB K hK
  have t2 := (ho 2 (by kernel_rfl)).trans A2
  have e2 := eval_slot t2
  clear ho hp
  unfold mb_o34
  go_simp
  exact hK _ _ hI rfl
theorem mb_s35 : StepOk Tryz.prog mb_ops Q a0 (qI W0) (qV (mb_V ub hb s sa scap p ref key h m0 m1 q0 q1 os m0c m1c q0c q1c osc room x3 x10 x11 x12 x16 x17 x21 x25 x26 x27 x33 x37 x38 x39 x40 x41 x47 x48 x49 x56 x60 x61 x62 x63 x64 x68 x72 x73 x74)) 35 := by
  refine stepG mb_o35 28 41 (by kernel_rfl) rfl (by kernel_rfl) (by kernel_rfl) rfl rfl ?_
  intro a w ho hI hp hB K hK
  have t47 : a.tmps[47]? = some (.pointer (some ⟨ub, 0, none⟩)) := qt (hp 34 47 (by kernel_rfl)) _ rfl hB
  have e47 := eval_slot t47
  clear ho hp
  unfold mb_o35
  go_simp
  exact hK _ _ hI rfl
theorem mb_s36 (X : W0.heap[ub]? = some (.cells #[.int .i64 s.wide, .int .i64 s.high, .int .i64 s.fbits, .int .i64 s.ptype, .int .i64 s.pbits, .int .i64 s.nonref, .slice sa s.cycle.length scap, .int .i64 s.refs, .int .i64 s.delay, .bool p.cabac, .bool p.weighted, .int .i64 p.bipred, .int .i64 p.qp, .int .i64 p.chroma, .bool p.constrained, .bool p.deblock, .int .i64 p.act0, .int .i64 p.act1, .int .i64 ref, .bool key] 87 (0, 0))) : StepOk Tryz.prog mb_ops Q a0 (qI W0) (qV (mb_V ub hb s sa scap p ref key h m0 m1 q0 q1 os m0c m1c q0c q1c osc room x3 x10 x11 x12 x16 x17 x21 x25 x26 x27 x33 x37 x38 x39 x40 x41 x47 x48 x49 x56 x60 x61 x62 x63 x64 x68 x72 x73 x74)) 36 := by
  refine stepG mb_o36 28 41 (by kernel_rfl) rfl (by kernel_rfl) (by kernel_rfl) rfl rfl ?_
  intro a w ho hI hp hB K hK
  have t48 : a.tmps[48]? = some (.pointer (some ⟨ub, 2, none⟩)) := qt (hp 35 48 (by kernel_rfl)) _ rfl hB
  have e48 := eval_slot t48
  clear ho hp
  have c0 := qcell hI X 2 (.int .i64 s.fbits) rfl
  unfold mb_o36
  go_simp
  exact hK _ _ hI rfl
theorem mb_s37 (hx : x37 = (2 ^ s.fbits.toNat : Int)) (hf : 4 ≤ s.fbits ∧ s.fbits ≤ 8) : StepOk Tryz.prog mb_ops Q a0 (qI W0) (qV (mb_V ub hb s sa scap p ref key h m0 m1 q0 q1 os m0c m1c q0c q1c osc room x3 x10 x11 x12 x16 x17 x21 x25 x26 x27 x33 x37 x38 x39 x40 x41 x47 x48 x49 x56 x60 x61 x62 x63 x64 x68 x72 x73 x74)) 37 := by
  refine stepG mb_o37 28 41 (by kernel_rfl) rfl (by kernel_rfl) (by kernel_rfl) rfl rfl ?_
  intro a w ho hI hp hB K hK
  have t49 : a.tmps[49]? = some (.int .i64 s.fbits) := qt (hp 36 49 (by kernel_rfl)) _ rfl hB
  have e49 := eval_slot t49
  clear ho hp
  rcases (show s.fbits = 4 ∨ s.fbits = 5 ∨ s.fbits = 6 ∨ s.fbits = 7 ∨ s.fbits = 8 by omega) with e | e | e | e | e
  all_goals
    rw [e] at e49 hx
    unfold mb_o37
    go_simp
    exact hK _ _ hI (by rw [hx]; rfl)
theorem mb_s38 (hx : x38 = (x37 - 1)) (hf : 4 ≤ s.fbits ∧ s.fbits ≤ 8) (hs : x37 = 2 ^ s.fbits.toNat) : StepOk Tryz.prog mb_ops Q a0 (qI W0) (qV (mb_V ub hb s sa scap p ref key h m0 m1 q0 q1 os m0c m1c q0c q1c osc room x3 x10 x11 x12 x16 x17 x21 x25 x26 x27 x33 x37 x38 x39 x40 x41 x47 x48 x49 x56 x60 x61 x62 x63 x64 x68 x72 x73 x74)) 38 := by
  refine stepG mb_o38 28 41 (by kernel_rfl) rfl (by kernel_rfl) (by kernel_rfl) rfl rfl ?_
  intro a w ho hI hp hB K hK
  have t50 : a.tmps[50]? = some (.int .i64 x37) := qt (hp 37 50 (by kernel_rfl)) _ rfl hB
  have e50 := eval_slot t50
  clear ho hp
  rcases (show s.fbits = 4 ∨ s.fbits = 5 ∨ s.fbits = 6 ∨ s.fbits = 7 ∨ s.fbits = 8 by omega) with e | e | e | e | e
  all_goals
    rw [e] at hs
    subst hx
    unfold mb_o38
    go_simp
    exact hK _ _ hI (congrArg (Value.int .i64) (by rw [hs, IntKind.wrap_i64]; rfl))
theorem mb_s39 (hx : x39 = (if x33 = true then x38 else 0)) : StepOk Tryz.prog mb_ops Q a0 (qI W0) (qV (mb_V ub hb s sa scap p ref key h m0 m1 q0 q1 os m0c m1c q0c q1c osc room x3 x10 x11 x12 x16 x17 x21 x25 x26 x27 x33 x37 x38 x39 x40 x41 x47 x48 x49 x56 x60 x61 x62 x63 x64 x68 x72 x73 x74)) 39 := by
  refine stepG mb_o39 28 41 (by kernel_rfl) rfl (by kernel_rfl) (by kernel_rfl) rfl rfl ?_
  intro a w ho hI hp hB K hK
  have t46 : a.tmps[46]? = some (.bool x33) := qt (hp 33 46 (by kernel_rfl)) _ rfl hB
  have e46 := eval_slot t46
  have t51 : a.tmps[51]? = some (.int .i64 x38) := qt (hp 38 51 (by kernel_rfl)) _ rfl hB
  have e51 := eval_slot t51
  clear ho hp
  unfold mb_o39
  go_simp
  refine (limit_any _ _ _).mono ?_
  rintro e w' ⟨rfl, rfl⟩
  exact hK _ _ hI (congrArg (Value.int .i64) hx.symm)
theorem mb_s40 (hx : x40 = (inB h.fnum 0 x39)) : StepOk Tryz.prog mb_ops Q a0 (qI W0) (qV (mb_V ub hb s sa scap p ref key h m0 m1 q0 q1 os m0c m1c q0c q1c osc room x3 x10 x11 x12 x16 x17 x21 x25 x26 x27 x33 x37 x38 x39 x40 x41 x47 x48 x49 x56 x60 x61 x62 x63 x64 x68 x72 x73 x74)) 40 := by
  refine stepG mb_o40 28 41 (by kernel_rfl) rfl (by kernel_rfl) (by kernel_rfl) rfl rfl ?_
  intro a w ho hI hp hB K hK
  have t43 : a.tmps[43]? = some (.int .i64 h.fnum) := qt (hp 30 43 (by kernel_rfl)) _ rfl hB
  have e43 := eval_slot t43
  have t52 : a.tmps[52]? = some (.int .i64 x39) := qt (hp 39 52 (by kernel_rfl)) _ rfl hB
  have e52 := eval_slot t52
  clear ho hp
  unfold mb_o40
  go_simp
  refine (within_any _ _ _ _).mono ?_
  rintro e w' ⟨rfl, rfl⟩
  exact hK _ _ hI (congrArg (Value.bool) hx.symm)
theorem mb_s41 (hx : x41 = (x27 && x40)) : StepOk Tryz.prog mb_ops Q a0 (qI W0) (qV (mb_V ub hb s sa scap p ref key h m0 m1 q0 q1 os m0c m1c q0c q1c osc room x3 x10 x11 x12 x16 x17 x21 x25 x26 x27 x33 x37 x38 x39 x40 x41 x47 x48 x49 x56 x60 x61 x62 x63 x64 x68 x72 x73 x74)) 41 := by
  refine stepP mb_o41 (by kernel_rfl) rfl rfl ?_
  intro a w ho hI hp hB K hK
  have t41 : a.tmps[41]? = some (.bool x27) := qt (hp 28 41 (by kernel_rfl)) _ rfl rfl
  have e41 := eval_slot t41
  clear ho
  cases hq : x27 with
  | false =>
    have hz := hx.trans (by rw [hq]; rfl : _ = false)
    clear hp
    rw [hq] at e41
    unfold mb_o41
    go_simp
    exact hK _ _ hI (congrArg Value.bool hz.symm)
  | true =>
    have hz := hx.trans (by rw [hq]; rfl : _ = x40)
    have t53 : a.tmps[53]? = some (.bool x40) := qt (hp 40 53 (by kernel_rfl)) _ rfl (by rw [hq]; rfl)
    have e53 := eval_slot t53
    clear hp
    rw [hq] at e41
    unfold mb_o41
    go_simp
    exact hK _ _ hI (congrArg Value.bool hz.symm)
theorem mb_s42 : StepOk Tryz.prog mb_ops Q a0 (qI W0) (qV (mb_V ub hb s sa scap p ref key h m0 m1 q0 q1 os m0c m1c q0c q1c osc room x3 x10 x11 x12 x16 x17 x21 x25 x26 x27 x33 x37 x38 x39 x40 x41 x47 x48 x49 x56 x60 x61 x62 x63 x64 x68 x72 x73 x74)) 42 := by
  refine stepP mb_o42 (by kernel_rfl) rfl rfl ?_
  intro a w ho hI hp hB K hK
  have t54 : a.tmps[54]? = some (.bool x41) := qt (hp 41 54 (by kernel_rfl)) _ rfl rfl
  have e54 := eval_slot t54
  clear ho hp
  unfold mb_o42
  go_simp
  exact hK _ _ hI rfl
theorem mb_s43 (A3 : a0.tmps[3]? = some (.pointer (some ⟨hb, 0, none⟩))) : StepOk Tryz.prog mb_ops Q a0 (qI W0) (qV (mb_V ub hb s sa scap p ref key h m0 m1 q0 q1 os m0c m1c q0c q1c osc room x3 x10 x11 x12 x16 x17 x21 x25 x26 x27 x33 x37 x38 x39 x40 x41 x47 x48 x49 x56 x60 x61 x62 x63 x64 x68 x72 x73 x74)) 43 := by
  refine stepG mb_o43 42 55 (by kernel_rfl) rfl (by kernel_rfl) (by kernel_rfl) rfl rfl ?_
  intro a w ho hI hp hB K hK
  have t3 := (ho 3 (by kernel_rfl)).trans A3
  have e3 := eval_slot t3
  clear ho hp
  unfold mb_o43
  go_simp
  exact hK _ _ hI rfl
theorem mb_s44 (Y : W0.heap[hb]? = some (.cells #[.int .i64 h.first, .int .i64 h.count, .int .i64 h.type, .int .i64 h.fnum, .int .i64 h.id, .int .i64 h.poc, .bool h.spatial, .int .i64 h.act0, .int .i64 h.act1, .slice m0 h.mods0.length m0c, .slice m1 h.mods1.length m1c, .int .i64 h.log, .int .i64 h.logc, .slice q0 h.w0.length q0c, .slice q1 h.w1.length q1c, .bool h.longkey, .slice os h.ops.length osc, .int .i64 h.qp, .bool h.off, .int .i64 h.a, .int .i64 h.b] 26 (0, 0))) : StepOk Tryz.prog mb_ops Q a0 (qI W0) (qV (mb_V ub hb s sa scap p ref key h m0 m1 q0 q1 os m0c m1c q0c q1c osc room x3 x10 x11 x12 x16 x17 x21 x25 x26 x27 x33 x37 x38 x39 x40 x41 x47 x48 x49 x56 x60 x61 x62 x63 x64 x68 x72 x73 x74)) 44 := by
  refine stepG mb_o44 42 55 (by kernel_rfl) rfl (by kernel_rfl) (by kernel_rfl) rfl rfl ?_
  intro a w ho hI hp hB K hK
  have t56 : a.tmps[56]? = some (.pointer (some ⟨hb, 4, none⟩)) := qt (hp 43 56 (by kernel_rfl)) _ rfl hB
  have e56 := eval_slot t56
  clear ho hp
  have c0 := qcell hI Y 4 (.int .i64 h.id) rfl
  unfold mb_o44
  go_simp
  exact hK _ _ hI rfl
theorem mb_s45 (A2 : a0.tmps[2]? = some (.pointer (some ⟨ub, 0, none⟩))) : StepOk Tryz.prog mb_ops Q a0 (qI W0) (qV (mb_V ub hb s sa scap p ref key h m0 m1 q0 q1 os m0c m1c q0c q1c osc room x3 x10 x11 x12 x16 x17 x21 x25 x26 x27 x33 x37 x38 x39 x40 x41 x47 x48 x49 x56 x60 x61 x62 x63 x64 x68 x72 x73 x74)) 45 := by
  refine stepG mb_o45 42 55 (by kernel_rfl) rfl (by kernel_rfl) (by kernel_rfl) rfl rfl ?_
  intro a w ho hI hp hB K hK
  have t2 := (ho 2 (by kernel_rfl)).trans A2
  have e2 := eval_slot t2
  clear ho hp
  unfold mb_o45
  go_simp
  exact hK _ _ hI rfl
theorem mb_s46 (X : W0.heap[ub]? = some (.cells #[.int .i64 s.wide, .int .i64 s.high, .int .i64 s.fbits, .int .i64 s.ptype, .int .i64 s.pbits, .int .i64 s.nonref, .slice sa s.cycle.length scap, .int .i64 s.refs, .int .i64 s.delay, .bool p.cabac, .bool p.weighted, .int .i64 p.bipred, .int .i64 p.qp, .int .i64 p.chroma, .bool p.constrained, .bool p.deblock, .int .i64 p.act0, .int .i64 p.act1, .int .i64 ref, .bool key] 87 (0, 0))) : StepOk Tryz.prog mb_ops Q a0 (qI W0) (qV (mb_V ub hb s sa scap p ref key h m0 m1 q0 q1 os m0c m1c q0c q1c osc room x3 x10 x11 x12 x16 x17 x21 x25 x26 x27 x33 x37 x38 x39 x40 x41 x47 x48 x49 x56 x60 x61 x62 x63 x64 x68 x72 x73 x74)) 46 := by
  refine stepG mb_o46 42 55 (by kernel_rfl) rfl (by kernel_rfl) (by kernel_rfl) rfl rfl ?_
  intro a w ho hI hp hB K hK
  have t58 : a.tmps[58]? = some (.pointer (some ⟨ub, 19, none⟩)) := qt (hp 45 58 (by kernel_rfl)) _ rfl hB
  have e58 := eval_slot t58
  clear ho hp
  have c0 := qcell hI X 19 (.bool key) rfl
  unfold mb_o46
  go_simp
  exact hK _ _ hI rfl
theorem mb_s47 (hx : x47 = (if key = true then 255 else 0)) : StepOk Tryz.prog mb_ops Q a0 (qI W0) (qV (mb_V ub hb s sa scap p ref key h m0 m1 q0 q1 os m0c m1c q0c q1c osc room x3 x10 x11 x12 x16 x17 x21 x25 x26 x27 x33 x37 x38 x39 x40 x41 x47 x48 x49 x56 x60 x61 x62 x63 x64 x68 x72 x73 x74)) 47 := by
  refine stepG mb_o47 42 55 (by kernel_rfl) rfl (by kernel_rfl) (by kernel_rfl) rfl rfl ?_
  intro a w ho hI hp hB K hK
  have t59 : a.tmps[59]? = some (.bool key) := qt (hp 46 59 (by kernel_rfl)) _ rfl hB
  have e59 := eval_slot t59
  clear ho hp
  unfold mb_o47
  go_simp
  refine (limit_any _ _ _).mono ?_
  rintro e w' ⟨rfl, rfl⟩
  exact hK _ _ hI (congrArg (Value.int .i64) hx.symm)
theorem mb_s48 (hx : x48 = (inB h.id 0 x47)) : StepOk Tryz.prog mb_ops Q a0 (qI W0) (qV (mb_V ub hb s sa scap p ref key h m0 m1 q0 q1 os m0c m1c q0c q1c osc room x3 x10 x11 x12 x16 x17 x21 x25 x26 x27 x33 x37 x38 x39 x40 x41 x47 x48 x49 x56 x60 x61 x62 x63 x64 x68 x72 x73 x74)) 48 := by
  refine stepG mb_o48 42 55 (by kernel_rfl) rfl (by kernel_rfl) (by kernel_rfl) rfl rfl ?_
  intro a w ho hI hp hB K hK
  have t57 : a.tmps[57]? = some (.int .i64 h.id) := qt (hp 44 57 (by kernel_rfl)) _ rfl hB
  have e57 := eval_slot t57
  have t60 : a.tmps[60]? = some (.int .i64 x47) := qt (hp 47 60 (by kernel_rfl)) _ rfl hB
  have e60 := eval_slot t60
  clear ho hp
  unfold mb_o48
  go_simp
  refine (within_any _ _ _ _).mono ?_
  rintro e w' ⟨rfl, rfl⟩
  exact hK _ _ hI (congrArg (Value.bool) hx.symm)
theorem mb_s49 (hx : x49 = (x41 && x48)) : StepOk Tryz.prog mb_ops Q a0 (qI W0) (qV (mb_V ub hb s sa scap p ref key h m0 m1 q0 q1 os m0c m1c q0c q1c osc room x3 x10 x11 x12 x16 x17 x21 x25 x26 x27 x33 x37 x38 x39 x40 x41 x47 x48 x49 x56 x60 x61 x62 x63 x64 x68 x72 x73 x74)) 49 := by
  refine stepP mb_o49 (by kernel_rfl) rfl rfl ?_
  intro a w ho hI hp hB K hK
  have t55 : a.tmps[55]? = some (.bool x41) := qt (hp 42 55 (by kernel_rfl)) _ rfl rfl
  have e55 := eval_slot t55
  clear ho
  cases hq : x41 with
  | false =>
    have hz := hx.trans (by rw [hq]; rfl : _ = false)
    clear hp
    rw [hq] at e55
    unfold mb_o49
    go_simp
    exact hK _ _ hI (congrArg Value.bool hz.symm)
  | true =>
    have hz := hx.trans (by rw [hq]; rfl : _ = x48)
    have t61 : a.tmps[61]? = some (.bool x48) := qt (hp 48 61 (by kernel_rfl)) _ rfl (by rw [hq]; rfl)
    have e61 := eval_slot t61
    clear hp
    rw [hq] at e55
    unfold mb_o49
    go_simp
    exact hK _ _ hI (congrArg Value.bool hz.symm)
theorem mb_s50 : StepOk Tryz.prog mb_ops Q a0 (qI W0) (qV (mb_V ub hb s sa scap p ref key h m0 m1 q0 q1 os m0c m1c q0c q1c osc room x3 x10 x11 x12 x16 x17 x21 x25 x26 x27 x33 x37 x38 x39 x40 x41 x47 x48 x49 x56 x60 x61 x62 x63 x64 x68 x72 x73 x74)) 50 := by
  refine stepP mb_o50 (by kernel_rfl) rfl rfl ?_
  intro a w ho hI hp hB K hK
  have t62 : a.tmps[62]? = some (.bool x49) := qt (hp 49 62 (by kernel_rfl)) _ rfl rfl
  have e62 := eval_slot t62
  clear ho hp
  unfold mb_o50
  go_simp
  exact hK _ _ hI rfl
theorem mb_s51 (A3 : a0.tmps[3]? = some (.pointer (some ⟨hb, 0, none⟩))) : StepOk Tryz.prog mb_ops Q a0 (qI W0) (qV (mb_V ub hb s sa scap p ref key h m0 m1 q0 q1 os m0c m1c q0c q1c osc room x3 x10 x11 x12 x16 x17 x21 x25 x26 x27 x33 x37 x38 x39 x40 x41 x47 x48 x49 x56 x60 x61 x62 x63 x64 x68 x72 x73 x74)) 51 := by
  refine stepG mb_o51 50 63 (by kernel_rfl) rfl (by kernel_rfl) (by kernel_rfl) rfl rfl ?_
  intro a w ho hI hp hB K hK
  have t3 := (ho 3 (by kernel_rfl)).trans A3
  have e3 := eval_slot t3
  clear ho hp
  unfold mb_o51
  go_simp
  exact hK _ _ hI rfl
theorem mb_s52 (Y : W0.heap[hb]? = some (.cells #[.int .i64 h.first, .int .i64 h.count, .int .i64 h.type, .int .i64 h.fnum, .int .i64 h.id, .int .i64 h.poc, .bool h.spatial, .int .i64 h.act0, .int .i64 h.act1, .slice m0 h.mods0.length m0c, .slice m1 h.mods1.length m1c, .int .i64 h.log, .int .i64 h.logc, .slice q0 h.w0.length q0c, .slice q1 h.w1.length q1c, .bool h.longkey, .slice os h.ops.length osc, .int .i64 h.qp, .bool h.off, .int .i64 h.a, .int .i64 h.b] 26 (0, 0))) : StepOk Tryz.prog mb_ops Q a0 (qI W0) (qV (mb_V ub hb s sa scap p ref key h m0 m1 q0 q1 os m0c m1c q0c q1c osc room x3 x10 x11 x12 x16 x17 x21 x25 x26 x27 x33 x37 x38 x39 x40 x41 x47 x48 x49 x56 x60 x61 x62 x63 x64 x68 x72 x73 x74)) 52 := by
  refine stepG mb_o52 50 63 (by kernel_rfl) rfl (by kernel_rfl) (by kernel_rfl) rfl rfl ?_
  intro a w ho hI hp hB K hK
  have t64 : a.tmps[64]? = some (.pointer (some ⟨hb, 5, none⟩)) := qt (hp 51 64 (by kernel_rfl)) _ rfl hB
  have e64 := eval_slot t64
  clear ho hp
  have c0 := qcell hI Y 5 (.int .i64 h.poc) rfl
  unfold mb_o52
  go_simp
  exact hK _ _ hI rfl
theorem mb_s53 (A2 : a0.tmps[2]? = some (.pointer (some ⟨ub, 0, none⟩))) : StepOk Tryz.prog mb_ops Q a0 (qI W0) (qV (mb_V ub hb s sa scap p ref key h m0 m1 q0 q1 os m0c m1c q0c q1c osc room x3 x10 x11 x12 x16 x17 x21 x25 x26 x27 x33 x37 x38 x39 x40 x41 x47 x48 x49 x56 x60 x61 x62 x63 x64 x68 x72 x73 x74)) 53 := by
  refine stepG mb_o53 50 63 (by kernel_rfl) rfl (by kernel_rfl) (by kernel_rfl) rfl rfl ?_
  intro a w ho hI hp hB K hK
  have t2 := (ho 2 (by kernel_rfl)).trans A2
  have e2 := eval_slot t2
  clear ho hp
  unfold mb_o53
  go_simp
  exact hK _ _ hI rfl
theorem mb_s54 : StepOk Tryz.prog mb_ops Q a0 (qI W0) (qV (mb_V ub hb s sa scap p ref key h m0 m1 q0 q1 os m0c m1c q0c q1c osc room x3 x10 x11 x12 x16 x17 x21 x25 x26 x27 x33 x37 x38 x39 x40 x41 x47 x48 x49 x56 x60 x61 x62 x63 x64 x68 x72 x73 x74)) 54 := by
  refine stepG mb_o54 50 63 (by kernel_rfl) rfl (by kernel_rfl) (by kernel_rfl) rfl rfl ?_
  intro a w ho hI hp hB K hK
  have t66 : a.tmps[66]? = some (.pointer (some ⟨ub, 0, none⟩)) := qt (hp 53 66 (by kernel_rfl)) _ rfl hB
  have e66 := eval_slot t66
  clear ho hp
  unfold mb_o54
  go_simp
  exact hK _ _ hI rfl
theorem mb_s55 (X : W0.heap[ub]? = some (.cells #[.int .i64 s.wide, .int .i64 s.high, .int .i64 s.fbits, .int .i64 s.ptype, .int .i64 s.pbits, .int .i64 s.nonref, .slice sa s.cycle.length scap, .int .i64 s.refs, .int .i64 s.delay, .bool p.cabac, .bool p.weighted, .int .i64 p.bipred, .int .i64 p.qp, .int .i64 p.chroma, .bool p.constrained, .bool p.deblock, .int .i64 p.act0, .int .i64 p.act1, .int .i64 ref, .bool key] 87 (0, 0))) : StepOk Tryz.prog mb_ops Q a0 (qI W0) (qV (mb_V ub hb s sa scap p ref key h m0 m1 q0 q1 os m0c m1c q0c q1c osc room x3 x10 x11 x12 x16 x17 x21 x25 x26 x27 x33 x37 x38 x39 x40 x41 x47 x48 x49 x56 x60 x61 x62 x63 x64 x68 x72 x73 x74)) 55 := by
  refine stepG mb_o55 50 63 (by kernel_rfl) rfl (by kernel_rfl) (by kernel_rfl) rfl rfl ?_
  intro a w ho hI hp hB K hK
  have t67 : a.tmps[67]? = some (.pointer (some ⟨ub, 3, none⟩)) := qt (hp 54 67 (by kernel_rfl)) _ rfl hB
  have e67 := eval_slot t67
  clear ho hp
  have c0 := qcell hI X 3 (.int .i64 s.ptype) rfl
  unfold mb_o55
  go_simp
  exact hK _ _ hI rfl
theorem mb_s56 (hx : x56 = (s.ptype == 0)) : StepOk Tryz.prog mb_ops Q a0 (qI W0) (qV (mb_V ub hb s sa scap p ref key h m0 m1 q0 q1 os m0c m1c q0c q1c osc room x3 x10 x11 x12 x16 x17 x21 x25 x26 x27 x33 x37 x38 x39 x40 x41 x47 x48 x49 x56 x60 x61 x62 x63 x64 x68 x72 x73 x74)) 56 := by
  refine stepG mb_o56 50 63 (by kernel_rfl) rfl (by kernel_rfl) (by kernel_rfl) rfl rfl ?_
  intro a w ho hI hp hB K hK
  have t68 : a.tmps[68]? = some (.int .i64 s.ptype) := qt (hp 55 68 (by kernel_rfl)) _ rfl hB
  have e68 := eval_slot t68
  clear ho hp
  unfold mb_o56
  go_simp
  exact hK _ _ hI (congrArg (Value.bool) hx.symm)
theorem mb_s57 (A2 : a0.tmps[2]? = some (.pointer (some ⟨ub, 0, none⟩))) : StepOk Tryz.prog mb_ops Q a0 (qI W0) (qV (mb_V ub hb s sa scap p ref key h m0 m1 q0 q1 os m0c m1c q0c q1c osc room x3 x10 x11 x12 x16 x17 x21 x25 x26 x27 x33 x37 x38 x39 x40 x41 x47 x48 x49 x56 x60 x61 x62 x63 x64 x68 x72 x73 x74)) 57 := by
  refine stepG mb_o57 50 63 (by kernel_rfl) rfl (by kernel_rfl) (by kernel_rfl) rfl rfl ?_
  intro a w ho hI hp hB K hK
  have t2 := (ho 2 (by kernel_rfl)).trans A2
  have e2 := eval_slot t2
  clear ho hp
  unfold mb_o57
  go_simp
  exact hK _ _ hI rfl
theorem mb_s58 : StepOk Tryz.prog mb_ops Q a0 (qI W0) (qV (mb_V ub hb s sa scap p ref key h m0 m1 q0 q1 os m0c m1c q0c q1c osc room x3 x10 x11 x12 x16 x17 x21 x25 x26 x27 x33 x37 x38 x39 x40 x41 x47 x48 x49 x56 x60 x61 x62 x63 x64 x68 x72 x73 x74)) 58 := by
  refine stepG mb_o58 50 63 (by kernel_rfl) rfl (by kernel_rfl) (by kernel_rfl) rfl rfl ?_
  intro a w ho hI hp hB K hK
  have t70 : a.tmps[70]? = some (.pointer (some ⟨ub, 0, none⟩)) := qt (hp 57 70 (by kernel_rfl)) _ rfl hB
  have e70 := eval_slot t70
  clear ho hp
  unfold mb_o58
  go_simp
  exact hK _ _ hI rfl
theorem mb_s59 (X : W0.heap[ub]? = some (.cells #[.int .i64 s.wide, .int .i64 s.high, .int .i64 s.fbits, .int .i64 s.ptype, .int .i64 s.pbits, .int .i64 s.nonref, .slice sa s.cycle.length scap, .int .i64 s.refs, .int .i64 s.delay, .bool p.cabac, .bool p.weighted, .int .i64 p.bipred, .int .i64 p.qp, .int .i64 p.chroma, .bool p.constrained, .bool p.deblock, .int .i64 p.act0, .int .i64 p.act1, .int .i64 ref, .bool key] 87 (0, 0))) : StepOk Tryz.prog mb_ops Q a0 (qI W0) (qV (mb_V ub hb s sa scap p ref key h m0 m1 q0 q1 os m0c m1c q0c q1c osc room x3 x10 x11 x12 x16 x17 x21 x25 x26 x27 x33 x37 x38 x39 x40 x41 x47 x48 x49 x56 x60 x61 x62 x63 x64 x68 x72 x73 x74)) 59 := by
  refine stepG mb_o59 50 63 (by kernel_rfl) rfl (by kernel_rfl) (by kernel_rfl) rfl rfl ?_
  intro a w ho hI hp hB K hK
  have t71 : a.tmps[71]? = some (.pointer (some ⟨ub, 4, none⟩)) := qt (hp 58 71 (by kernel_rfl)) _ rfl hB
  have e71 := eval_slot t71
  clear ho hp
  have c0 := qcell hI X 4 (.int .i64 s.pbits) rfl
  unfold mb_o59
  go_simp
  exact hK _ _ hI rfl
theorem mb_s60 (hx : x60 = (2 ^ s.pbits.toNat : Int)) (hf : 4 ≤ s.pbits ∧ s.pbits ≤ 8) : StepOk Tryz.prog mb_ops Q a0 (qI W0) (qV (mb_V ub hb s sa scap p ref key h m0 m1 q0 q1 os m0c m1c q0c q1c osc room x3 x10 x11 x12 x16 x17 x21 x25 x26 x27 x33 x37 x38 x39 x40 x41 x47 x48 x49 x56 x60 x61 x62 x63 x64 x68 x72 x73 x74)) 60 := by
  refine stepG mb_o60 50 63 (by kernel_rfl) rfl (by kernel_rfl) (by kernel_rfl) rfl rfl ?_
  intro a w ho hI hp hB K hK
  have t72 : a.tmps[72]? = some (.int .i64 s.pbits) := qt (hp 59 72 (by kernel_rfl)) _ rfl hB
  have e72 := eval_slot t72
  clear ho hp
  rcases (show s.pbits = 4 ∨ s.pbits = 5 ∨ s.pbits = 6 ∨ s.pbits = 7 ∨ s.pbits = 8 by omega) with e | e | e | e | e
  all_goals
    rw [e] at e72 hx
    unfold mb_o60
    go_simp
    exact hK _ _ hI (by rw [hx]; rfl)
theorem mb_s61 (hx : x61 = (x60 - 1)) (hf : 4 ≤ s.pbits ∧ s.pbits ≤ 8) (hs : x60 = 2 ^ s.pbits.toNat) : StepOk Tryz.prog mb_ops Q a0 (qI W0) (qV (mb_V ub hb s sa scap p ref key h m0 m1 q0 q1 os m0c m1c q0c q1c osc room x3 x10 x11 x12 x16 x17 x21 x25 x26 x27 x33 x37 x38 x39 x40 x41 x47 x48 x49 x56 x60 x61 x62 x63 x64 x68 x72 x73 x74)) 61 := by
  refine stepG mb_o61 50 63 (by kernel_rfl) rfl (by kernel_rfl) (by kernel_rfl) rfl rfl ?_
  intro a w ho hI hp hB K hK
  have t73 : a.tmps[73]? = some (.int .i64 x60) := qt (hp 60 73 (by kernel_rfl)) _ rfl hB
  have e73 := eval_slot t73
  clear ho hp
  rcases (show s.pbits = 4 ∨ s.pbits = 5 ∨ s.pbits = 6 ∨ s.pbits = 7 ∨ s.pbits = 8 by omega) with e | e | e | e | e
  all_goals
    rw [e] at hs
    subst hx
    unfold mb_o61
    go_simp
    exact hK _ _ hI (congrArg (Value.int .i64) (by rw [hs, IntKind.wrap_i64]; rfl))
theorem mb_s62 (hx : x62 = (if x56 = true then x61 else 0)) : StepOk Tryz.prog mb_ops Q a0 (qI W0) (qV (mb_V ub hb s sa scap p ref key h m0 m1 q0 q1 os m0c m1c q0c q1c osc room x3 x10 x11 x12 x16 x17 x21 x25 x26 x27 x33 x37 x38 x39 x40 x41 x47 x48 x49 x56 x60 x61 x62 x63 x64 x68 x72 x73 x74)) 62 := by
  refine stepG mb_o62 50 63 (by kernel_rfl) rfl (by kernel_rfl) (by kernel_rfl) rfl rfl ?_
  intro a w ho hI hp hB K hK
  have t69 : a.tmps[69]? = some (.bool x56) := qt (hp 56 69 (by kernel_rfl)) _ rfl hB
  have e69 := eval_slot t69
  have t74 : a.tmps[74]? = some (.int .i64 x61) := qt (hp 61 74 (by kernel_rfl)) _ rfl hB
  have e74 := eval_slot t74
  clear ho hp
  unfold mb_o62
  go_simp
  refine (limit_any _ _ _).mono ?_
  rintro e w' ⟨rfl, rfl⟩
  exact hK _ _ hI (congrArg (Value.int .i64) hx.symm)
theorem mb_s63 (hx : x63 = (inB h.poc 0 x62)) : StepOk Tryz.prog mb_ops Q a0 (qI W0) (qV (mb_V ub hb s sa scap p ref key h m0 m1 q0 q1 os m0c m1c q0c q1c osc room x3 x10 x11 x12 x16 x17 x21 x25 x26 x27 x33 x37 x38 x39 x40 x41 x47 x48 x49 x56 x60 x61 x62 x63 x64 x68 x72 x73 x74)) 63 := by
  refine stepG mb_o63 50 63 (by kernel_rfl) rfl (by kernel_rfl) (by kernel_rfl) rfl rfl ?_
  intro a w ho hI hp hB K hK
  have t65 : a.tmps[65]? = some (.int .i64 h.poc) := qt (hp 52 65 (by kernel_rfl)) _ rfl hB
  have e65 := eval_slot t65
  have t75 : a.tmps[75]? = some (.int .i64 x62) := qt (hp 62 75 (by kernel_rfl)) _ rfl hB
  have e75 := eval_slot t75
  clear ho hp
  unfold mb_o63
  go_simp
  refine (within_any _ _ _ _).mono ?_
  rintro e w' ⟨rfl, rfl⟩
  exact hK _ _ hI (congrArg (Value.bool) hx.symm)
theorem mb_s64 (hx : x64 = (x49 && x63)) : StepOk Tryz.prog mb_ops Q a0 (qI W0) (qV (mb_V ub hb s sa scap p ref key h m0 m1 q0 q1 os m0c m1c q0c q1c osc room x3 x10 x11 x12 x16 x17 x21 x25 x26 x27 x33 x37 x38 x39 x40 x41 x47 x48 x49 x56 x60 x61 x62 x63 x64 x68 x72 x73 x74)) 64 := by
  refine stepP mb_o64 (by kernel_rfl) rfl rfl ?_
  intro a w ho hI hp hB K hK
  have t63 : a.tmps[63]? = some (.bool x49) := qt (hp 50 63 (by kernel_rfl)) _ rfl rfl
  have e63 := eval_slot t63
  clear ho
  cases hq : x49 with
  | false =>
    have hz := hx.trans (by rw [hq]; rfl : _ = false)
    clear hp
    rw [hq] at e63
    unfold mb_o64
    go_simp
    exact hK _ _ hI (congrArg Value.bool hz.symm)
  | true =>
    have hz := hx.trans (by rw [hq]; rfl : _ = x63)
    have t76 : a.tmps[76]? = some (.bool x63) := qt (hp 63 76 (by kernel_rfl)) _ rfl (by rw [hq]; rfl)
    have e76 := eval_slot t76
    clear hp
    rw [hq] at e63
    unfold mb_o64
    go_simp
    exact hK _ _ hI (congrArg Value.bool hz.symm)
theorem mb_s65 : StepOk Tryz.prog mb_ops Q a0 (qI W0) (qV (mb_V ub hb s sa scap p ref key h m0 m1 q0 q1 os m0c m1c q0c q1c osc room x3 x10 x11 x12 x16 x17 x21 x25 x26 x27 x33 x37 x38 x39 x40 x41 x47 x48 x49 x56 x60 x61 x62 x63 x64 x68 x72 x73 x74)) 65 := by
  refine stepP mb_o65 (by kernel_rfl) rfl rfl ?_
  intro a w ho hI hp hB K hK
  have t77 : a.tmps[77]? = some (.bool x64) := qt (hp 64 77 (by kernel_rfl)) _ rfl rfl
  have e77 := eval_slot t77
  clear ho hp
  unfold mb_o65
  go_simp
  exact hK _ _ hI rfl
theorem mb_s66 (A3 : a0.tmps[3]? = some (.pointer (some ⟨hb, 0, none⟩))) : StepOk Tryz.prog mb_ops Q a0 (qI W0) (qV (mb_V ub hb s sa scap p ref key h m0 m1 q0 q1 os m0c m1c q0c q1c osc room x3 x10 x11 x12 x16 x17 x21 x25 x26 x27 x33 x37 x38 x39 x40 x41 x47 x48 x49 x56 x60 x61 x62 x63 x64 x68 x72 x73 x74)) 66 := by
  refine stepG mb_o66 65 78 (by kernel_rfl) rfl (by kernel_rfl) (by kernel_rfl) rfl rfl ?_
  intro a w ho hI hp hB K hK
  have t3 := (ho 3 (by kernel_rfl)).trans A3
  have e3 := eval_slot t3
  clear ho hp
  unfold mb_o66
  go_simp
  exact hK _ _ hI rfl
theorem mb_s67 (Y : W0.heap[hb]? = some (.cells #[.int .i64 h.first, .int .i64 h.count, .int .i64 h.type, .int .i64 h.fnum, .int .i64 h.id, .int .i64 h.poc, .bool h.spatial, .int .i64 h.act0, .int .i64 h.act1, .slice m0 h.mods0.length m0c, .slice m1 h.mods1.length m1c, .int .i64 h.log, .int .i64 h.logc, .slice q0 h.w0.length q0c, .slice q1 h.w1.length q1c, .bool h.longkey, .slice os h.ops.length osc, .int .i64 h.qp, .bool h.off, .int .i64 h.a, .int .i64 h.b] 26 (0, 0))) : StepOk Tryz.prog mb_ops Q a0 (qI W0) (qV (mb_V ub hb s sa scap p ref key h m0 m1 q0 q1 os m0c m1c q0c q1c osc room x3 x10 x11 x12 x16 x17 x21 x25 x26 x27 x33 x37 x38 x39 x40 x41 x47 x48 x49 x56 x60 x61 x62 x63 x64 x68 x72 x73 x74)) 67 := by
  refine stepG mb_o67 65 78 (by kernel_rfl) rfl (by kernel_rfl) (by kernel_rfl) rfl rfl ?_
  intro a w ho hI hp hB K hK
  have t79 : a.tmps[79]? = some (.pointer (some ⟨hb, 2, none⟩)) := qt (hp 66 79 (by kernel_rfl)) _ rfl hB
  have e79 := eval_slot t79
  clear ho hp
  have c0 := qcell hI Y 2 (.int .i64 h.type) rfl
  unfold mb_o67
  go_simp
  exact hK _ _ hI rfl
theorem mb_s68 (hx : x68 = (h.type == 1)) : StepOk Tryz.prog mb_ops Q a0 (qI W0) (qV (mb_V ub hb s sa scap p ref key h m0 m1 q0 q1 os m0c m1c q0c q1c osc room x3 x10 x11 x12 x16 x17 x21 x25 x26 x27 x33 x37 x38 x39 x40 x41 x47 x48 x49 x56 x60 x61 x62 x63 x64 x68 x72 x73 x74)) 68 := by
  refine stepG mb_o68 65 78 (by kernel_rfl) rfl (by kernel_rfl) (by kernel_rfl) rfl rfl ?_
  intro a w ho hI hp hB K hK
  have t80 : a.tmps[80]? = some (.int .i64 h.type) := qt (hp 67 80 (by kernel_rfl)) _ rfl hB
  have e80 := eval_slot t80
  clear ho hp
  unfold mb_o68
  go_simp
  exact hK _ _ hI (congrArg (Value.bool) hx.symm)
theorem mb_s69 : StepOk Tryz.prog mb_ops Q a0 (qI W0) (qV (mb_V ub hb s sa scap p ref key h m0 m1 q0 q1 os m0c m1c q0c q1c osc room x3 x10 x11 x12 x16 x17 x21 x25 x26 x27 x33 x37 x38 x39 x40 x41 x47 x48 x49 x56 x60 x61 x62 x63 x64 x68 x72 x73 x74)) 69 := by
  refine stepG mb_o69 65 78 (by kernel_rfl) rfl (by kernel_rfl) (by kernel_rfl) rfl rfl ?_
  intro a w ho hI hp hB K hK
  have t81 : a.tmps[81]? = some (.bool x68) := qt (hp 68 81 (by kernel_rfl)) _ rfl hB
  have e81 := eval_slot t81
  clear ho hp
  unfold mb_o69
  go_simp
  exact hK _ _ hI rfl
theorem mb_s70 (A3 : a0.tmps[3]? = some (.pointer (some ⟨hb, 0, none⟩))) : StepOk Tryz.prog mb_ops Q a0 (qI W0) (qV (mb_V ub hb s sa scap p ref key h m0 m1 q0 q1 os m0c m1c q0c q1c osc room x3 x10 x11 x12 x16 x17 x21 x25 x26 x27 x33 x37 x38 x39 x40 x41 x47 x48 x49 x56 x60 x61 x62 x63 x64 x68 x72 x73 x74)) 70 := by
  refine stepG mb_o70 69 82 (by kernel_rfl) rfl (by kernel_rfl) (by kernel_rfl) rfl rfl ?_
  intro a w ho hI hp hB K hK
  have t3 := (ho 3 (by kernel_rfl)).trans A3
  have e3 := eval_slot t3
  clear ho hp
  unfold mb_o70
  go_simp
  exact hK _ _ hI rfl
theorem mb_s71 (Y : W0.heap[hb]? = some (.cells #[.int .i64 h.first, .int .i64 h.count, .int .i64 h.type, .int .i64 h.fnum, .int .i64 h.id, .int .i64 h.poc, .bool h.spatial, .int .i64 h.act0, .int .i64 h.act1, .slice m0 h.mods0.length m0c, .slice m1 h.mods1.length m1c, .int .i64 h.log, .int .i64 h.logc, .slice q0 h.w0.length q0c, .slice q1 h.w1.length q1c, .bool h.longkey, .slice os h.ops.length osc, .int .i64 h.qp, .bool h.off, .int .i64 h.a, .int .i64 h.b] 26 (0, 0))) : StepOk Tryz.prog mb_ops Q a0 (qI W0) (qV (mb_V ub hb s sa scap p ref key h m0 m1 q0 q1 os m0c m1c q0c q1c osc room x3 x10 x11 x12 x16 x17 x21 x25 x26 x27 x33 x37 x38 x39 x40 x41 x47 x48 x49 x56 x60 x61 x62 x63 x64 x68 x72 x73 x74)) 71 := by
  refine stepG mb_o71 69 82 (by kernel_rfl) rfl (by kernel_rfl) (by kernel_rfl) rfl rfl ?_
  intro a w ho hI hp hB K hK
  have t83 : a.tmps[83]? = some (.pointer (some ⟨hb, 6, none⟩)) := qt (hp 70 83 (by kernel_rfl)) _ rfl hB
  have e83 := eval_slot t83
  clear ho hp
  have c0 := qcell hI Y 6 (.bool h.spatial) rfl
  unfold mb_o71
  go_simp
  exact hK _ _ hI rfl
theorem mb_s72 (hx : x72 = (!h.spatial)) : StepOk Tryz.prog mb_ops Q a0 (qI W0) (qV (mb_V ub hb s sa scap p ref key h m0 m1 q0 q1 os m0c m1c q0c q1c osc room x3 x10 x11 x12 x16 x17 x21 x25 x26 x27 x33 x37 x38 x39 x40 x41 x47 x48 x49 x56 x60 x61 x62 x63 x64 x68 x72 x73 x74)) 72 := by
  refine stepG mb_o72 69 82 (by kernel_rfl) rfl (by kernel_rfl) (by kernel_rfl) rfl rfl ?_
  intro a w ho hI hp hB K hK
  have t84 : a.tmps[84]? = some (.bool h.spatial) := qt (hp 71 84 (by kernel_rfl)) _ rfl hB
  have e84 := eval_slot t84
  clear ho hp
  unfold mb_o72
  go_simp
  exact hK _ _ hI (congrArg (Value.bool) hx.symm)
theorem mb_s73 (hx : x73 = (x68 || x72)) : StepOk Tryz.prog mb_ops Q a0 (qI W0) (qV (mb_V ub hb s sa scap p ref key h m0 m1 q0 q1 os m0c m1c q0c q1c osc room x3 x10 x11 x12 x16 x17 x21 x25 x26 x27 x33 x37 x38 x39 x40 x41 x47 x48 x49 x56 x60 x61 x62 x63 x64 x68 x72 x73 x74)) 73 := by
  refine stepG mb_o73 65 78 (by kernel_rfl) rfl (by kernel_rfl) (by kernel_rfl) rfl rfl ?_
  intro a w ho hI hp hB K hK
  have t82 : a.tmps[82]? = some (.bool x68) := qt (hp 69 82 (by kernel_rfl)) _ rfl hB
  have e82 := eval_slot t82
  clear ho
  cases hq : x68 with
  | true =>
    have hz := hx.trans (by rw [hq]; rfl : _ = true)
    clear hp
    rw [hq] at e82
    unfold mb_o73
    go_simp
    exact hK _ _ hI (congrArg Value.bool hz.symm)
  | false =>
    have hz := hx.trans (by rw [hq]; rfl : _ = x72)
    have t85 : a.tmps[85]? = some (.bool x72) := qt (hp 72 85 (by kernel_rfl)) _ rfl (by rw [hq, hB]; rfl)
    have e85 := eval_slot t85
    clear hp
    rw [hq] at e82
    unfold mb_o73
    go_simp
    exact hK _ _ hI (congrArg Value.bool hz.symm)
theorem mb_s74 (hx : x74 = (x64 && x73)) : StepOk Tryz.prog mb_ops Q a0 (qI W0) (qV (mb_V ub hb s sa scap p ref key h m0 m1 q0 q1 os m0c m1c q0c q1c osc room x3 x10 x11 x12 x16 x17 x21 x25 x26 x27 x33 x37 x38 x39 x40 x41 x47 x48 x49 x56 x60 x61 x62 x63 x64 x68 x72 x73 x74)) 74 := by
  refine stepP mb_o74 (by kernel_rfl) rfl rfl ?_
  intro a w ho hI hp hB K hK
  have t78 : a.tmps[78]? = some (.bool x64) := qt (hp 65 78 (by kernel_rfl)) _ rfl rfl
  have e78 := eval_slot t78
  clear ho
  cases hq : x64 with
  | false =>
    have hz := hx.trans (by rw [hq]; rfl : _ = false)
    clear hp
    rw [hq] at e78
    unfold mb_o74
    go_simp
    exact hK _ _ hI (congrArg Value.bool hz.symm)
  | true =>
    have hz := hx.trans (by rw [hq]; rfl : _ = x73)
    have t86 : a.tmps[86]? = some (.bool x73) := qt (hp 73 86 (by kernel_rfl)) _ rfl (by rw [hq]; rfl)
    have e86 := eval_slot t86
    clear hp
    rw [hq] at e78
    unfold mb_o74
    go_simp
    exact hK _ _ hI (congrArg Value.bool hz.symm)
theorem mb_s75 : StepOk Tryz.prog mb_ops Q a0 (qI W0) (qV (mb_V ub hb s sa scap p ref key h m0 m1 q0 q1 os m0c m1c q0c q1c osc room x3 x10 x11 x12 x16 x17 x21 x25 x26 x27 x33 x37 x38 x39 x40 x41 x47 x48 x49 x56 x60 x61 x62 x63 x64 x68 x72 x73 x74)) 75 := by
  refine stepP mb_o75 (by kernel_rfl) rfl rfl ?_
  intro a w ho hI hp hB K hK
  have t87 : a.tmps[87]? = some (.bool x74) := qt (hp 74 87 (by kernel_rfl)) _ rfl rfl
  have e87 := eval_slot t87
  clear ho hp
  unfold mb_o75
  go_simp
  exact hK _ _ hI rfl
end
end Go.Proofs.YthcbgijmnonckaaGreat
