/- Layer 4: the walk of HeadKeys. -/
import Derived.Test.YthcbgijmnonckaaGreatLY
namespace Go.Proofs.YthcbgijmnonckaaGreat
open Go.RowKit Zo Zp
set_option linter.unusedVariables false
set_option linter.unusedSimpArgs false

abbrev zH : Array Value := #[.int .i64 0, .int .i64 0, .int .i64 0, .int .i64 0, .int .i64 0, .int .i64 0, .bool false, .int .i64 0, .int .i64 0, .slice none 0 0, .slice none 0 0, .int .i64 0, .int .i64 0, .slice none 0 0, .slice none 0 0, .bool false, .slice none 0 0, .int .i64 0, .bool false, .int .i64 0, .int .i64 0]
def keyH (f i : Int) (l : Bool) (os : List OpN) (t a : Int) : HeadN := ⟨0, 4, t, f, i, 0, false, a, 0, [], [], 0, 0, [], [], l, os, 26, false, 0, 0⟩
def oneOp : List OpN := [⟨5, 0, 0⟩]
def keyR (R : Bool) : Int := if R then 1 else 0

theorem key_b {x : Int} (h : 1 ≤ x ∧ x ≤ 8) (R K : Bool) : decide (headMay (keyH x 0 false [] 2 0) tinyS tinyP (keyR R) K) = !K := by
  rcases (show x = 1 ∨ x = 2 ∨ x = 3 ∨ x = 4 ∨ x = 5 ∨ x = 6 ∨ x = 7 ∨ x = 8 by omega) with rfl | rfl | rfl | rfl | rfl | rfl | rfl | rfl <;> cases R <;> cases K <;> decide
theorem key_c {x : Int} (h : 1 ≤ x ∧ x ≤ 8) (R K : Bool) : decide (headMay (keyH 0 x false [] 2 0) tinyS tinyP (keyR R) K) = K := by
  rcases (show x = 1 ∨ x = 2 ∨ x = 3 ∨ x = 4 ∨ x = 5 ∨ x = 6 ∨ x = 7 ∨ x = 8 by omega) with rfl | rfl | rfl | rfl | rfl | rfl | rfl | rfl <;> cases R <;> cases K <;> decide
theorem key_d (R K : Bool) : decide (headMay (keyH 0 0 true [] 2 0) tinyS tinyP (keyR R) K) = (K && R) := by cases R <;> cases K <;> decide
theorem key_e (R K : Bool) : decide (headMay (keyH 0 0 false oneOp 2 0) tinyS tinyP (keyR R) K) = (!K && R) := by cases R <;> cases K <;> decide
theorem key_f (R K : Bool) : decide (headMay (keyH 0 0 false [] 0 1) tinyS tinyP (keyR R) K) = !K := by cases R <;> cases K <;> decide

theorem key_rows (w : World) (f i : Int) (l : Bool) (t a : Int) : HeadRows w (keyH f i l [] t a) none none none none none :=
  ⟨KRow.nil _ _ _ _, KRow.nil _ _ _ _, KRow.nil _ _ _ _, KRow.nil _ _ _ _, KRow.nil _ _ _ _, by simp [keyH], by simp [keyH], by simp [keyH], by simp [keyH], by simp [keyH]⟩

theorem key_os (w : World) (g : Nat) (h : w.heap[g]? = some (.cells #[.int .i64 5, .int .i64 0, .int .i64 0] 69 (0, 0))) : KRow 3 opI w (some ⟨g, 0, none⟩) oneOp := by
  intro _
  refine ⟨g, 0, rfl, row_lt h, fun i hi j x hx => ?_⟩
  obtain rfl : i = 0 := by simp [oneOp] at hi; omega
  rw [show 0 + 0 * 3 + j = j by omega, cell_of_row w _ j _ _ _ h]
  match j, hx with
  | 0, hx => obtain rfl := Option.some.inj hx; rfl
  | 1, hx => obtain rfl := Option.some.inj hx; rfl
  | 2, hx => obtain rfl := Option.some.inj hx; rfl

theorem seven (x : Int) : 1 ≤ IntKind.i64.wrap (1 + bits .and .i64 x 7) ∧ IntKind.i64.wrap (1 + bits .and .i64 x 7) ≤ 8 := by
  have h : bits .and .i64 x 7 = x % 8 := and_mask_i64 x 3 (by omega)
  rw [h, IntKind.wrap_i64]
  omega

def kk_o0 : Oper := { dst := some 54, op := Op.move (Operand.tmp 9), type := 4, pos := "more.go:35", after := #[], guard := none }
def kk_o1 : Oper := { dst := some 55, op := Op.move (Operand.tmp 54), type := 4, pos := "more.go:35", after := #[{ on := 0, ground := Ground.data }], guard := none }
def kk_o2 : Oper := { dst := some 56, op := Op.load 26 (Operand.tmp 10), type := 26, pos := "more.go:35", after := #[{ on := 1, ground := Ground.guard }], guard := some (1, true) }
def kk_o3 : Oper := { dst := some 57, op := Op.load 29 (Operand.tmp 5), type := 29, pos := "more.go:35", after := #[{ on := 1, ground := Ground.guard }], guard := some (1, true) }
def kk_o4 : Oper := { dst := some 58, op := Op.load 31 (Operand.tmp 6), type := 31, pos := "more.go:35", after := #[{ on := 1, ground := Ground.guard }], guard := some (1, true) }
def kk_o5 : Oper := { dst := some 59, op := Op.move (Operand.tmp 17), type := 3, pos := "more.go:35", after := #[{ on := 1, ground := Ground.guard }], guard := some (1, true) }
def kk_o6 : Oper := { dst := some 60, op := Op.move (Operand.tmp 15), type := 4, pos := "more.go:35", after := #[{ on := 1, ground := Ground.guard }], guard := some (1, true) }
def kk_o7 : Oper := { dst := some 61, op := Op.call { callee := Callee.value (Operand.func 16), args := #[Operand.tmp 56, Operand.tmp 57, Operand.tmp 58, Operand.tmp 59, Operand.tmp 60], argTypes := #[26, 29, 31, 3, 4] }, type := 4, pos := "more.go:35", after := #[{ on := 2, ground := Ground.data }, { on := 3, ground := Ground.data }, { on := 4, ground := Ground.data }, { on := 5, ground := Ground.data }, { on := 6, ground := Ground.data }, { on := 1, ground := Ground.chain }, { on := 1, ground := Ground.guard }], guard := some (1, true) }
def kk_o8 : Oper := { dst := some 62, op := Op.move (Operand.tmp 15), type := 4, pos := "more.go:35", after := #[{ on := 1, ground := Ground.guard }], guard := some (1, true) }
def kk_o9 : Oper := { dst := some 63, op := Op.unOp UnOp.not 4 (Operand.tmp 62), type := 4, pos := "more.go:35", after := #[{ on := 8, ground := Ground.data }, { on := 1, ground := Ground.guard }], guard := some (1, true) }
def kk_o10 : Oper := { dst := some 64, op := Op.binOp BinOp.eql 4 (Operand.tmp 61) (Operand.tmp 63) 4, type := 4, pos := "more.go:35", after := #[{ on := 7, ground := Ground.data }, { on := 9, ground := Ground.data }, { on := 1, ground := Ground.guard }], guard := some (1, true) }
def kk_o11 : Oper := { dst := some 65, op := Op.pick (Operand.tmp 55) (Operand.tmp 64) (Operand.const (Value.bool false)), type := 4, pos := "more.go:35", after := #[{ on := 1, ground := Ground.data }, { on := 10, ground := Ground.data }], guard := none }
def kk_o12 : Oper := { dst := some 66, op := Op.move (Operand.tmp 65), type := 4, pos := "more.go:35", after := #[{ on := 11, ground := Ground.data }, { on := 7, ground := Ground.chain }], guard := none }
def kk_o13 : Oper := { dst := some 67, op := Op.load 26 (Operand.tmp 11), type := 26, pos := "more.go:35", after := #[{ on := 12, ground := Ground.guard }], guard := some (12, true) }
def kk_o14 : Oper := { dst := some 68, op := Op.load 29 (Operand.tmp 5), type := 29, pos := "more.go:35", after := #[{ on := 12, ground := Ground.guard }], guard := some (12, true) }
def kk_o15 : Oper := { dst := some 69, op := Op.load 31 (Operand.tmp 6), type := 31, pos := "more.go:35", after := #[{ on := 12, ground := Ground.guard }], guard := some (12, true) }
def kk_o16 : Oper := { dst := some 70, op := Op.move (Operand.tmp 17), type := 3, pos := "more.go:35", after := #[{ on := 12, ground := Ground.guard }], guard := some (12, true) }
def kk_o17 : Oper := { dst := some 71, op := Op.move (Operand.tmp 15), type := 4, pos := "more.go:35", after := #[{ on := 12, ground := Ground.guard }], guard := some (12, true) }
def kk_o18 : Oper := { dst := some 72, op := Op.call { callee := Callee.value (Operand.func 16), args := #[Operand.tmp 67, Operand.tmp 68, Operand.tmp 69, Operand.tmp 70, Operand.tmp 71], argTypes := #[26, 29, 31, 3, 4] }, type := 4, pos := "more.go:35", after := #[{ on := 13, ground := Ground.data }, { on := 14, ground := Ground.data }, { on := 15, ground := Ground.data }, { on := 16, ground := Ground.data }, { on := 17, ground := Ground.data }, { on := 12, ground := Ground.chain }, { on := 12, ground := Ground.guard }], guard := some (12, true) }
def kk_o19 : Oper := { dst := some 73, op := Op.move (Operand.tmp 15), type := 4, pos := "more.go:35", after := #[{ on := 12, ground := Ground.guard }], guard := some (12, true) }
def kk_o20 : Oper := { dst := some 74, op := Op.binOp BinOp.eql 4 (Operand.tmp 72) (Operand.tmp 73) 4, type := 4, pos := "more.go:35", after := #[{ on := 18, ground := Ground.data }, { on := 19, ground := Ground.data }, { on := 12, ground := Ground.guard }], guard := some (12, true) }
def kk_o21 : Oper := { dst := some 75, op := Op.pick (Operand.tmp 66) (Operand.tmp 74) (Operand.const (Value.bool false)), type := 4, pos := "more.go:35", after := #[{ on := 12, ground := Ground.data }, { on := 20, ground := Ground.data }], guard := none }
def kk_o22 : Oper := { dst := some 76, op := Op.move (Operand.tmp 75), type := 4, pos := "more.go:35", after := #[{ on := 21, ground := Ground.data }, { on := 18, ground := Ground.chain }], guard := none }
def kk_o23 : Oper := { dst := some 77, op := Op.load 26 (Operand.tmp 12), type := 26, pos := "more.go:35", after := #[{ on := 22, ground := Ground.guard }], guard := some (22, true) }
def kk_o24 : Oper := { dst := some 78, op := Op.load 29 (Operand.tmp 5), type := 29, pos := "more.go:35", after := #[{ on := 22, ground := Ground.guard }], guard := some (22, true) }
def kk_o25 : Oper := { dst := some 79, op := Op.load 31 (Operand.tmp 6), type := 31, pos := "more.go:35", after := #[{ on := 22, ground := Ground.guard }], guard := some (22, true) }
def kk_o26 : Oper := { dst := some 80, op := Op.move (Operand.tmp 17), type := 3, pos := "more.go:35", after := #[{ on := 22, ground := Ground.guard }], guard := some (22, true) }
def kk_o27 : Oper := { dst := some 81, op := Op.move (Operand.tmp 15), type := 4, pos := "more.go:35", after := #[{ on := 22, ground := Ground.guard }], guard := some (22, true) }
def kk_o28 : Oper := { dst := some 82, op := Op.call { callee := Callee.value (Operand.func 16), args := #[Operand.tmp 77, Operand.tmp 78, Operand.tmp 79, Operand.tmp 80, Operand.tmp 81], argTypes := #[26, 29, 31, 3, 4] }, type := 4, pos := "more.go:35", after := #[{ on := 23, ground := Ground.data }, { on := 24, ground := Ground.data }, { on := 25, ground := Ground.data }, { on := 26, ground := Ground.data }, { on := 27, ground := Ground.data }, { on := 22, ground := Ground.chain }, { on := 22, ground := Ground.guard }], guard := some (22, true) }
def kk_o29 : Oper := { dst := some 83, op := Op.move (Operand.tmp 15), type := 4, pos := "more.go:35", after := #[{ on := 22, ground := Ground.guard }], guard := some (22, true) }
def kk_o30 : Oper := { dst := some 84, op := Op.move (Operand.tmp 83), type := 4, pos := "more.go:35", after := #[{ on := 29, ground := Ground.data }, { on := 28, ground := Ground.chain }, { on := 22, ground := Ground.guard }], guard := some (22, true) }
def kk_o31 : Oper := { dst := some 85, op := Op.move (Operand.tmp 16), type := 4, pos := "more.go:35", after := #[{ on := 30, ground := Ground.guard }], guard := some (30, true) }
def kk_o32 : Oper := { dst := some 86, op := Op.pick (Operand.tmp 84) (Operand.tmp 85) (Operand.const (Value.bool false)), type := 4, pos := "more.go:35", after := #[{ on := 30, ground := Ground.data }, { on := 31, ground := Ground.data }, { on := 22, ground := Ground.guard }], guard := some (22, true) }
def kk_o33 : Oper := { dst := some 87, op := Op.binOp BinOp.eql 4 (Operand.tmp 82) (Operand.tmp 86) 4, type := 4, pos := "more.go:35", after := #[{ on := 28, ground := Ground.data }, { on := 32, ground := Ground.data }, { on := 22, ground := Ground.guard }], guard := some (22, true) }
def kk_o34 : Oper := { dst := some 88, op := Op.pick (Operand.tmp 76) (Operand.tmp 87) (Operand.const (Value.bool false)), type := 4, pos := "more.go:35", after := #[{ on := 22, ground := Ground.data }, { on := 33, ground := Ground.data }], guard := none }
def kk_o35 : Oper := { dst := some 89, op := Op.move (Operand.tmp 88), type := 4, pos := "more.go:35", after := #[{ on := 34, ground := Ground.data }, { on := 30, ground := Ground.chain }], guard := none }
def kk_o36 : Oper := { dst := some 90, op := Op.load 26 (Operand.tmp 13), type := 26, pos := "more.go:35", after := #[{ on := 35, ground := Ground.guard }], guard := some (35, true) }
def kk_o37 : Oper := { dst := some 91, op := Op.load 29 (Operand.tmp 5), type := 29, pos := "more.go:35", after := #[{ on := 35, ground := Ground.guard }], guard := some (35, true) }
def kk_o38 : Oper := { dst := some 92, op := Op.load 31 (Operand.tmp 6), type := 31, pos := "more.go:35", after := #[{ on := 35, ground := Ground.guard }], guard := some (35, true) }
def kk_o39 : Oper := { dst := some 93, op := Op.move (Operand.tmp 17), type := 3, pos := "more.go:35", after := #[{ on := 35, ground := Ground.guard }], guard := some (35, true) }
def kk_o40 : Oper := { dst := some 94, op := Op.move (Operand.tmp 15), type := 4, pos := "more.go:35", after := #[{ on := 35, ground := Ground.guard }], guard := some (35, true) }
def kk_o41 : Oper := { dst := some 95, op := Op.call { callee := Callee.value (Operand.func 16), args := #[Operand.tmp 90, Operand.tmp 91, Operand.tmp 92, Operand.tmp 93, Operand.tmp 94], argTypes := #[26, 29, 31, 3, 4] }, type := 4, pos := "more.go:35", after := #[{ on := 36, ground := Ground.data }, { on := 37, ground := Ground.data }, { on := 38, ground := Ground.data }, { on := 39, ground := Ground.data }, { on := 40, ground := Ground.data }, { on := 35, ground := Ground.chain }, { on := 35, ground := Ground.guard }], guard := some (35, true) }
def kk_o42 : Oper := { dst := some 96, op := Op.move (Operand.tmp 15), type := 4, pos := "more.go:35", after := #[{ on := 35, ground := Ground.guard }], guard := some (35, true) }
def kk_o43 : Oper := { dst := some 97, op := Op.unOp UnOp.not 4 (Operand.tmp 96), type := 4, pos := "more.go:35", after := #[{ on := 42, ground := Ground.data }, { on := 35, ground := Ground.guard }], guard := some (35, true) }
def kk_o44 : Oper := { dst := some 98, op := Op.move (Operand.tmp 97), type := 4, pos := "more.go:35", after := #[{ on := 43, ground := Ground.data }, { on := 41, ground := Ground.chain }, { on := 35, ground := Ground.guard }], guard := some (35, true) }
def kk_o45 : Oper := { dst := some 99, op := Op.move (Operand.tmp 16), type := 4, pos := "more.go:35", after := #[{ on := 44, ground := Ground.guard }], guard := some (44, true) }
def kk_o46 : Oper := { dst := some 100, op := Op.pick (Operand.tmp 98) (Operand.tmp 99) (Operand.const (Value.bool false)), type := 4, pos := "more.go:35", after := #[{ on := 44, ground := Ground.data }, { on := 45, ground := Ground.data }, { on := 35, ground := Ground.guard }], guard := some (35, true) }
def kk_o47 : Oper := { dst := some 101, op := Op.binOp BinOp.eql 4 (Operand.tmp 95) (Operand.tmp 100) 4, type := 4, pos := "more.go:35", after := #[{ on := 41, ground := Ground.data }, { on := 46, ground := Ground.data }, { on := 35, ground := Ground.guard }], guard := some (35, true) }
def kk_o48 : Oper := { dst := some 102, op := Op.pick (Operand.tmp 89) (Operand.tmp 101) (Operand.const (Value.bool false)), type := 4, pos := "more.go:35", after := #[{ on := 35, ground := Ground.data }, { on := 47, ground := Ground.data }], guard := none }
def kk_o49 : Oper := { dst := some 103, op := Op.move (Operand.tmp 102), type := 4, pos := "more.go:35", after := #[{ on := 48, ground := Ground.data }, { on := 44, ground := Ground.chain }], guard := none }
def kk_o50 : Oper := { dst := some 104, op := Op.load 26 (Operand.tmp 14), type := 26, pos := "more.go:35", after := #[{ on := 49, ground := Ground.guard }], guard := some (49, true) }
def kk_o51 : Oper := { dst := some 105, op := Op.load 29 (Operand.tmp 5), type := 29, pos := "more.go:35", after := #[{ on := 49, ground := Ground.guard }], guard := some (49, true) }
def kk_o52 : Oper := { dst := some 106, op := Op.load 31 (Operand.tmp 6), type := 31, pos := "more.go:35", after := #[{ on := 49, ground := Ground.guard }], guard := some (49, true) }
def kk_o53 : Oper := { dst := some 107, op := Op.move (Operand.tmp 17), type := 3, pos := "more.go:35", after := #[{ on := 49, ground := Ground.guard }], guard := some (49, true) }
def kk_o54 : Oper := { dst := some 108, op := Op.move (Operand.tmp 15), type := 4, pos := "more.go:35", after := #[{ on := 49, ground := Ground.guard }], guard := some (49, true) }
def kk_o55 : Oper := { dst := some 109, op := Op.call { callee := Callee.value (Operand.func 16), args := #[Operand.tmp 104, Operand.tmp 105, Operand.tmp 106, Operand.tmp 107, Operand.tmp 108], argTypes := #[26, 29, 31, 3, 4] }, type := 4, pos := "more.go:35", after := #[{ on := 50, ground := Ground.data }, { on := 51, ground := Ground.data }, { on := 52, ground := Ground.data }, { on := 53, ground := Ground.data }, { on := 54, ground := Ground.data }, { on := 49, ground := Ground.chain }, { on := 49, ground := Ground.guard }], guard := some (49, true) }
def kk_o56 : Oper := { dst := some 110, op := Op.move (Operand.tmp 15), type := 4, pos := "more.go:35", after := #[{ on := 49, ground := Ground.guard }], guard := some (49, true) }
def kk_o57 : Oper := { dst := some 111, op := Op.unOp UnOp.not 4 (Operand.tmp 110), type := 4, pos := "more.go:35", after := #[{ on := 56, ground := Ground.data }, { on := 49, ground := Ground.guard }], guard := some (49, true) }
def kk_o58 : Oper := { dst := some 112, op := Op.binOp BinOp.eql 4 (Operand.tmp 109) (Operand.tmp 111) 4, type := 4, pos := "more.go:35", after := #[{ on := 55, ground := Ground.data }, { on := 57, ground := Ground.data }, { on := 49, ground := Ground.guard }], guard := some (49, true) }
def kk_o59 : Oper := { dst := some 113, op := Op.pick (Operand.tmp 103) (Operand.tmp 112) (Operand.const (Value.bool false)), type := 4, pos := "more.go:35", after := #[{ on := 49, ground := Ground.data }, { on := 58, ground := Ground.data }], guard := none }
def kk_o60 : Oper := { dst := some 114, op := Op.move (Operand.tmp 113), type := 4, pos := "more.go:35", after := #[{ on := 59, ground := Ground.data }, { on := 55, ground := Ground.chain }], guard := none }
def kk_o61 : Oper := { dst := some 115, op := Op.call { callee := Callee.value (Operand.func 18), args := #[Operand.const (Value.int IntKind.i64 0)], argTypes := #[35] }, type := 3, pos := "more.go:35", after := #[{ on := 60, ground := Ground.chain }, { on := 60, ground := Ground.guard }], guard := some (60, true) }
def kk_o62 : Oper := { dst := some 116, op := Op.binOp BinOp.eql 3 (Operand.tmp 115) (Operand.const (Value.int IntKind.i64 0)) 3, type := 4, pos := "more.go:35", after := #[{ on := 61, ground := Ground.data }, { on := 60, ground := Ground.guard }], guard := some (60, true) }
def kk_o63 : Oper := { dst := some 117, op := Op.pick (Operand.tmp 114) (Operand.tmp 116) (Operand.const (Value.bool false)), type := 4, pos := "more.go:35", after := #[{ on := 60, ground := Ground.data }, { on := 62, ground := Ground.data }], guard := none }
def kk_o64 : Oper := { dst := some 4, op := Op.assign (Operand.tmp 117), type := 4, pos := "more.go:35", after := ([{ on := 63, ground := Ground.data }, { on := 61, ground := Ground.chain }, { on := 0, ground := Ground.phase }, { on := 1, ground := Ground.phase }, { on := 2, ground := Ground.phase }, { on := 3, ground := Ground.phase }, { on := 4, ground := Ground.phase }, { on := 5, ground := Ground.phase }, { on := 6, ground := Ground.phase }, { on := 7, ground := Ground.phase }, { on := 8, ground := Ground.phase }, { on := 9, ground := Ground.phase }, { on := 10, ground := Ground.phase }, { on := 11, ground := Ground.phase }, { on := 12, ground := Ground.phase }, { on := 13, ground := Ground.phase }, { on := 14, ground := Ground.phase }, { on := 15, ground := Ground.phase }, { on := 16, ground := Ground.phase }, { on := 17, ground := Ground.phase }, { on := 18, ground := Ground.phase }, { on := 19, ground := Ground.phase }, { on := 20, ground := Ground.phase }, { on := 21, ground := Ground.phase }, { on := 22, ground := Ground.phase }, { on := 23, ground := Ground.phase }, { on := 24, ground := Ground.phase }, { on := 25, ground := Ground.phase }, { on := 26, ground := Ground.phase }, { on := 27, ground := Ground.phase }, { on := 28, ground := Ground.phase }, { on := 29, ground := Ground.phase }, { on := 30, ground := Ground.phase }].append [{ on := 31, ground := Ground.phase }, { on := 32, ground := Ground.phase }, { on := 33, ground := Ground.phase }, { on := 34, ground := Ground.phase }, { on := 35, ground := Ground.phase }, { on := 36, ground := Ground.phase }, { on := 37, ground := Ground.phase }, { on := 38, ground := Ground.phase }, { on := 39, ground := Ground.phase }, { on := 40, ground := Ground.phase }, { on := 41, ground := Ground.phase }, { on := 42, ground := Ground.phase }, { on := 43, ground := Ground.phase }, { on := 44, ground := Ground.phase }, { on := 45, ground := Ground.phase }, { on := 46, ground := Ground.phase }, { on := 47, ground := Ground.phase }, { on := 48, ground := Ground.phase }, { on := 49, ground := Ground.phase }, { on := 50, ground := Ground.phase }, { on := 51, ground := Ground.phase }, { on := 52, ground := Ground.phase }, { on := 53, ground := Ground.phase }, { on := 54, ground := Ground.phase }, { on := 55, ground := Ground.phase }, { on := 56, ground := Ground.phase }, { on := 57, ground := Ground.phase }, { on := 58, ground := Ground.phase }, { on := 59, ground := Ground.phase }, { on := 60, ground := Ground.phase }, { on := 61, ground := Ground.phase }, { on := 62, ground := Ground.phase }, { on := 63, ground := Ground.phase }]).toArray, guard := none }
def kk_ops : Array Oper := #[kk_o0, kk_o1, kk_o2, kk_o3, kk_o4, kk_o5, kk_o6, kk_o7, kk_o8, kk_o9, kk_o10, kk_o11, kk_o12, kk_o13, kk_o14, kk_o15, kk_o16, kk_o17, kk_o18, kk_o19, kk_o20, kk_o21, kk_o22, kk_o23, kk_o24, kk_o25, kk_o26, kk_o27, kk_o28, kk_o29, kk_o30, kk_o31, kk_o32, kk_o33, kk_o34, kk_o35, kk_o36, kk_o37, kk_o38, kk_o39, kk_o40, kk_o41, kk_o42, kk_o43, kk_o44, kk_o45, kk_o46, kk_o47, kk_o48, kk_o49, kk_o50, kk_o51, kk_o52, kk_o53, kk_o54, kk_o55, kk_o56, kk_o57, kk_o58, kk_o59, kk_o60, kk_o61, kk_o62, kk_o63, kk_o64]
def kk_V (sb pb b0 b1 b2 b3 b4 g : Nat) (x : Int) (y ky R : Bool) (r : Int) (m0 m1 m2 m3 m4 : Bool) (x7 : Bool) (x9 : Bool) (x10 : Bool) (x11 : Bool) (x18 : Bool) (x20 : Bool) (x21 : Bool) (x28 : Bool) (x32 : Bool) (x33 : Bool) (x34 : Bool) (x41 : Bool) (x43 : Bool) (x46 : Bool) (x47 : Bool) (x48 : Bool) (x55 : Bool) (x57 : Bool) (x58 : Bool) (x59 : Bool) (x61 : Int) (x62 : Bool) (x63 : Bool) : List (Bool × Value) := [(true, .bool y), (true, .bool y), ((true && (y == true)), .agg #[.int .i64 0, .int .i64 4, .int .i64 2, .int .i64 x, .int .i64 0, .int .i64 0, .bool false, .int .i64 0, .int .i64 0, .slice none 0 0, .slice none 0 0, .int .i64 0, .int .i64 0, .slice none 0 0, .slice none 0 0, .bool false, .slice none 0 0, .int .i64 26, .bool false, .int .i64 0, .int .i64 0]), ((true && (y == true)), .agg #[.int .i64 2, .int .i64 2, .int .i64 4, .int .i64 0, .int .i64 4, .int .i64 0, .slice none 0 0, .int .i64 2, .int .i64 0]), ((true && (y == true)), .agg #[.bool false, .bool false, .int .i64 0, .int .i64 26, .int .i64 0, .bool false, .bool false, .int .i64 1, .int .i64 1]), ((true && (y == true)), .int .i64 r), ((true && (y == true)), .bool ky), ((true && (y == true)), .bool x7), ((true && (y == true)), .bool ky), ((true && (y == true)), .bool x9), ((true && (y == true)), .bool x10), (true, .bool x11), (true, .bool x11), ((true && (x11 == true)), .agg #[.int .i64 0, .int .i64 4, .int .i64 2, .int .i64 0, .int .i64 x, .int .i64 0, .bool false, .int .i64 0, .int .i64 0, .slice none 0 0, .slice none 0 0, .int .i64 0, .int .i64 0, .slice none 0 0, .slice none 0 0, .bool false, .slice none 0 0, .int .i64 26, .bool false, .int .i64 0, .int .i64 0]), ((true && (x11 == true)), .agg #[.int .i64 2, .int .i64 2, .int .i64 4, .int .i64 0, .int .i64 4, .int .i64 0, .slice none 0 0, .int .i64 2, .int .i64 0]), ((true && (x11 == true)), .agg #[.bool false, .bool false, .int .i64 0, .int .i64 26, .int .i64 0, .bool false, .bool false, .int .i64 1, .int .i64 1]), ((true && (x11 == true)), .int .i64 r), ((true && (x11 == true)), .bool ky), ((true && (x11 == true)), .bool x18), ((true && (x11 == true)), .bool ky), ((true && (x11 == true)), .bool x20), (true, .bool x21), (true, .bool x21), ((true && (x21 == true)), .agg #[.int .i64 0, .int .i64 4, .int .i64 2, .int .i64 0, .int .i64 0, .int .i64 0, .bool false, .int .i64 0, .int .i64 0, .slice none 0 0, .slice none 0 0, .int .i64 0, .int .i64 0, .slice none 0 0, .slice none 0 0, .bool true, .slice none 0 0, .int .i64 26, .bool false, .int .i64 0, .int .i64 0]), ((true && (x21 == true)), .agg #[.int .i64 2, .int .i64 2, .int .i64 4, .int .i64 0, .int .i64 4, .int .i64 0, .slice none 0 0, .int .i64 2, .int .i64 0]), ((true && (x21 == true)), .agg #[.bool false, .bool false, .int .i64 0, .int .i64 26, .int .i64 0, .bool false, .bool false, .int .i64 1, .int .i64 1]), ((true && (x21 == true)), .int .i64 r), ((true && (x21 == true)), .bool ky), ((true && (x21 == true)), .bool x28), ((true && (x21 == true)), .bool ky), ((true && (x21 == true)), .bool ky), (((true && (x21 == true)) && (ky == true)), .bool R), ((true && (x21 == true)), .bool x32), ((true && (x21 == true)), .bool x33), (true, .bool x34), (true, .bool x34), ((true && (x34 == true)), .agg #[.int .i64 0, .int .i64 4, .int .i64 2, .int .i64 0, .int .i64 0, .int .i64 0, .bool false, .int .i64 0, .int .i64 0, .slice none 0 0, .slice none 0 0, .int .i64 0, .int .i64 0, .slice none 0 0, .slice none 0 0, .bool false, .slice (some ⟨g, 0, none⟩) 1 1, .int .i64 26, .bool false, .int .i64 0, .int .i64 0]), ((true && (x34 == true)), .agg #[.int .i64 2, .int .i64 2, .int .i64 4, .int .i64 0, .int .i64 4, .int .i64 0, .slice none 0 0, .int .i64 2, .int .i64 0]), ((true && (x34 == true)), .agg #[.bool false, .bool false, .int .i64 0, .int .i64 26, .int .i64 0, .bool false, .bool false, .int .i64 1, .int .i64 1]), ((true && (x34 == true)), .int .i64 r), ((true && (x34 == true)), .bool ky), ((true && (x34 == true)), .bool x41), ((true && (x34 == true)), .bool ky), ((true && (x34 == true)), .bool x43), ((true && (x34 == true)), .bool x43), (((true && (x34 == true)) && (x43 == true)), .bool R), ((true && (x34 == true)), .bool x46), ((true && (x34 == true)), .bool x47), (true, .bool x48), (true, .bool x48), ((true && (x48 == true)), .agg #[.int .i64 0, .int .i64 4, .int .i64 0, .int .i64 0, .int .i64 0, .int .i64 0, .bool false, .int .i64 1, .int .i64 0, .slice none 0 0, .slice none 0 0, .int .i64 0, .int .i64 0, .slice none 0 0, .slice none 0 0, .bool false, .slice none 0 0, .int .i64 26, .bool false, .int .i64 0, .int .i64 0]), ((true && (x48 == true)), .agg #[.int .i64 2, .int .i64 2, .int .i64 4, .int .i64 0, .int .i64 4, .int .i64 0, .slice none 0 0, .int .i64 2, .int .i64 0]), ((true && (x48 == true)), .agg #[.bool false, .bool false, .int .i64 0, .int .i64 26, .int .i64 0, .bool false, .bool false, .int .i64 1, .int .i64 1]), ((true && (x48 == true)), .int .i64 r), ((true && (x48 == true)), .bool ky), ((true && (x48 == true)), .bool x55), ((true && (x48 == true)), .bool ky), ((true && (x48 == true)), .bool x57), ((true && (x48 == true)), .bool x58), (true, .bool x59), (true, .bool x59), ((true && (x59 == true)), .int .i64 x61), ((true && (x59 == true)), .bool x62), (true, .bool x63), (true, .bool x63)]
section
set_option maxRecDepth 100000
set_option maxHeartbeats 1000000
variable {sb pb b0 b1 b2 b3 b4 g : Nat} {x : Int} {y ky R : Bool} {r : Int} {m0 m1 m2 m3 m4 : Bool} {x7 : Bool} {x9 : Bool} {x10 : Bool} {x11 : Bool} {x18 : Bool} {x20 : Bool} {x21 : Bool} {x28 : Bool} {x32 : Bool} {x33 : Bool} {x34 : Bool} {x41 : Bool} {x43 : Bool} {x46 : Bool} {x47 : Bool} {x48 : Bool} {x55 : Bool} {x57 : Bool} {x58 : Bool} {x59 : Bool} {x61 : Int} {x62 : Bool} {x63 : Bool} {Q : Exit → Act → World → Prop} {a0 : Act} {W0 : World}
theorem kk_s0 (A9 : a0.tmps[9]? = some (.bool y)) : StepOk Tryz.prog kk_ops Q a0 (qI W0) (qV (kk_V sb pb b0 b1 b2 b3 b4 g x y ky R r m0 m1 m2 m3 m4 x7 x9 x10 x11 x18 x20 x21 x28 x32 x33 x34 x41 x43 x46 x47 x48 x55 x57 x58 x59 x61 x62 x63)) 0 := by
  refine stepP kk_o0 (by kernel_rfl) rfl rfl ?_
  intro a w ho hI hp hB K hK
  have t9 := (ho 9 (by kernel_rfl)).trans A9
  have e9 := eval_slot t9
  clear ho hp
  unfold kk_o0
  go_simp
  exact hK _ _ hI rfl
theorem kk_s1 : StepOk Tryz.prog kk_ops Q a0 (qI W0) (qV (kk_V sb pb b0 b1 b2 b3 b4 g x y ky R r m0 m1 m2 m3 m4 x7 x9 x10 x11 x18 x20 x21 x28 x32 x33 x34 x41 x43 x46 x47 x48 x55 x57 x58 x59 x61 x62 x63)) 1 := by
  refine stepP kk_o1 (by kernel_rfl) rfl rfl ?_
  intro a w ho hI hp hB K hK
  have t54 : a.tmps[54]? = some (.bool y) := qt (hp 0 54 (by kernel_rfl)) _ rfl rfl
  have e54 := eval_slot t54
  clear ho hp
  unfold kk_o1
  go_simp
  exact hK _ _ hI rfl
theorem kk_s2 (RA : W0.heap[b0]? = some (.cells #[.int .i64 0, .int .i64 4, .int .i64 2, .int .i64 x, .int .i64 0, .int .i64 0, .bool false, .int .i64 0, .int .i64 0, .slice none 0 0, .slice none 0 0, .int .i64 0, .int .i64 0, .slice none 0 0, .slice none 0 0, .bool false, .slice none 0 0, .int .i64 26, .bool false, .int .i64 0, .int .i64 0] 26 (0, 0))) (A10 : a0.tmps[10]? = some (.pointer (some ⟨b0, 0, none⟩))) : StepOk Tryz.prog kk_ops Q a0 (qI W0) (qV (kk_V sb pb b0 b1 b2 b3 b4 g x y ky R r m0 m1 m2 m3 m4 x7 x9 x10 x11 x18 x20 x21 x28 x32 x33 x34 x41 x43 x46 x47 x48 x55 x57 x58 x59 x61 x62 x63)) 2 := by
  refine stepG kk_o2 1 55 (by kernel_rfl) rfl (by kernel_rfl) (by kernel_rfl) rfl rfl ?_
  intro a w ho hI hp hB K hK
  have t10 := (ho 10 (by kernel_rfl)).trans A10
  have e10 := eval_slot t10
  clear ho hp
  refine wp_load_mid (P := Tryz.prog) 26 (.tmp 10) rfl b0 0 e10 [.int .i64 0, .int .i64 4, .int .i64 2, .int .i64 x, .int .i64 0, .int .i64 0, .bool false, .int .i64 0, .int .i64 0, .slice none 0 0, .slice none 0 0, .int .i64 0, .int .i64 0, .slice none 0 0, .slice none 0 0, .bool false, .slice none 0 0, .int .i64 26, .bool false, .int .i64 0, .int .i64 0] _ (fun j v hv => qcell hI RA (0 + j) v (by rw [Nat.zero_add]; simpa using hv)) Tryz.underlying26 rfl (by kernel_rfl) ?_
  exact hK _ _ hI rfl
theorem kk_s3 (RS : W0.heap[sb]? = some (.cells #[.int .i64 2, .int .i64 2, .int .i64 4, .int .i64 0, .int .i64 4, .int .i64 0, .slice none 0 0, .int .i64 2, .int .i64 0] 29 (0, 0))) (A5 : a0.tmps[5]? = some (.pointer (some ⟨sb, 0, none⟩))) : StepOk Tryz.prog kk_ops Q a0 (qI W0) (qV (kk_V sb pb b0 b1 b2 b3 b4 g x y ky R r m0 m1 m2 m3 m4 x7 x9 x10 x11 x18 x20 x21 x28 x32 x33 x34 x41 x43 x46 x47 x48 x55 x57 x58 x59 x61 x62 x63)) 3 := by
  refine stepG kk_o3 1 55 (by kernel_rfl) rfl (by kernel_rfl) (by kernel_rfl) rfl rfl ?_
  intro a w ho hI hp hB K hK
  have t5 := (ho 5 (by kernel_rfl)).trans A5
  have e5 := eval_slot t5
  clear ho hp
  refine wp_load_mid (P := Tryz.prog) 29 (.tmp 5) rfl sb 0 e5 [.int .i64 2, .int .i64 2, .int .i64 4, .int .i64 0, .int .i64 4, .int .i64 0, .slice none 0 0, .int .i64 2, .int .i64 0] _ (fun j v hv => qcell hI RS (0 + j) v (by rw [Nat.zero_add]; simpa using hv)) Tryz.underlying29 rfl (by kernel_rfl) ?_
  exact hK _ _ hI rfl
theorem kk_s4 (RP : W0.heap[pb]? = some (.cells #[.bool false, .bool false, .int .i64 0, .int .i64 26, .int .i64 0, .bool false, .bool false, .int .i64 1, .int .i64 1] 31 (0, 0))) (A6 : a0.tmps[6]? = some (.pointer (some ⟨pb, 0, none⟩))) : StepOk Tryz.prog kk_ops Q a0 (qI W0) (qV (kk_V sb pb b0 b1 b2 b3 b4 g x y ky R r m0 m1 m2 m3 m4 x7 x9 x10 x11 x18 x20 x21 x28 x32 x33 x34 x41 x43 x46 x47 x48 x55 x57 x58 x59 x61 x62 x63)) 4 := by
  refine stepG kk_o4 1 55 (by kernel_rfl) rfl (by kernel_rfl) (by kernel_rfl) rfl rfl ?_
  intro a w ho hI hp hB K hK
  have t6 := (ho 6 (by kernel_rfl)).trans A6
  have e6 := eval_slot t6
  clear ho hp
  refine wp_load_mid (P := Tryz.prog) 31 (.tmp 6) rfl pb 0 e6 [.bool false, .bool false, .int .i64 0, .int .i64 26, .int .i64 0, .bool false, .bool false, .int .i64 1, .int .i64 1] _ (fun j v hv => qcell hI RP (0 + j) v (by rw [Nat.zero_add]; simpa using hv)) Tryz.underlying31 rfl (by kernel_rfl) ?_
  exact hK _ _ hI rfl
theorem kk_s5 (A17 : a0.tmps[17]? = some (.int .i64 r)) : StepOk Tryz.prog kk_ops Q a0 (qI W0) (qV (kk_V sb pb b0 b1 b2 b3 b4 g x y ky R r m0 m1 m2 m3 m4 x7 x9 x10 x11 x18 x20 x21 x28 x32 x33 x34 x41 x43 x46 x47 x48 x55 x57 x58 x59 x61 x62 x63)) 5 := by
  refine stepG kk_o5 1 55 (by kernel_rfl) rfl (by kernel_rfl) (by kernel_rfl) rfl rfl ?_
  intro a w ho hI hp hB K hK
  have t17 := (ho 17 (by kernel_rfl)).trans A17
  have e17 := eval_slot t17
  clear ho hp
  unfold kk_o5
  go_simp
  exact hK _ _ hI rfl
theorem kk_s6 (A15 : a0.tmps[15]? = some (.bool ky)) : StepOk Tryz.prog kk_ops Q a0 (qI W0) (qV (kk_V sb pb b0 b1 b2 b3 b4 g x y ky R r m0 m1 m2 m3 m4 x7 x9 x10 x11 x18 x20 x21 x28 x32 x33 x34 x41 x43 x46 x47 x48 x55 x57 x58 x59 x61 x62 x63)) 6 := by
  refine stepG kk_o6 1 55 (by kernel_rfl) rfl (by kernel_rfl) (by kernel_rfl) rfl rfl ?_
  intro a w ho hI hp hB K hK
  have t15 := (ho 15 (by kernel_rfl)).trans A15
  have e15 := eval_slot t15
  clear ho hp
  unfold kk_o6
  go_simp
  exact hK _ _ hI rfl
theorem kk_s7 (M0 : ∀ wr : World, qI W0 wr → Calls Tryz.prog 16 #[.agg #[.int .i64 0, .int .i64 4, .int .i64 2, .int .i64 x, .int .i64 0, .int .i64 0, .bool false, .int .i64 0, .int .i64 0, .slice none 0 0, .slice none 0 0, .int .i64 0, .int .i64 0, .slice none 0 0, .slice none 0 0, .bool false, .slice none 0 0, .int .i64 26, .bool false, .int .i64 0, .int .i64 0], .agg #[.int .i64 2, .int .i64 2, .int .i64 4, .int .i64 0, .int .i64 4, .int .i64 0, .slice none 0 0, .int .i64 2, .int .i64 0], .agg #[.bool false, .bool false, .int .i64 0, .int .i64 26, .int .i64 0, .bool false, .bool false, .int .i64 1, .int .i64 1], .int .i64 r, .bool ky] wr fun e w' => e = .returned (.bool m0) ∧ Below wr.heap.size wr w') (hx : x7 = m0) : StepOk Tryz.prog kk_ops Q a0 (qI W0) (qV (kk_V sb pb b0 b1 b2 b3 b4 g x y ky R r m0 m1 m2 m3 m4 x7 x9 x10 x11 x18 x20 x21 x28 x32 x33 x34 x41 x43 x46 x47 x48 x55 x57 x58 x59 x61 x62 x63)) 7 := by
  refine stepG kk_o7 1 55 (by kernel_rfl) rfl (by kernel_rfl) (by kernel_rfl) rfl rfl ?_
  intro a w ho hI hp hB K hK
  have t56 : a.tmps[56]? = some (.agg #[.int .i64 0, .int .i64 4, .int .i64 2, .int .i64 x, .int .i64 0, .int .i64 0, .bool false, .int .i64 0, .int .i64 0, .slice none 0 0, .slice none 0 0, .int .i64 0, .int .i64 0, .slice none 0 0, .slice none 0 0, .bool false, .slice none 0 0, .int .i64 26, .bool false, .int .i64 0, .int .i64 0]) := qt (hp 2 56 (by kernel_rfl)) _ rfl hB
  have e56 := eval_slot t56
  have t57 : a.tmps[57]? = some (.agg #[.int .i64 2, .int .i64 2, .int .i64 4, .int .i64 0, .int .i64 4, .int .i64 0, .slice none 0 0, .int .i64 2, .int .i64 0]) := qt (hp 3 57 (by kernel_rfl)) _ rfl hB
  have e57 := eval_slot t57
  have t58 : a.tmps[58]? = some (.agg #[.bool false, .bool false, .int .i64 0, .int .i64 26, .int .i64 0, .bool false, .bool false, .int .i64 1, .int .i64 1]) := qt (hp 4 58 (by kernel_rfl)) _ rfl hB
  have e58 := eval_slot t58
  have t59 : a.tmps[59]? = some (.int .i64 r) := qt (hp 5 59 (by kernel_rfl)) _ rfl hB
  have e59 := eval_slot t59
  have t60 : a.tmps[60]? = some (.bool ky) := qt (hp 6 60 (by kernel_rfl)) _ rfl hB
  have e60 := eval_slot t60
  clear ho hp
  unfold kk_o7
  go_simp
  refine (M0 w hI).mono ?_
  rintro e w' ⟨rfl, b⟩
  exact hK _ _ (hI.step b) (congrArg (Value.bool) hx.symm)
theorem kk_s8 (A15 : a0.tmps[15]? = some (.bool ky)) : StepOk Tryz.prog kk_ops Q a0 (qI W0) (qV (kk_V sb pb b0 b1 b2 b3 b4 g x y ky R r m0 m1 m2 m3 m4 x7 x9 x10 x11 x18 x20 x21 x28 x32 x33 x34 x41 x43 x46 x47 x48 x55 x57 x58 x59 x61 x62 x63)) 8 := by
  refine stepG kk_o8 1 55 (by kernel_rfl) rfl (by kernel_rfl) (by kernel_rfl) rfl rfl ?_
  intro a w ho hI hp hB K hK
  have t15 := (ho 15 (by kernel_rfl)).trans A15
  have e15 := eval_slot t15
  clear ho hp
  unfold kk_o8
  go_simp
  exact hK _ _ hI rfl
theorem kk_s9 (hx : x9 = (!ky)) : StepOk Tryz.prog kk_ops Q a0 (qI W0) (qV (kk_V sb pb b0 b1 b2 b3 b4 g x y ky R r m0 m1 m2 m3 m4 x7 x9 x10 x11 x18 x20 x21 x28 x32 x33 x34 x41 x43 x46 x47 x48 x55 x57 x58 x59 x61 x62 x63)) 9 := by
  refine stepG kk_o9 1 55 (by kernel_rfl) rfl (by kernel_rfl) (by kernel_rfl) rfl rfl ?_
  intro a w ho hI hp hB K hK
  have t62 : a.tmps[62]? = some (.bool ky) := qt (hp 8 62 (by kernel_rfl)) _ rfl hB
  have e62 := eval_slot t62
  clear ho hp
  unfold kk_o9
  go_simp
  exact hK _ _ hI (congrArg (Value.bool) hx.symm)
theorem kk_s10 (hx : x10 = (x7 == x9)) : StepOk Tryz.prog kk_ops Q a0 (qI W0) (qV (kk_V sb pb b0 b1 b2 b3 b4 g x y ky R r m0 m1 m2 m3 m4 x7 x9 x10 x11 x18 x20 x21 x28 x32 x33 x34 x41 x43 x46 x47 x48 x55 x57 x58 x59 x61 x62 x63)) 10 := by
  refine stepG kk_o10 1 55 (by kernel_rfl) rfl (by kernel_rfl) (by kernel_rfl) rfl rfl ?_
  intro a w ho hI hp hB K hK
  have t61 : a.tmps[61]? = some (.bool x7) := qt (hp 7 61 (by kernel_rfl)) _ rfl hB
  have e61 := eval_slot t61
  have t63 : a.tmps[63]? = some (.bool x9) := qt (hp 9 63 (by kernel_rfl)) _ rfl hB
  have e63 := eval_slot t63
  clear ho hp
  unfold kk_o10
  go_simp
  exact hK _ _ hI (congrArg (Value.bool) hx.symm)
theorem kk_s11 (hx : x11 = (y && x10)) : StepOk Tryz.prog kk_ops Q a0 (qI W0) (qV (kk_V sb pb b0 b1 b2 b3 b4 g x y ky R r m0 m1 m2 m3 m4 x7 x9 x10 x11 x18 x20 x21 x28 x32 x33 x34 x41 x43 x46 x47 x48 x55 x57 x58 x59 x61 x62 x63)) 11 := by
  refine stepP kk_o11 (by kernel_rfl) rfl rfl ?_
  intro a w ho hI hp hB K hK
  have t55 : a.tmps[55]? = some (.bool y) := qt (hp 1 55 (by kernel_rfl)) _ rfl rfl
  have e55 := eval_slot t55
  clear ho
  cases hq : y with
  | false =>
    have hz := hx.trans (by rw [hq]; rfl : _ = false)
    clear hp
    rw [hq] at e55
    unfold kk_o11
    go_simp
    exact hK _ _ hI (congrArg Value.bool hz.symm)
  | true =>
    have hz := hx.trans (by rw [hq]; rfl : _ = x10)
    have t64 : a.tmps[64]? = some (.bool x10) := qt (hp 10 64 (by kernel_rfl)) _ rfl (by rw [hq]; rfl)
    have e64 := eval_slot t64
    clear hp
    rw [hq] at e55
    unfold kk_o11
    go_simp
    exact hK _ _ hI (congrArg Value.bool hz.symm)
theorem kk_s12 : StepOk Tryz.prog kk_ops Q a0 (qI W0) (qV (kk_V sb pb b0 b1 b2 b3 b4 g x y ky R r m0 m1 m2 m3 m4 x7 x9 x10 x11 x18 x20 x21 x28 x32 x33 x34 x41 x43 x46 x47 x48 x55 x57 x58 x59 x61 x62 x63)) 12 := by
  refine stepP kk_o12 (by kernel_rfl) rfl rfl ?_
  intro a w ho hI hp hB K hK
  have t65 : a.tmps[65]? = some (.bool x11) := qt (hp 11 65 (by kernel_rfl)) _ rfl rfl
  have e65 := eval_slot t65
  clear ho hp
  unfold kk_o12
  go_simp
  exact hK _ _ hI rfl
theorem kk_s13 (RB : W0.heap[b1]? = some (.cells #[.int .i64 0, .int .i64 4, .int .i64 2, .int .i64 0, .int .i64 x, .int .i64 0, .bool false, .int .i64 0, .int .i64 0, .slice none 0 0, .slice none 0 0, .int .i64 0, .int .i64 0, .slice none 0 0, .slice none 0 0, .bool false, .slice none 0 0, .int .i64 26, .bool false, .int .i64 0, .int .i64 0] 26 (0, 0))) (A11 : a0.tmps[11]? = some (.pointer (some ⟨b1, 0, none⟩))) : StepOk Tryz.prog kk_ops Q a0 (qI W0) (qV (kk_V sb pb b0 b1 b2 b3 b4 g x y ky R r m0 m1 m2 m3 m4 x7 x9 x10 x11 x18 x20 x21 x28 x32 x33 x34 x41 x43 x46 x47 x48 x55 x57 x58 x59 x61 x62 x63)) 13 := by
  refine stepG kk_o13 12 66 (by kernel_rfl) rfl (by kernel_rfl) (by kernel_rfl) rfl rfl ?_
  intro a w ho hI hp hB K hK
  have t11 := (ho 11 (by kernel_rfl)).trans A11
  have e11 := eval_slot t11
  clear ho hp
  refine wp_load_mid (P := Tryz.prog) 26 (.tmp 11) rfl b1 0 e11 [.int .i64 0, .int .i64 4, .int .i64 2, .int .i64 0, .int .i64 x, .int .i64 0, .bool false, .int .i64 0, .int .i64 0, .slice none 0 0, .slice none 0 0, .int .i64 0, .int .i64 0, .slice none 0 0, .slice none 0 0, .bool false, .slice none 0 0, .int .i64 26, .bool false, .int .i64 0, .int .i64 0] _ (fun j v hv => qcell hI RB (0 + j) v (by rw [Nat.zero_add]; simpa using hv)) Tryz.underlying26 rfl (by kernel_rfl) ?_
  exact hK _ _ hI rfl
theorem kk_s14 (RS : W0.heap[sb]? = some (.cells #[.int .i64 2, .int .i64 2, .int .i64 4, .int .i64 0, .int .i64 4, .int .i64 0, .slice none 0 0, .int .i64 2, .int .i64 0] 29 (0, 0))) (A5 : a0.tmps[5]? = some (.pointer (some ⟨sb, 0, none⟩))) : StepOk Tryz.prog kk_ops Q a0 (qI W0) (qV (kk_V sb pb b0 b1 b2 b3 b4 g x y ky R r m0 m1 m2 m3 m4 x7 x9 x10 x11 x18 x20 x21 x28 x32 x33 x34 x41 x43 x46 x47 x48 x55 x57 x58 x59 x61 x62 x63)) 14 := by
  refine stepG kk_o14 12 66 (by kernel_rfl) rfl (by kernel_rfl) (by kernel_rfl) rfl rfl ?_
  intro a w ho hI hp hB K hK
  have t5 := (ho 5 (by kernel_rfl)).trans A5
  have e5 := eval_slot t5
  clear ho hp
  refine wp_load_mid (P := Tryz.prog) 29 (.tmp 5) rfl sb 0 e5 [.int .i64 2, .int .i64 2, .int .i64 4, .int .i64 0, .int .i64 4, .int .i64 0, .slice none 0 0, .int .i64 2, .int .i64 0] _ (fun j v hv => qcell hI RS (0 + j) v (by rw [Nat.zero_add]; simpa using hv)) Tryz.underlying29 rfl (by kernel_rfl) ?_
  exact hK _ _ hI rfl
theorem kk_s15 (RP : W0.heap[pb]? = some (.cells #[.bool false, .bool false, .int .i64 0, .int .i64 26, .int .i64 0, .bool false, .bool false, .int .i64 1, .int .i64 1] 31 (0, 0))) (A6 : a0.tmps[6]? = some (.pointer (some ⟨pb, 0, none⟩))) : StepOk Tryz.prog kk_ops Q a0 (qI W0) (qV (kk_V sb pb b0 b1 b2 b3 b4 g x y ky R r m0 m1 m2 m3 m4 x7 x9 x10 x11 x18 x20 x21 x28 x32 x33 x34 x41 x43 x46 x47 x48 x55 x57 x58 x59 x61 x62 x63)) 15 := by
  refine stepG kk_o15 12 66 (by kernel_rfl) rfl (by kernel_rfl) (by kernel_rfl) rfl rfl ?_
  intro a w ho hI hp hB K hK
  have t6 := (ho 6 (by kernel_rfl)).trans A6
  have e6 := eval_slot t6
  clear ho hp
  refine wp_load_mid (P := Tryz.prog) 31 (.tmp 6) rfl pb 0 e6 [.bool false, .bool false, .int .i64 0, .int .i64 26, .int .i64 0, .bool false, .bool false, .int .i64 1, .int .i64 1] _ (fun j v hv => qcell hI RP (0 + j) v (by rw [Nat.zero_add]; simpa using hv)) Tryz.underlying31 rfl (by kernel_rfl) ?_
  exact hK _ _ hI rfl
theorem kk_s16 (A17 : a0.tmps[17]? = some (.int .i64 r)) : StepOk Tryz.prog kk_ops Q a0 (qI W0) (qV (kk_V sb pb b0 b1 b2 b3 b4 g x y ky R r m0 m1 m2 m3 m4 x7 x9 x10 x11 x18 x20 x21 x28 x32 x33 x34 x41 x43 x46 x47 x48 x55 x57 x58 x59 x61 x62 x63)) 16 := by
  refine stepG kk_o16 12 66 (by kernel_rfl) rfl (by kernel_rfl) (by kernel_rfl) rfl rfl ?_
  intro a w ho hI hp hB K hK
  have t17 := (ho 17 (by kernel_rfl)).trans A17
  have e17 := eval_slot t17
  clear ho hp
  unfold kk_o16
  go_simp
  exact hK _ _ hI rfl
theorem kk_s17 (A15 : a0.tmps[15]? = some (.bool ky)) : StepOk Tryz.prog kk_ops Q a0 (qI W0) (qV (kk_V sb pb b0 b1 b2 b3 b4 g x y ky R r m0 m1 m2 m3 m4 x7 x9 x10 x11 x18 x20 x21 x28 x32 x33 x34 x41 x43 x46 x47 x48 x55 x57 x58 x59 x61 x62 x63)) 17 := by
  refine stepG kk_o17 12 66 (by kernel_rfl) rfl (by kernel_rfl) (by kernel_rfl) rfl rfl ?_
  intro a w ho hI hp hB K hK
  have t15 := (ho 15 (by kernel_rfl)).trans A15
  have e15 := eval_slot t15
  clear ho hp
  unfold kk_o17
  go_simp
  exact hK _ _ hI rfl
theorem kk_s18 (M1 : ∀ wr : World, qI W0 wr → Calls Tryz.prog 16 #[.agg #[.int .i64 0, .int .i64 4, .int .i64 2, .int .i64 0, .int .i64 x, .int .i64 0, .bool false, .int .i64 0, .int .i64 0, .slice none 0 0, .slice none 0 0, .int .i64 0, .int .i64 0, .slice none 0 0, .slice none 0 0, .bool false, .slice none 0 0, .int .i64 26, .bool false, .int .i64 0, .int .i64 0], .agg #[.int .i64 2, .int .i64 2, .int .i64 4, .int .i64 0, .int .i64 4, .int .i64 0, .slice none 0 0, .int .i64 2, .int .i64 0], .agg #[.bool false, .bool false, .int .i64 0, .int .i64 26, .int .i64 0, .bool false, .bool false, .int .i64 1, .int .i64 1], .int .i64 r, .bool ky] wr fun e w' => e = .returned (.bool m1) ∧ Below wr.heap.size wr w') (hx : x18 = m1) : StepOk Tryz.prog kk_ops Q a0 (qI W0) (qV (kk_V sb pb b0 b1 b2 b3 b4 g x y ky R r m0 m1 m2 m3 m4 x7 x9 x10 x11 x18 x20 x21 x28 x32 x33 x34 x41 x43 x46 x47 x48 x55 x57 x58 x59 x61 x62 x63)) 18 := by
  refine stepG kk_o18 12 66 (by kernel_rfl) rfl (by kernel_rfl) (by kernel_rfl) rfl rfl ?_
  intro a w ho hI hp hB K hK
  have t67 : a.tmps[67]? = some (.agg #[.int .i64 0, .int .i64 4, .int .i64 2, .int .i64 0, .int .i64 x, .int .i64 0, .bool false, .int .i64 0, .int .i64 0, .slice none 0 0, .slice none 0 0, .int .i64 0, .int .i64 0, .slice none 0 0, .slice none 0 0, .bool false, .slice none 0 0, .int .i64 26, .bool false, .int .i64 0, .int .i64 0]) := qt (hp 13 67 (by kernel_rfl)) _ rfl hB
  have e67 := eval_slot t67
  have t68 : a.tmps[68]? = some (.agg #[.int .i64 2, .int .i64 2, .int .i64 4, .int .i64 0, .int .i64 4, .int .i64 0, .slice none 0 0, .int .i64 2, .int .i64 0]) := qt (hp 14 68 (by kernel_rfl)) _ rfl hB
  have e68 := eval_slot t68
  have t69 : a.tmps[69]? = some (.agg #[.bool false, .bool false, .int .i64 0, .int .i64 26, .int .i64 0, .bool false, .bool false, .int .i64 1, .int .i64 1]) := qt (hp 15 69 (by kernel_rfl)) _ rfl hB
  have e69 := eval_slot t69
  have t70 : a.tmps[70]? = some (.int .i64 r) := qt (hp 16 70 (by kernel_rfl)) _ rfl hB
  have e70 := eval_slot t70
  have t71 : a.tmps[71]? = some (.bool ky) := qt (hp 17 71 (by kernel_rfl)) _ rfl hB
  have e71 := eval_slot t71
  clear ho hp
  unfold kk_o18
  go_simp
  refine (M1 w hI).mono ?_
  rintro e w' ⟨rfl, b⟩
  exact hK _ _ (hI.step b) (congrArg (Value.bool) hx.symm)
theorem kk_s19 (A15 : a0.tmps[15]? = some (.bool ky)) : StepOk Tryz.prog kk_ops Q a0 (qI W0) (qV (kk_V sb pb b0 b1 b2 b3 b4 g x y ky R r m0 m1 m2 m3 m4 x7 x9 x10 x11 x18 x20 x21 x28 x32 x33 x34 x41 x43 x46 x47 x48 x55 x57 x58 x59 x61 x62 x63)) 19 := by
  refine stepG kk_o19 12 66 (by kernel_rfl) rfl (by kernel_rfl) (by kernel_rfl) rfl rfl ?_
  intro a w ho hI hp hB K hK
  have t15 := (ho 15 (by kernel_rfl)).trans A15
  have e15 := eval_slot t15
  clear ho hp
  unfold kk_o19
  go_simp
  exact hK _ _ hI rfl
theorem kk_s20 (hx : x20 = (x18 == ky)) : StepOk Tryz.prog kk_ops Q a0 (qI W0) (qV (kk_V sb pb b0 b1 b2 b3 b4 g x y ky R r m0 m1 m2 m3 m4 x7 x9 x10 x11 x18 x20 x21 x28 x32 x33 x34 x41 x43 x46 x47 x48 x55 x57 x58 x59 x61 x62 x63)) 20 := by
  refine stepG kk_o20 12 66 (by kernel_rfl) rfl (by kernel_rfl) (by kernel_rfl) rfl rfl ?_
  intro a w ho hI hp hB K hK
  have t72 : a.tmps[72]? = some (.bool x18) := qt (hp 18 72 (by kernel_rfl)) _ rfl hB
  have e72 := eval_slot t72
  have t73 : a.tmps[73]? = some (.bool ky) := qt (hp 19 73 (by kernel_rfl)) _ rfl hB
  have e73 := eval_slot t73
  clear ho hp
  unfold kk_o20
  go_simp
  exact hK _ _ hI (congrArg (Value.bool) hx.symm)
theorem kk_s21 (hx : x21 = (x11 && x20)) : StepOk Tryz.prog kk_ops Q a0 (qI W0) (qV (kk_V sb pb b0 b1 b2 b3 b4 g x y ky R r m0 m1 m2 m3 m4 x7 x9 x10 x11 x18 x20 x21 x28 x32 x33 x34 x41 x43 x46 x47 x48 x55 x57 x58 x59 x61 x62 x63)) 21 := by
  refine stepP kk_o21 (by kernel_rfl) rfl rfl ?_
  intro a w ho hI hp hB K hK
  have t66 : a.tmps[66]? = some (.bool x11) := qt (hp 12 66 (by kernel_rfl)) _ rfl rfl
  have e66 := eval_slot t66
  clear ho
  cases hq : x11 with
  | false =>
    have hz := hx.trans (by rw [hq]; rfl : _ = false)
    clear hp
    rw [hq] at e66
    unfold kk_o21
    go_simp
    exact hK _ _ hI (congrArg Value.bool hz.symm)
  | true =>
    have hz := hx.trans (by rw [hq]; rfl : _ = x20)
    have t74 : a.tmps[74]? = some (.bool x20) := qt (hp 20 74 (by kernel_rfl)) _ rfl (by rw [hq]; rfl)
    have e74 := eval_slot t74
    clear hp
    rw [hq] at e66
    unfold kk_o21
    go_simp
    exact hK _ _ hI (congrArg Value.bool hz.symm)
theorem kk_s22 : StepOk Tryz.prog kk_ops Q a0 (qI W0) (qV (kk_V sb pb b0 b1 b2 b3 b4 g x y ky R r m0 m1 m2 m3 m4 x7 x9 x10 x11 x18 x20 x21 x28 x32 x33 x34 x41 x43 x46 x47 x48 x55 x57 x58 x59 x61 x62 x63)) 22 := by
  refine stepP kk_o22 (by kernel_rfl) rfl rfl ?_
  intro a w ho hI hp hB K hK
  have t75 : a.tmps[75]? = some (.bool x21) := qt (hp 21 75 (by kernel_rfl)) _ rfl rfl
  have e75 := eval_slot t75
  clear ho hp
  unfold kk_o22
  go_simp
  exact hK _ _ hI rfl
theorem kk_s23 (RC : W0.heap[b2]? = some (.cells #[.int .i64 0, .int .i64 4, .int .i64 2, .int .i64 0, .int .i64 0, .int .i64 0, .bool false, .int .i64 0, .int .i64 0, .slice none 0 0, .slice none 0 0, .int .i64 0, .int .i64 0, .slice none 0 0, .slice none 0 0, .bool true, .slice none 0 0, .int .i64 26, .bool false, .int .i64 0, .int .i64 0] 26 (0, 0))) (A12 : a0.tmps[12]? = some (.pointer (some ⟨b2, 0, none⟩))) : StepOk Tryz.prog kk_ops Q a0 (qI W0) (qV (kk_V sb pb b0 b1 b2 b3 b4 g x y ky R r m0 m1 m2 m3 m4 x7 x9 x10 x11 x18 x20 x21 x28 x32 x33 x34 x41 x43 x46 x47 x48 x55 x57 x58 x59 x61 x62 x63)) 23 := by
  refine stepG kk_o23 22 76 (by kernel_rfl) rfl (by kernel_rfl) (by kernel_rfl) rfl rfl ?_
  intro a w ho hI hp hB K hK
  have t12 := (ho 12 (by kernel_rfl)).trans A12
  have e12 := eval_slot t12
  clear ho hp
  refine wp_load_mid (P := Tryz.prog) 26 (.tmp 12) rfl b2 0 e12 [.int .i64 0, .int .i64 4, .int .i64 2, .int .i64 0, .int .i64 0, .int .i64 0, .bool false, .int .i64 0, .int .i64 0, .slice none 0 0, .slice none 0 0, .int .i64 0, .int .i64 0, .slice none 0 0, .slice none 0 0, .bool true, .slice none 0 0, .int .i64 26, .bool false, .int .i64 0, .int .i64 0] _ (fun j v hv => qcell hI RC (0 + j) v (by rw [Nat.zero_add]; simpa using hv)) Tryz.underlying26 rfl (by kernel_rfl) ?_
  exact hK _ _ hI rfl
theorem kk_s24 (RS : W0.heap[sb]? = some (.cells #[.int .i64 2, .int .i64 2, .int .i64 4, .int .i64 0, .int .i64 4, .int .i64 0, .slice none 0 0, .int .i64 2, .int .i64 0] 29 (0, 0))) (A5 : a0.tmps[5]? = some (.pointer (some ⟨sb, 0, none⟩))) : StepOk Tryz.prog kk_ops Q a0 (qI W0) (qV (kk_V sb pb b0 b1 b2 b3 b4 g x y ky R r m0 m1 m2 m3 m4 x7 x9 x10 x11 x18 x20 x21 x28 x32 x33 x34 x41 x43 x46 x47 x48 x55 x57 x58 x59 x61 x62 x63)) 24 := by
  refine stepG kk_o24 22 76 (by kernel_rfl) rfl (by kernel_rfl) (by kernel_rfl) rfl rfl ?_
  intro a w ho hI hp hB K hK
  have t5 := (ho 5 (by kernel_rfl)).trans A5
  have e5 := eval_slot t5
  clear ho hp
  refine wp_load_mid (P := Tryz.prog) 29 (.tmp 5) rfl sb 0 e5 [.int .i64 2, .int .i64 2, .int .i64 4, .int .i64 0, .int .i64 4, .int .i64 0, .slice none 0 0, .int .i64 2, .int .i64 0] _ (fun j v hv => qcell hI RS (0 + j) v (by rw [Nat.zero_add]; simpa using hv)) Tryz.underlying29 rfl (by kernel_rfl) ?_
  exact hK _ _ hI rfl
theorem kk_s25 (RP : W0.heap[pb]? = some (.cells #[.bool false, .bool false, .int .i64 0, .int .i64 26, .int .i64 0, .bool false, .bool false, .int .i64 1, .int .i64 1] 31 (0, 0))) (A6 : a0.tmps[6]? = some (.pointer (some ⟨pb, 0, none⟩))) : StepOk Tryz.prog kk_ops Q a0 (qI W0) (qV (kk_V sb pb b0 b1 b2 b3 b4 g x y ky R r m0 m1 m2 m3 m4 x7 x9 x10 x11 x18 x20 x21 x28 x32 x33 x34 x41 x43 x46 x47 x48 x55 x57 x58 x59 x61 x62 x63)) 25 := by
  refine stepG kk_o25 22 76 (by kernel_rfl) rfl (by kernel_rfl) (by kernel_rfl) rfl rfl ?_
  intro a w ho hI hp hB K hK
  have t6 := (ho 6 (by kernel_rfl)).trans A6
  have e6 := eval_slot t6
  clear ho hp
  refine wp_load_mid (P := Tryz.prog) 31 (.tmp 6) rfl pb 0 e6 [.bool false, .bool false, .int .i64 0, .int .i64 26, .int .i64 0, .bool false, .bool false, .int .i64 1, .int .i64 1] _ (fun j v hv => qcell hI RP (0 + j) v (by rw [Nat.zero_add]; simpa using hv)) Tryz.underlying31 rfl (by kernel_rfl) ?_
  exact hK _ _ hI rfl
theorem kk_s26 (A17 : a0.tmps[17]? = some (.int .i64 r)) : StepOk Tryz.prog kk_ops Q a0 (qI W0) (qV (kk_V sb pb b0 b1 b2 b3 b4 g x y ky R r m0 m1 m2 m3 m4 x7 x9 x10 x11 x18 x20 x21 x28 x32 x33 x34 x41 x43 x46 x47 x48 x55 x57 x58 x59 x61 x62 x63)) 26 := by
  refine stepG kk_o26 22 76 (by kernel_rfl) rfl (by kernel_rfl) (by kernel_rfl) rfl rfl ?_
  intro a w ho hI hp hB K hK
  have t17 := (ho 17 (by kernel_rfl)).trans A17
  have e17 := eval_slot t17
  clear ho hp
  unfold kk_o26
  go_simp
  exact hK _ _ hI rfl
theorem kk_s27 (A15 : a0.tmps[15]? = some (.bool ky)) : StepOk Tryz.prog kk_ops Q a0 (qI W0) (qV (kk_V sb pb b0 b1 b2 b3 b4 g x y ky R r m0 m1 m2 m3 m4 x7 x9 x10 x11 x18 x20 x21 x28 x32 x33 x34 x41 x43 x46 x47 x48 x55 x57 x58 x59 x61 x62 x63)) 27 := by
  refine stepG kk_o27 22 76 (by kernel_rfl) rfl (by kernel_rfl) (by kernel_rfl) rfl rfl ?_
  intro a w ho hI hp hB K hK
  have t15 := (ho 15 (by kernel_rfl)).trans A15
  have e15 := eval_slot t15
  clear ho hp
  unfold kk_o27
  go_simp
  exact hK _ _ hI rfl
theorem kk_s28 (M2 : ∀ wr : World, qI W0 wr → Calls Tryz.prog 16 #[.agg #[.int .i64 0, .int .i64 4, .int .i64 2, .int .i64 0, .int .i64 0, .int .i64 0, .bool false, .int .i64 0, .int .i64 0, .slice none 0 0, .slice none 0 0, .int .i64 0, .int .i64 0, .slice none 0 0, .slice none 0 0, .bool true, .slice none 0 0, .int .i64 26, .bool false, .int .i64 0, .int .i64 0], .agg #[.int .i64 2, .int .i64 2, .int .i64 4, .int .i64 0, .int .i64 4, .int .i64 0, .slice none 0 0, .int .i64 2, .int .i64 0], .agg #[.bool false, .bool false, .int .i64 0, .int .i64 26, .int .i64 0, .bool false, .bool false, .int .i64 1, .int .i64 1], .int .i64 r, .bool ky] wr fun e w' => e = .returned (.bool m2) ∧ Below wr.heap.size wr w') (hx : x28 = m2) : StepOk Tryz.prog kk_ops Q a0 (qI W0) (qV (kk_V sb pb b0 b1 b2 b3 b4 g x y ky R r m0 m1 m2 m3 m4 x7 x9 x10 x11 x18 x20 x21 x28 x32 x33 x34 x41 x43 x46 x47 x48 x55 x57 x58 x59 x61 x62 x63)) 28 := by
  refine stepG kk_o28 22 76 (by kernel_rfl) rfl (by kernel_rfl) (by kernel_rfl) rfl rfl ?_
  intro a w ho hI hp hB K hK
  have t77 : a.tmps[77]? = some (.agg #[.int .i64 0, .int .i64 4, .int .i64 2, .int .i64 0, .int .i64 0, .int .i64 0, .bool false, .int .i64 0, .int .i64 0, .slice none 0 0, .slice none 0 0, .int .i64 0, .int .i64 0, .slice none 0 0, .slice none 0 0, .bool true, .slice none 0 0, .int .i64 26, .bool false, .int .i64 0, .int .i64 0]) := qt (hp 23 77 (by kernel_rfl)) _ rfl hB
  have e77 := eval_slot t77
  have t78 : a.tmps[78]? = some (.agg #[.int .i64 2, .int .i64 2, .int .i64 4, .int .i64 0, .int .i64 4, .int .i64 0, .slice none 0 0, .int .i64 2, .int .i64 0]) := qt (hp 24 78 (by kernel_rfl)) _ rfl hB
  have e78 := eval_slot t78
  have t79 : a.tmps[79]? = some (.agg #[.bool false, .bool false, .int .i64 0, .int .i64 26, .int .i64 0, .bool false, .bool false, .int .i64 1, .int .i64 1]) := qt (hp 25 79 (by kernel_rfl)) _ rfl hB
  have e79 := eval_slot t79
  have t80 : a.tmps[80]? = some (.int .i64 r) := qt (hp 26 80 (by kernel_rfl)) _ rfl hB
  have e80 := eval_slot t80
  have t81 : a.tmps[81]? = some (.bool ky) := qt (hp 27 81 (by kernel_rfl)) _ rfl hB
  have e81 := eval_slot t81
  clear ho hp
  unfold kk_o28
  go_simp
  refine (M2 w hI).mono ?_
  rintro e w' ⟨rfl, b⟩
  exact hK _ _ (hI.step b) (congrArg (Value.bool) hx.symm)
theorem kk_s29 (A15 : a0.tmps[15]? = some (.bool ky)) : StepOk Tryz.prog kk_ops Q a0 (qI W0) (qV (kk_V sb pb b0 b1 b2 b3 b4 g x y ky R r m0 m1 m2 m3 m4 x7 x9 x10 x11 x18 x20 x21 x28 x32 x33 x34 x41 x43 x46 x47 x48 x55 x57 x58 x59 x61 x62 x63)) 29 := by
  refine stepG kk_o29 22 76 (by kernel_rfl) rfl (by kernel_rfl) (by kernel_rfl) rfl rfl ?_
  intro a w ho hI hp hB K hK
  have t15 := (ho 15 (by kernel_rfl)).trans A15
  have e15 := eval_slot t15
  clear ho hp
  unfold kk_o29
  go_simp
  exact hK _ _ hI rfl
theorem kk_s30 : StepOk Tryz.prog kk_ops Q a0 (qI W0) (qV (kk_V sb pb b0 b1 b2 b3 b4 g x y ky R r m0 m1 m2 m3 m4 x7 x9 x10 x11 x18 x20 x21 x28 x32 x33 x34 x41 x43 x46 x47 x48 x55 x57 x58 x59 x61 x62 x63)) 30 := by
  refine stepG kk_o30 22 76 (by kernel_rfl) rfl (by kernel_rfl) (by kernel_rfl) rfl rfl ?_
  intro a w ho hI hp hB K hK
  have t83 : a.tmps[83]? = some (.bool ky) := qt (hp 29 83 (by kernel_rfl)) _ rfl hB
  have e83 := eval_slot t83
  clear ho hp
  unfold kk_o30
  go_simp
  exact hK _ _ hI rfl
theorem kk_s31 (A16 : a0.tmps[16]? = some (.bool R)) : StepOk Tryz.prog kk_ops Q a0 (qI W0) (qV (kk_V sb pb b0 b1 b2 b3 b4 g x y ky R r m0 m1 m2 m3 m4 x7 x9 x10 x11 x18 x20 x21 x28 x32 x33 x34 x41 x43 x46 x47 x48 x55 x57 x58 x59 x61 x62 x63)) 31 := by
  refine stepG kk_o31 30 84 (by kernel_rfl) rfl (by kernel_rfl) (by kernel_rfl) rfl rfl ?_
  intro a w ho hI hp hB K hK
  have t16 := (ho 16 (by kernel_rfl)).trans A16
  have e16 := eval_slot t16
  clear ho hp
  unfold kk_o31
  go_simp
  exact hK _ _ hI rfl
theorem kk_s32 (hx : x32 = (ky && R)) : StepOk Tryz.prog kk_ops Q a0 (qI W0) (qV (kk_V sb pb b0 b1 b2 b3 b4 g x y ky R r m0 m1 m2 m3 m4 x7 x9 x10 x11 x18 x20 x21 x28 x32 x33 x34 x41 x43 x46 x47 x48 x55 x57 x58 x59 x61 x62 x63)) 32 := by
  refine stepG kk_o32 22 76 (by kernel_rfl) rfl (by kernel_rfl) (by kernel_rfl) rfl rfl ?_
  intro a w ho hI hp hB K hK
  have t84 : a.tmps[84]? = some (.bool ky) := qt (hp 30 84 (by kernel_rfl)) _ rfl hB
  have e84 := eval_slot t84
  clear ho
  cases hq : ky with
  | false =>
    have hz := hx.trans (by rw [hq]; rfl : _ = false)
    clear hp
    rw [hq] at e84
    unfold kk_o32
    go_simp
    exact hK _ _ hI (congrArg Value.bool hz.symm)
  | true =>
    have hz := hx.trans (by rw [hq]; rfl : _ = R)
    have t85 : a.tmps[85]? = some (.bool R) := qt (hp 31 85 (by kernel_rfl)) _ rfl (by rw [hq, hB]; rfl)
    have e85 := eval_slot t85
    clear hp
    rw [hq] at e84
    unfold kk_o32
    go_simp
    exact hK _ _ hI (congrArg Value.bool hz.symm)
theorem kk_s33 (hx : x33 = (x28 == x32)) : StepOk Tryz.prog kk_ops Q a0 (qI W0) (qV (kk_V sb pb b0 b1 b2 b3 b4 g x y ky R r m0 m1 m2 m3 m4 x7 x9 x10 x11 x18 x20 x21 x28 x32 x33 x34 x41 x43 x46 x47 x48 x55 x57 x58 x59 x61 x62 x63)) 33 := by
  refine stepG kk_o33 22 76 (by kernel_rfl) rfl (by kernel_rfl) (by kernel_rfl) rfl rfl ?_
  intro a w ho hI hp hB K hK
  have t82 : a.tmps[82]? = some (.bool x28) := qt (hp 28 82 (by kernel_rfl)) _ rfl hB
  have e82 := eval_slot t82
  have t86 : a.tmps[86]? = some (.bool x32) := qt (hp 32 86 (by kernel_rfl)) _ rfl hB
  have e86 := eval_slot t86
  clear ho hp
  unfold kk_o33
  go_simp
  exact hK _ _ hI (congrArg (Value.bool) hx.symm)
theorem kk_s34 (hx : x34 = (x21 && x33)) : StepOk Tryz.prog kk_ops Q a0 (qI W0) (qV (kk_V sb pb b0 b1 b2 b3 b4 g x y ky R r m0 m1 m2 m3 m4 x7 x9 x10 x11 x18 x20 x21 x28 x32 x33 x34 x41 x43 x46 x47 x48 x55 x57 x58 x59 x61 x62 x63)) 34 := by
  refine stepP kk_o34 (by kernel_rfl) rfl rfl ?_
  intro a w ho hI hp hB K hK
  have t76 : a.tmps[76]? = some (.bool x21) := qt (hp 22 76 (by kernel_rfl)) _ rfl rfl
  have e76 := eval_slot t76
  clear ho
  cases hq : x21 with
  | false =>
    have hz := hx.trans (by rw [hq]; rfl : _ = false)
    clear hp
    rw [hq] at e76
    unfold kk_o34
    go_simp
    exact hK _ _ hI (congrArg Value.bool hz.symm)
  | true =>
    have hz := hx.trans (by rw [hq]; rfl : _ = x33)
    have t87 : a.tmps[87]? = some (.bool x33) := qt (hp 33 87 (by kernel_rfl)) _ rfl (by rw [hq]; rfl)
    have e87 := eval_slot t87
    clear hp
    rw [hq] at e76
    unfold kk_o34
    go_simp
    exact hK _ _ hI (congrArg Value.bool hz.symm)
theorem kk_s35 : StepOk Tryz.prog kk_ops Q a0 (qI W0) (qV (kk_V sb pb b0 b1 b2 b3 b4 g x y ky R r m0 m1 m2 m3 m4 x7 x9 x10 x11 x18 x20 x21 x28 x32 x33 x34 x41 x43 x46 x47 x48 x55 x57 x58 x59 x61 x62 x63)) 35 := by
  refine stepP kk_o35 (by kernel_rfl) rfl rfl ?_
  intro a w ho hI hp hB K hK
  have t88 : a.tmps[88]? = some (.bool x34) := qt (hp 34 88 (by kernel_rfl)) _ rfl rfl
  have e88 := eval_slot t88
  clear ho hp
  unfold kk_o35
  go_simp
  exact hK _ _ hI rfl
theorem kk_s36 (RD : W0.heap[b3]? = some (.cells #[.int .i64 0, .int .i64 4, .int .i64 2, .int .i64 0, .int .i64 0, .int .i64 0, .bool false, .int .i64 0, .int .i64 0, .slice none 0 0, .slice none 0 0, .int .i64 0, .int .i64 0, .slice none 0 0, .slice none 0 0, .bool false, .slice (some ⟨g, 0, none⟩) 1 1, .int .i64 26, .bool false, .int .i64 0, .int .i64 0] 26 (0, 0))) (A13 : a0.tmps[13]? = some (.pointer (some ⟨b3, 0, none⟩))) : StepOk Tryz.prog kk_ops Q a0 (qI W0) (qV (kk_V sb pb b0 b1 b2 b3 b4 g x y ky R r m0 m1 m2 m3 m4 x7 x9 x10 x11 x18 x20 x21 x28 x32 x33 x34 x41 x43 x46 x47 x48 x55 x57 x58 x59 x61 x62 x63)) 36 := by
  refine stepG kk_o36 35 89 (by kernel_rfl) rfl (by kernel_rfl) (by kernel_rfl) rfl rfl ?_
  intro a w ho hI hp hB K hK
  have t13 := (ho 13 (by kernel_rfl)).trans A13
  have e13 := eval_slot t13
  clear ho hp
  refine wp_load_mid (P := Tryz.prog) 26 (.tmp 13) rfl b3 0 e13 [.int .i64 0, .int .i64 4, .int .i64 2, .int .i64 0, .int .i64 0, .int .i64 0, .bool false, .int .i64 0, .int .i64 0, .slice none 0 0, .slice none 0 0, .int .i64 0, .int .i64 0, .slice none 0 0, .slice none 0 0, .bool false, .slice (some ⟨g, 0, none⟩) 1 1, .int .i64 26, .bool false, .int .i64 0, .int .i64 0] _ (fun j v hv => qcell hI RD (0 + j) v (by rw [Nat.zero_add]; simpa using hv)) Tryz.underlying26 rfl (by kernel_rfl) ?_
  exact hK _ _ hI rfl
theorem kk_s37 (RS : W0.heap[sb]? = some (.cells #[.int .i64 2, .int .i64 2, .int .i64 4, .int .i64 0, .int .i64 4, .int .i64 0, .slice none 0 0, .int .i64 2, .int .i64 0] 29 (0, 0))) (A5 : a0.tmps[5]? = some (.pointer (some ⟨sb, 0, none⟩))) : StepOk Tryz.prog kk_ops Q a0 (qI W0) (qV (kk_V sb pb b0 b1 b2 b3 b4 g x y ky R r m0 m1 m2 m3 m4 x7 x9 x10 x11 x18 x20 x21 x28 x32 x33 x34 x41 x43 x46 x47 x48 x55 x57 x58 x59 x61 x62 x63)) 37 := by
  refine stepG kk_o37 35 89 (by kernel_rfl) rfl (by kernel_rfl) (by kernel_rfl) rfl rfl ?_
  intro a w ho hI hp hB K hK
  have t5 := (ho 5 (by kernel_rfl)).trans A5
  have e5 := eval_slot t5
  clear ho hp
  refine wp_load_mid (P := Tryz.prog) 29 (.tmp 5) rfl sb 0 e5 [.int .i64 2, .int .i64 2, .int .i64 4, .int .i64 0, .int .i64 4, .int .i64 0, .slice none 0 0, .int .i64 2, .int .i64 0] _ (fun j v hv => qcell hI RS (0 + j) v (by rw [Nat.zero_add]; simpa using hv)) Tryz.underlying29 rfl (by kernel_rfl) ?_
  exact hK _ _ hI rfl
theorem kk_s38 (RP : W0.heap[pb]? = some (.cells #[.bool false, .bool false, .int .i64 0, .int .i64 26, .int .i64 0, .bool false, .bool false, .int .i64 1, .int .i64 1] 31 (0, 0))) (A6 : a0.tmps[6]? = some (.pointer (some ⟨pb, 0, none⟩))) : StepOk Tryz.prog kk_ops Q a0 (qI W0) (qV (kk_V sb pb b0 b1 b2 b3 b4 g x y ky R r m0 m1 m2 m3 m4 x7 x9 x10 x11 x18 x20 x21 x28 x32 x33 x34 x41 x43 x46 x47 x48 x55 x57 x58 x59 x61 x62 x63)) 38 := by
  refine stepG kk_o38 35 89 (by kernel_rfl) rfl (by kernel_rfl) (by kernel_rfl) rfl rfl ?_
  intro a w ho hI hp hB K hK
  have t6 := (ho 6 (by kernel_rfl)).trans A6
  have e6 := eval_slot t6
  clear ho hp
  refine wp_load_mid (P := Tryz.prog) 31 (.tmp 6) rfl pb 0 e6 [.bool false, .bool false, .int .i64 0, .int .i64 26, .int .i64 0, .bool false, .bool false, .int .i64 1, .int .i64 1] _ (fun j v hv => qcell hI RP (0 + j) v (by rw [Nat.zero_add]; simpa using hv)) Tryz.underlying31 rfl (by kernel_rfl) ?_
  exact hK _ _ hI rfl
theorem kk_s39 (A17 : a0.tmps[17]? = some (.int .i64 r)) : StepOk Tryz.prog kk_ops Q a0 (qI W0) (qV (kk_V sb pb b0 b1 b2 b3 b4 g x y ky R r m0 m1 m2 m3 m4 x7 x9 x10 x11 x18 x20 x21 x28 x32 x33 x34 x41 x43 x46 x47 x48 x55 x57 x58 x59 x61 x62 x63)) 39 := by
  refine stepG kk_o39 35 89 (by kernel_rfl) rfl (by kernel_rfl) (by kernel_rfl) rfl rfl ?_
  intro a w ho hI hp hB K hK
  have t17 := (ho 17 (by kernel_rfl)).trans A17
  have e17 := eval_slot t17
  clear ho hp
  unfold kk_o39
  go_simp
  exact hK _ _ hI rfl
theorem kk_s40 (A15 : a0.tmps[15]? = some (.bool ky)) : StepOk Tryz.prog kk_ops Q a0 (qI W0) (qV (kk_V sb pb b0 b1 b2 b3 b4 g x y ky R r m0 m1 m2 m3 m4 x7 x9 x10 x11 x18 x20 x21 x28 x32 x33 x34 x41 x43 x46 x47 x48 x55 x57 x58 x59 x61 x62 x63)) 40 := by
  refine stepG kk_o40 35 89 (by kernel_rfl) rfl (by kernel_rfl) (by kernel_rfl) rfl rfl ?_
  intro a w ho hI hp hB K hK
  have t15 := (ho 15 (by kernel_rfl)).trans A15
  have e15 := eval_slot t15
  clear ho hp
  unfold kk_o40
  go_simp
  exact hK _ _ hI rfl
theorem kk_s41 (M3 : ∀ wr : World, qI W0 wr → Calls Tryz.prog 16 #[.agg #[.int .i64 0, .int .i64 4, .int .i64 2, .int .i64 0, .int .i64 0, .int .i64 0, .bool false, .int .i64 0, .int .i64 0, .slice none 0 0, .slice none 0 0, .int .i64 0, .int .i64 0, .slice none 0 0, .slice none 0 0, .bool false, .slice (some ⟨g, 0, none⟩) 1 1, .int .i64 26, .bool false, .int .i64 0, .int .i64 0], .agg #[.int .i64 2, .int .i64 2, .int .i64 4, .int .i64 0, .int .i64 4, .int .i64 0, .slice none 0 0, .int .i64 2, .int .i64 0], .agg #[.bool false, .bool false, .int .i64 0, .int .i64 26, .int .i64 0, .bool false, .bool false, .int .i64 1, .int .i64 1], .int .i64 r, .bool ky] wr fun e w' => e = .returned (.bool m3) ∧ Below wr.heap.size wr w') (hx : x41 = m3) : StepOk Tryz.prog kk_ops Q a0 (qI W0) (qV (kk_V sb pb b0 b1 b2 b3 b4 g x y ky R r m0 m1 m2 m3 m4 x7 x9 x10 x11 x18 x20 x21 x28 x32 x33 x34 x41 x43 x46 x47 x48 x55 x57 x58 x59 x61 x62 x63)) 41 := by
  refine stepG kk_o41 35 89 (by kernel_rfl) rfl (by kernel_rfl) (by kernel_rfl) rfl rfl ?_
  intro a w ho hI hp hB K hK
  have t90 : a.tmps[90]? = some (.agg #[.int .i64 0, .int .i64 4, .int .i64 2, .int .i64 0, .int .i64 0, .int .i64 0, .bool false, .int .i64 0, .int .i64 0, .slice none 0 0, .slice none 0 0, .int .i64 0, .int .i64 0, .slice none 0 0, .slice none 0 0, .bool false, .slice (some ⟨g, 0, none⟩) 1 1, .int .i64 26, .bool false, .int .i64 0, .int .i64 0]) := qt (hp 36 90 (by kernel_rfl)) _ rfl hB
  have e90 := eval_slot t90
  have t91 : a.tmps[91]? = some (.agg #[.int .i64 2, .int .i64 2, .int .i64 4, .int .i64 0, .int .i64 4, .int .i64 0, .slice none 0 0, .int .i64 2, .int .i64 0]) := qt (hp 37 91 (by kernel_rfl)) _ rfl hB
  have e91 := eval_slot t91
  have t92 : a.tmps[92]? = some (.agg #[.bool false, .bool false, .int .i64 0, .int .i64 26, .int .i64 0, .bool false, .bool false, .int .i64 1, .int .i64 1]) := qt (hp 38 92 (by kernel_rfl)) _ rfl hB
  have e92 := eval_slot t92
  have t93 : a.tmps[93]? = some (.int .i64 r) := qt (hp 39 93 (by kernel_rfl)) _ rfl hB
  have e93 := eval_slot t93
  have t94 : a.tmps[94]? = some (.bool ky) := qt (hp 40 94 (by kernel_rfl)) _ rfl hB
  have e94 := eval_slot t94
  clear ho hp
  unfold kk_o41
  go_simp
  refine (M3 w hI).mono ?_
  rintro e w' ⟨rfl, b⟩
  exact hK _ _ (hI.step b) (congrArg (Value.bool) hx.symm)
theorem kk_s42 (A15 : a0.tmps[15]? = some (.bool ky)) : StepOk Tryz.prog kk_ops Q a0 (qI W0) (qV (kk_V sb pb b0 b1 b2 b3 b4 g x y ky R r m0 m1 m2 m3 m4 x7 x9 x10 x11 x18 x20 x21 x28 x32 x33 x34 x41 x43 x46 x47 x48 x55 x57 x58 x59 x61 x62 x63)) 42 := by
  refine stepG kk_o42 35 89 (by kernel_rfl) rfl (by kernel_rfl) (by kernel_rfl) rfl rfl ?_
  intro a w ho hI hp hB K hK
  have t15 := (ho 15 (by kernel_rfl)).trans A15
  have e15 := eval_slot t15
  clear ho hp
  unfold kk_o42
  go_simp
  exact hK _ _ hI rfl
theorem kk_s43 (hx : x43 = (!ky)) : StepOk Tryz.prog kk_ops Q a0 (qI W0) (qV (kk_V sb pb b0 b1 b2 b3 b4 g x y ky R r m0 m1 m2 m3 m4 x7 x9 x10 x11 x18 x20 x21 x28 x32 x33 x34 x41 x43 x46 x47 x48 x55 x57 x58 x59 x61 x62 x63)) 43 := by
  refine stepG kk_o43 35 89 (by kernel_rfl) rfl (by kernel_rfl) (by kernel_rfl) rfl rfl ?_
  intro a w ho hI hp hB K hK
  have t96 : a.tmps[96]? = some (.bool ky) := qt (hp 42 96 (by kernel_rfl)) _ rfl hB
  have e96 := eval_slot t96
  clear ho hp
  unfold kk_o43
  go_simp
  exact hK _ _ hI (congrArg (Value.bool) hx.symm)
theorem kk_s44 : StepOk Tryz.prog kk_ops Q a0 (qI W0) (qV (kk_V sb pb b0 b1 b2 b3 b4 g x y ky R r m0 m1 m2 m3 m4 x7 x9 x10 x11 x18 x20 x21 x28 x32 x33 x34 x41 x43 x46 x47 x48 x55 x57 x58 x59 x61 x62 x63)) 44 := by
  refine stepG kk_o44 35 89 (by kernel_rfl) rfl (by kernel_rfl) (by kernel_rfl) rfl rfl ?_
  intro a w ho hI hp hB K hK
  have t97 : a.tmps[97]? = some (.bool x43) := qt (hp 43 97 (by kernel_rfl)) _ rfl hB
  have e97 := eval_slot t97
  clear ho hp
  unfold kk_o44
  go_simp
  exact hK _ _ hI rfl
theorem kk_s45 (A16 : a0.tmps[16]? = some (.bool R)) : StepOk Tryz.prog kk_ops Q a0 (qI W0) (qV (kk_V sb pb b0 b1 b2 b3 b4 g x y ky R r m0 m1 m2 m3 m4 x7 x9 x10 x11 x18 x20 x21 x28 x32 x33 x34 x41 x43 x46 x47 x48 x55 x57 x58 x59 x61 x62 x63)) 45 := by
  refine stepG kk_o45 44 98 (by kernel_rfl) rfl (by kernel_rfl) (by kernel_rfl) rfl rfl ?_
  intro a w ho hI hp hB K hK
  have t16 := (ho 16 (by kernel_rfl)).trans A16
  have e16 := eval_slot t16
  clear ho hp
  unfold kk_o45
  go_simp
  exact hK _ _ hI rfl
theorem kk_s46 (hx : x46 = (x43 && R)) : StepOk Tryz.prog kk_ops Q a0 (qI W0) (qV (kk_V sb pb b0 b1 b2 b3 b4 g x y ky R r m0 m1 m2 m3 m4 x7 x9 x10 x11 x18 x20 x21 x28 x32 x33 x34 x41 x43 x46 x47 x48 x55 x57 x58 x59 x61 x62 x63)) 46 := by
  refine stepG kk_o46 35 89 (by kernel_rfl) rfl (by kernel_rfl) (by kernel_rfl) rfl rfl ?_
  intro a w ho hI hp hB K hK
  have t98 : a.tmps[98]? = some (.bool x43) := qt (hp 44 98 (by kernel_rfl)) _ rfl hB
  have e98 := eval_slot t98
  clear ho
  cases hq : x43 with
  | false =>
    have hz := hx.trans (by rw [hq]; rfl : _ = false)
    clear hp
    rw [hq] at e98
    unfold kk_o46
    go_simp
    exact hK _ _ hI (congrArg Value.bool hz.symm)
  | true =>
    have hz := hx.trans (by rw [hq]; rfl : _ = R)
    have t99 : a.tmps[99]? = some (.bool R) := qt (hp 45 99 (by kernel_rfl)) _ rfl (by rw [hq, hB]; rfl)
    have e99 := eval_slot t99
    clear hp
    rw [hq] at e98
    unfold kk_o46
    go_simp
    exact hK _ _ hI (congrArg Value.bool hz.symm)
theorem kk_s47 (hx : x47 = (x41 == x46)) : StepOk Tryz.prog kk_ops Q a0 (qI W0) (qV (kk_V sb pb b0 b1 b2 b3 b4 g x y ky R r m0 m1 m2 m3 m4 x7 x9 x10 x11 x18 x20 x21 x28 x32 x33 x34 x41 x43 x46 x47 x48 x55 x57 x58 x59 x61 x62 x63)) 47 := by
  refine stepG kk_o47 35 89 (by kernel_rfl) rfl (by kernel_rfl) (by kernel_rfl) rfl rfl ?_
  intro a w ho hI hp hB K hK
  have t95 : a.tmps[95]? = some (.bool x41) := qt (hp 41 95 (by kernel_rfl)) _ rfl hB
  have e95 := eval_slot t95
  have t100 : a.tmps[100]? = some (.bool x46) := qt (hp 46 100 (by kernel_rfl)) _ rfl hB
  have e100 := eval_slot t100
  clear ho hp
  unfold kk_o47
  go_simp
  exact hK _ _ hI (congrArg (Value.bool) hx.symm)
theorem kk_s48 (hx : x48 = (x34 && x47)) : StepOk Tryz.prog kk_ops Q a0 (qI W0) (qV (kk_V sb pb b0 b1 b2 b3 b4 g x y ky R r m0 m1 m2 m3 m4 x7 x9 x10 x11 x18 x20 x21 x28 x32 x33 x34 x41 x43 x46 x47 x48 x55 x57 x58 x59 x61 x62 x63)) 48 := by
  refine stepP kk_o48 (by kernel_rfl) rfl rfl ?_
  intro a w ho hI hp hB K hK
  have t89 : a.tmps[89]? = some (.bool x34) := qt (hp 35 89 (by kernel_rfl)) _ rfl rfl
  have e89 := eval_slot t89
  clear ho
  cases hq : x34 with
  | false =>
    have hz := hx.trans (by rw [hq]; rfl : _ = false)
    clear hp
    rw [hq] at e89
    unfold kk_o48
    go_simp
    exact hK _ _ hI (congrArg Value.bool hz.symm)
  | true =>
    have hz := hx.trans (by rw [hq]; rfl : _ = x47)
    have t101 : a.tmps[101]? = some (.bool x47) := qt (hp 47 101 (by kernel_rfl)) _ rfl (by rw [hq]; rfl)
    have e101 := eval_slot t101
    clear hp
    rw [hq] at e89
    unfold kk_o48
    go_simp
    exact hK _ _ hI (congrArg Value.bool hz.symm)
theorem kk_s49 : StepOk Tryz.prog kk_ops Q a0 (qI W0) (qV (kk_V sb pb b0 b1 b2 b3 b4 g x y ky R r m0 m1 m2 m3 m4 x7 x9 x10 x11 x18 x20 x21 x28 x32 x33 x34 x41 x43 x46 x47 x48 x55 x57 x58 x59 x61 x62 x63)) 49 := by
  refine stepP kk_o49 (by kernel_rfl) rfl rfl ?_
  intro a w ho hI hp hB K hK
  have t102 : a.tmps[102]? = some (.bool x48) := qt (hp 48 102 (by kernel_rfl)) _ rfl rfl
  have e102 := eval_slot t102
  clear ho hp
  unfold kk_o49
  go_simp
  exact hK _ _ hI rfl
theorem kk_s50 (RE : W0.heap[b4]? = some (.cells #[.int .i64 0, .int .i64 4, .int .i64 0, .int .i64 0, .int .i64 0, .int .i64 0, .bool false, .int .i64 1, .int .i64 0, .slice none 0 0, .slice none 0 0, .int .i64 0, .int .i64 0, .slice none 0 0, .slice none 0 0, .bool false, .slice none 0 0, .int .i64 26, .bool false, .int .i64 0, .int .i64 0] 26 (0, 0))) (A14 : a0.tmps[14]? = some (.pointer (some ⟨b4, 0, none⟩))) : StepOk Tryz.prog kk_ops Q a0 (qI W0) (qV (kk_V sb pb b0 b1 b2 b3 b4 g x y ky R r m0 m1 m2 m3 m4 x7 x9 x10 x11 x18 x20 x21 x28 x32 x33 x34 x41 x43 x46 x47 x48 x55 x57 x58 x59 x61 x62 x63)) 50 := by
  refine stepG kk_o50 49 103 (by kernel_rfl) rfl (by kernel_rfl) (by kernel_rfl) rfl rfl ?_
  intro a w ho hI hp hB K hK
  have t14 := (ho 14 (by kernel_rfl)).trans A14
  have e14 := eval_slot t14
  clear ho hp
  refine wp_load_mid (P := Tryz.prog) 26 (.tmp 14) rfl b4 0 e14 [.int .i64 0, .int .i64 4, .int .i64 0, .int .i64 0, .int .i64 0, .int .i64 0, .bool false, .int .i64 1, .int .i64 0, .slice none 0 0, .slice none 0 0, .int .i64 0, .int .i64 0, .slice none 0 0, .slice none 0 0, .bool false, .slice none 0 0, .int .i64 26, .bool false, .int .i64 0, .int .i64 0] _ (fun j v hv => qcell hI RE (0 + j) v (by rw [Nat.zero_add]; simpa using hv)) Tryz.underlying26 rfl (by kernel_rfl) ?_
  exact hK _ _ hI rfl
theorem kk_s51 (RS : W0.heap[sb]? = some (.cells #[.int .i64 2, .int .i64 2, .int .i64 4, .int .i64 0, .int .i64 4, .int .i64 0, .slice none 0 0, .int .i64 2, .int .i64 0] 29 (0, 0))) (A5 : a0.tmps[5]? = some (.pointer (some ⟨sb, 0, none⟩))) : StepOk Tryz.prog kk_ops Q a0 (qI W0) (qV (kk_V sb pb b0 b1 b2 b3 b4 g x y ky R r m0 m1 m2 m3 m4 x7 x9 x10 x11 x18 x20 x21 x28 x32 x33 x34 x41 x43 x46 x47 x48 x55 x57 x58 x59 x61 x62 x63)) 51 := by
  refine stepG kk_o51 49 103 (by kernel_rfl) rfl (by kernel_rfl) (by kernel_rfl) rfl rfl ?_
  intro a w ho hI hp hB K hK
  have t5 := (ho 5 (by kernel_rfl)).trans A5
  have e5 := eval_slot t5
  clear ho hp
  refine wp_load_mid (P := Tryz.prog) 29 (.tmp 5) rfl sb 0 e5 [.int .i64 2, .int .i64 2, .int .i64 4, .int .i64 0, .int .i64 4, .int .i64 0, .slice none 0 0, .int .i64 2, .int .i64 0] _ (fun j v hv => qcell hI RS (0 + j) v (by rw [Nat.zero_add]; simpa using hv)) Tryz.underlying29 rfl (by kernel_rfl) ?_
  exact hK _ _ hI rfl
theorem kk_s52 (RP : W0.heap[pb]? = some (.cells #[.bool false, .bool false, .int .i64 0, .int .i64 26, .int .i64 0, .bool false, .bool false, .int .i64 1, .int .i64 1] 31 (0, 0))) (A6 : a0.tmps[6]? = some (.pointer (some ⟨pb, 0, none⟩))) : StepOk Tryz.prog kk_ops Q a0 (qI W0) (qV (kk_V sb pb b0 b1 b2 b3 b4 g x y ky R r m0 m1 m2 m3 m4 x7 x9 x10 x11 x18 x20 x21 x28 x32 x33 x34 x41 x43 x46 x47 x48 x55 x57 x58 x59 x61 x62 x63)) 52 := by
  refine stepG kk_o52 49 103 (by kernel_rfl) rfl (by kernel_rfl) (by kernel_rfl) rfl rfl ?_
  intro a w ho hI hp hB K hK
  have t6 := (ho 6 (by kernel_rfl)).trans A6
  have e6 := eval_slot t6
  clear ho hp
  refine wp_load_mid (P := Tryz.prog) 31 (.tmp 6) rfl pb 0 e6 [.bool false, .bool false, .int .i64 0, .int .i64 26, .int .i64 0, .bool false, .bool false, .int .i64 1, .int .i64 1] _ (fun j v hv => qcell hI RP (0 + j) v (by rw [Nat.zero_add]; simpa using hv)) Tryz.underlying31 rfl (by kernel_rfl) ?_
  exact hK _ _ hI rfl
theorem kk_s53 (A17 : a0.tmps[17]? = some (.int .i64 r)) : StepOk Tryz.prog kk_ops Q a0 (qI W0) (qV (kk_V sb pb b0 b1 b2 b3 b4 g x y ky R r m0 m1 m2 m3 m4 x7 x9 x10 x11 x18 x20 x21 x28 x32 x33 x34 x41 x43 x46 x47 x48 x55 x57 x58 x59 x61 x62 x63)) 53 := by
  refine stepG kk_o53 49 103 (by kernel_rfl) rfl (by kernel_rfl) (by kernel_rfl) rfl rfl ?_
  intro a w ho hI hp hB K hK
  have t17 := (ho 17 (by kernel_rfl)).trans A17
  have e17 := eval_slot t17
  clear ho hp
  unfold kk_o53
  go_simp
  exact hK _ _ hI rfl
theorem kk_s54 (A15 : a0.tmps[15]? = some (.bool ky)) : StepOk Tryz.prog kk_ops Q a0 (qI W0) (qV (kk_V sb pb b0 b1 b2 b3 b4 g x y ky R r m0 m1 m2 m3 m4 x7 x9 x10 x11 x18 x20 x21 x28 x32 x33 x34 x41 x43 x46 x47 x48 x55 x57 x58 x59 x61 x62 x63)) 54 := by
  refine stepG kk_o54 49 103 (by kernel_rfl) rfl (by kernel_rfl) (by kernel_rfl) rfl rfl ?_
  intro a w ho hI hp hB K hK
  have t15 := (ho 15 (by kernel_rfl)).trans A15
  have e15 := eval_slot t15
  clear ho hp
  unfold kk_o54
  go_simp
  exact hK _ _ hI rfl
theorem kk_s55 (M4 : ∀ wr : World, qI W0 wr → Calls Tryz.prog 16 #[.agg #[.int .i64 0, .int .i64 4, .int .i64 0, .int .i64 0, .int .i64 0, .int .i64 0, .bool false, .int .i64 1, .int .i64 0, .slice none 0 0, .slice none 0 0, .int .i64 0, .int .i64 0, .slice none 0 0, .slice none 0 0, .bool false, .slice none 0 0, .int .i64 26, .bool false, .int .i64 0, .int .i64 0], .agg #[.int .i64 2, .int .i64 2, .int .i64 4, .int .i64 0, .int .i64 4, .int .i64 0, .slice none 0 0, .int .i64 2, .int .i64 0], .agg #[.bool false, .bool false, .int .i64 0, .int .i64 26, .int .i64 0, .bool false, .bool false, .int .i64 1, .int .i64 1], .int .i64 r, .bool ky] wr fun e w' => e = .returned (.bool m4) ∧ Below wr.heap.size wr w') (hx : x55 = m4) : StepOk Tryz.prog kk_ops Q a0 (qI W0) (qV (kk_V sb pb b0 b1 b2 b3 b4 g x y ky R r m0 m1 m2 m3 m4 x7 x9 x10 x11 x18 x20 x21 x28 x32 x33 x34 x41 x43 x46 x47 x48 x55 x57 x58 x59 x61 x62 x63)) 55 := by
  refine stepG kk_o55 49 103 (by kernel_rfl) rfl (by kernel_rfl) (by kernel_rfl) rfl rfl ?_
  intro a w ho hI hp hB K hK
  have t104 : a.tmps[104]? = some (.agg #[.int .i64 0, .int .i64 4, .int .i64 0, .int .i64 0, .int .i64 0, .int .i64 0, .bool false, .int .i64 1, .int .i64 0, .slice none 0 0, .slice none 0 0, .int .i64 0, .int .i64 0, .slice none 0 0, .slice none 0 0, .bool false, .slice none 0 0, .int .i64 26, .bool false, .int .i64 0, .int .i64 0]) := qt (hp 50 104 (by kernel_rfl)) _ rfl hB
  have e104 := eval_slot t104
  have t105 : a.tmps[105]? = some (.agg #[.int .i64 2, .int .i64 2, .int .i64 4, .int .i64 0, .int .i64 4, .int .i64 0, .slice none 0 0, .int .i64 2, .int .i64 0]) := qt (hp 51 105 (by kernel_rfl)) _ rfl hB
  have e105 := eval_slot t105
  have t106 : a.tmps[106]? = some (.agg #[.bool false, .bool false, .int .i64 0, .int .i64 26, .int .i64 0, .bool false, .bool false, .int .i64 1, .int .i64 1]) := qt (hp 52 106 (by kernel_rfl)) _ rfl hB
  have e106 := eval_slot t106
  have t107 : a.tmps[107]? = some (.int .i64 r) := qt (hp 53 107 (by kernel_rfl)) _ rfl hB
  have e107 := eval_slot t107
  have t108 : a.tmps[108]? = some (.bool ky) := qt (hp 54 108 (by kernel_rfl)) _ rfl hB
  have e108 := eval_slot t108
  clear ho hp
  unfold kk_o55
  go_simp
  refine (M4 w hI).mono ?_
  rintro e w' ⟨rfl, b⟩
  exact hK _ _ (hI.step b) (congrArg (Value.bool) hx.symm)
theorem kk_s56 (A15 : a0.tmps[15]? = some (.bool ky)) : StepOk Tryz.prog kk_ops Q a0 (qI W0) (qV (kk_V sb pb b0 b1 b2 b3 b4 g x y ky R r m0 m1 m2 m3 m4 x7 x9 x10 x11 x18 x20 x21 x28 x32 x33 x34 x41 x43 x46 x47 x48 x55 x57 x58 x59 x61 x62 x63)) 56 := by
  refine stepG kk_o56 49 103 (by kernel_rfl) rfl (by kernel_rfl) (by kernel_rfl) rfl rfl ?_
  intro a w ho hI hp hB K hK
  have t15 := (ho 15 (by kernel_rfl)).trans A15
  have e15 := eval_slot t15
  clear ho hp
  unfold kk_o56
  go_simp
  exact hK _ _ hI rfl
theorem kk_s57 (hx : x57 = (!ky)) : StepOk Tryz.prog kk_ops Q a0 (qI W0) (qV (kk_V sb pb b0 b1 b2 b3 b4 g x y ky R r m0 m1 m2 m3 m4 x7 x9 x10 x11 x18 x20 x21 x28 x32 x33 x34 x41 x43 x46 x47 x48 x55 x57 x58 x59 x61 x62 x63)) 57 := by
  refine stepG kk_o57 49 103 (by kernel_rfl) rfl (by kernel_rfl) (by kernel_rfl) rfl rfl ?_
  intro a w ho hI hp hB K hK
  have t110 : a.tmps[110]? = some (.bool ky) := qt (hp 56 110 (by kernel_rfl)) _ rfl hB
  have e110 := eval_slot t110
  clear ho hp
  unfold kk_o57
  go_simp
  exact hK _ _ hI (congrArg (Value.bool) hx.symm)
theorem kk_s58 (hx : x58 = (x55 == x57)) : StepOk Tryz.prog kk_ops Q a0 (qI W0) (qV (kk_V sb pb b0 b1 b2 b3 b4 g x y ky R r m0 m1 m2 m3 m4 x7 x9 x10 x11 x18 x20 x21 x28 x32 x33 x34 x41 x43 x46 x47 x48 x55 x57 x58 x59 x61 x62 x63)) 58 := by
  refine stepG kk_o58 49 103 (by kernel_rfl) rfl (by kernel_rfl) (by kernel_rfl) rfl rfl ?_
  intro a w ho hI hp hB K hK
  have t109 : a.tmps[109]? = some (.bool x55) := qt (hp 55 109 (by kernel_rfl)) _ rfl hB
  have e109 := eval_slot t109
  have t111 : a.tmps[111]? = some (.bool x57) := qt (hp 57 111 (by kernel_rfl)) _ rfl hB
  have e111 := eval_slot t111
  clear ho hp
  unfold kk_o58
  go_simp
  exact hK _ _ hI (congrArg (Value.bool) hx.symm)
theorem kk_s59 (hx : x59 = (x48 && x58)) : StepOk Tryz.prog kk_ops Q a0 (qI W0) (qV (kk_V sb pb b0 b1 b2 b3 b4 g x y ky R r m0 m1 m2 m3 m4 x7 x9 x10 x11 x18 x20 x21 x28 x32 x33 x34 x41 x43 x46 x47 x48 x55 x57 x58 x59 x61 x62 x63)) 59 := by
  refine stepP kk_o59 (by kernel_rfl) rfl rfl ?_
  intro a w ho hI hp hB K hK
  have t103 : a.tmps[103]? = some (.bool x48) := qt (hp 49 103 (by kernel_rfl)) _ rfl rfl
  have e103 := eval_slot t103
  clear ho
  cases hq : x48 with
  | false =>
    have hz := hx.trans (by rw [hq]; rfl : _ = false)
    clear hp
    rw [hq] at e103
    unfold kk_o59
    go_simp
    exact hK _ _ hI (congrArg Value.bool hz.symm)
  | true =>
    have hz := hx.trans (by rw [hq]; rfl : _ = x58)
    have t112 : a.tmps[112]? = some (.bool x58) := qt (hp 58 112 (by kernel_rfl)) _ rfl (by rw [hq]; rfl)
    have e112 := eval_slot t112
    clear hp
    rw [hq] at e103
    unfold kk_o59
    go_simp
    exact hK _ _ hI (congrArg Value.bool hz.symm)
theorem kk_s60 : StepOk Tryz.prog kk_ops Q a0 (qI W0) (qV (kk_V sb pb b0 b1 b2 b3 b4 g x y ky R r m0 m1 m2 m3 m4 x7 x9 x10 x11 x18 x20 x21 x28 x32 x33 x34 x41 x43 x46 x47 x48 x55 x57 x58 x59 x61 x62 x63)) 60 := by
  refine stepP kk_o60 (by kernel_rfl) rfl rfl ?_
  intro a w ho hI hp hB K hK
  have t113 : a.tmps[113]? = some (.bool x59) := qt (hp 59 113 (by kernel_rfl)) _ rfl rfl
  have e113 := eval_slot t113
  clear ho hp
  unfold kk_o60
  go_simp
  exact hK _ _ hI rfl
theorem kk_s61 (hx : x61 = 0) : StepOk Tryz.prog kk_ops Q a0 (qI W0) (qV (kk_V sb pb b0 b1 b2 b3 b4 g x y ky R r m0 m1 m2 m3 m4 x7 x9 x10 x11 x18 x20 x21 x28 x32 x33 x34 x41 x43 x46 x47 x48 x55 x57 x58 x59 x61 x62 x63)) 61 := by
  refine stepG kk_o61 60 114 (by kernel_rfl) rfl (by kernel_rfl) (by kernel_rfl) rfl rfl ?_
  intro a w ho hI hp hB K hK
  clear ho hp
  unfold kk_o61
  go_simp
  refine (num_any _ _).mono ?_
  rintro e w' ⟨rfl, rfl⟩
  exact hK _ _ hI (congrArg (Value.int .i64) hx.symm)
theorem kk_s62 (hx : x62 = (x61 == 0)) : StepOk Tryz.prog kk_ops Q a0 (qI W0) (qV (kk_V sb pb b0 b1 b2 b3 b4 g x y ky R r m0 m1 m2 m3 m4 x7 x9 x10 x11 x18 x20 x21 x28 x32 x33 x34 x41 x43 x46 x47 x48 x55 x57 x58 x59 x61 x62 x63)) 62 := by
  refine stepG kk_o62 60 114 (by kernel_rfl) rfl (by kernel_rfl) (by kernel_rfl) rfl rfl ?_
  intro a w ho hI hp hB K hK
  have t115 : a.tmps[115]? = some (.int .i64 x61) := qt (hp 61 115 (by kernel_rfl)) _ rfl hB
  have e115 := eval_slot t115
  clear ho hp
  unfold kk_o62
  go_simp
  exact hK _ _ hI (congrArg (Value.bool) hx.symm)
theorem kk_s63 (hx : x63 = (x59 && x62)) : StepOk Tryz.prog kk_ops Q a0 (qI W0) (qV (kk_V sb pb b0 b1 b2 b3 b4 g x y ky R r m0 m1 m2 m3 m4 x7 x9 x10 x11 x18 x20 x21 x28 x32 x33 x34 x41 x43 x46 x47 x48 x55 x57 x58 x59 x61 x62 x63)) 63 := by
  refine stepP kk_o63 (by kernel_rfl) rfl rfl ?_
  intro a w ho hI hp hB K hK
  have t114 : a.tmps[114]? = some (.bool x59) := qt (hp 60 114 (by kernel_rfl)) _ rfl rfl
  have e114 := eval_slot t114
  clear ho
  cases hq : x59 with
  | false =>
    have hz := hx.trans (by rw [hq]; rfl : _ = false)
    clear hp
    rw [hq] at e114
    unfold kk_o63
    go_simp
    exact hK _ _ hI (congrArg Value.bool hz.symm)
  | true =>
    have hz := hx.trans (by rw [hq]; rfl : _ = x62)
    have t116 : a.tmps[116]? = some (.bool x62) := qt (hp 62 116 (by kernel_rfl)) _ rfl (by rw [hq]; rfl)
    have e116 := eval_slot t116
    clear hp
    rw [hq] at e114
    unfold kk_o63
    go_simp
    exact hK _ _ hI (congrArg Value.bool hz.symm)
theorem kk_s64 : StepOk Tryz.prog kk_ops Q a0 (qI W0) (qV (kk_V sb pb b0 b1 b2 b3 b4 g x y ky R r m0 m1 m2 m3 m4 x7 x9 x10 x11 x18 x20 x21 x28 x32 x33 x34 x41 x43 x46 x47 x48 x55 x57 x58 x59 x61 x62 x63)) 64 := by
  refine stepP kk_o64 (by kernel_rfl) rfl rfl ?_
  intro a w ho hI hp hB K hK
  have t117 : a.tmps[117]? = some (.bool x63) := qt (hp 63 117 (by kernel_rfl)) _ rfl rfl
  have e117 := eval_slot t117
  clear ho hp
  unfold kk_o64
  go_simp
  exact hK _ _ hI rfl
end
set_option maxRecDepth 100000 in
set_option maxHeartbeats 16000000 in
theorem headKeys_walk (a0 a1 : Int) (w : World) (_ : (Lit.int .i64 a0).wf = true) (_ : (Lit.int .i64 a1).wf = true) :
    Calls Tryz.prog 6 #[.int .i64 a0, .int .i64 a1] w fun e w' => e = .returned (.bool true) ∧ Below w.heap.size w w' := by
  have hx0 := seven a1
  obtain ⟨x, hx⟩ : ∃ x, IntKind.i64.wrap (1 + bits .and .i64 a1 7) = x := ⟨_, rfl⟩
  rw [hx] at hx0
  have HX := Lib.hid hx0
  clear hx0
  go_enter Tryz.func6, Tryz.ntmps6
  go_wp2_with fail
  refine (awake4 _).mono ?_
  rintro e w0 ⟨rfl, b0⟩
  go_wp2_with fail
  refine (tiny_any _).mono ?_
  rintro e w1 ⟨rfl, b1'⟩
  have b1 := b0.trans (b1'.mono b0.size)
  clear b1' b0
  obtain ⟨r1, r2, r3, B3, z3⟩ := boxes3 w1 #[.int .i64 0, .int .i64 0, .int .i64 0, .int .i64 0, .int .i64 0, .int .i64 0, .slice none 0 0, .int .i64 0, .int .i64 0] #[.bool false, .bool false, .int .i64 0, .int .i64 0, .int .i64 0, .bool false, .bool false, .int .i64 0, .int .i64 0] #[.int .i64 0, .int .i64 0, .int .i64 0, .int .i64 0, .int .i64 0, .int .i64 0, .bool false, .int .i64 0, .int .i64 0, .slice none 0 0, .slice none 0 0, .int .i64 0, .int .i64 0, .slice none 0 0, .slice none 0 0, .bool false, .slice none 0 0, .int .i64 0, .bool false, .int .i64 0, .int .i64 0] 29 31 26
  have D3 := Lib.hid (b1.trans (B3.mono b1.size))
  have R1 := Lib.hid r1
  have R2 := Lib.hid r2
  have R3 := Lib.hid r3
  have Z1 := b1.size
  clear r1 r2 r3 B3 b1
  go_upto_region 4 with (first
    | (refine wpList_store_whole rfl 29 (.tmp 5) (.tmp 22) rfl w1.heap.size tinySC ?_ ?_ 29 #[.int .i64 0, .int .i64 0, .int .i64 0, .int .i64 0, .int .i64 0, .int .i64 0, .slice none 0 0, .int .i64 0, .int .i64 0] R1.out ?_ ?_ ?_ ?_; rfl; rfl; kernel_rfl; rfl; (simp [tinySC, Value.oneCell']); intro w4 s4 f4; have p4 := (f4.block _ (row_lt R2.out) (by omega)).trans R2.out; have h4 := (f4.block _ (row_lt R3.out) (by omega)).trans R3.out)
    | (refine wpList_store_whole rfl 31 (.tmp 6) (.tmp 23) rfl (w1.heap.size + 1) tinyPC ?_ ?_ 31 #[.bool false, .bool false, .int .i64 0, .int .i64 0, .int .i64 0, .bool false, .bool false, .int .i64 0, .int .i64 0] p4 ?_ ?_ ?_ ?_; rfl; rfl; kernel_rfl; rfl; (simp [tinyPC, Value.oneCell']); intro w5 p5 f5; have s5 := (f5.block _ (row_lt s4) (by omega)).trans s4; have h5 := (f5.block _ (row_lt h4) (by omega)).trans h4)
    | (refine wpList_store_whole rfl 26 (.tmp 7) (.tmp 24) rfl (w1.heap.size + 1 + 1) (tinyHC 26) ?_ ?_ 26 #[.int .i64 0, .int .i64 0, .int .i64 0, .int .i64 0, .int .i64 0, .int .i64 0, .bool false, .int .i64 0, .int .i64 0, .slice none 0 0, .slice none 0 0, .int .i64 0, .int .i64 0, .slice none 0 0, .slice none 0 0, .bool false, .slice none 0 0, .int .i64 0, .bool false, .int .i64 0, .int .i64 0] h5 ?_ ?_ ?_ ?_; rfl; rfl; kernel_rfl; rfl; (simp [tinyHC, headCells, Value.oneCell']); intro w6 h6 f6; have s6 := (f6.block _ (row_lt s5) (by omega)).trans s5; have p6 := (f6.block _ (row_lt p5) (by omega)).trans p5))
  have D6 := Lib.hid (((D3.out.trans (Fr.below f4 D3.out.size (fun k e => by omega))).trans (Fr.below f5 (Nat.le_trans D3.out.size f4.size) (fun k e => by omega))).trans (Fr.below f6 (Nat.le_trans D3.out.size (Nat.le_trans f4.size f5.size)) (fun k e => by omega)))
  have lh := row_lt h6
  clear f4 f5 f6 s4 p4 h4 s5 p5 h5 R1 R2 R3 D3
  have Z6 := D6.out.size
  go_upto_region 5 with fail
  try rw [hx]
  clear hx
  go_wp2_with (first | (refine wpList_load_row_w rfl 26 (.tmp 7) rfl (w1.heap.size + 1 + 1) rfl 26 _ (0, 0) _ h6 Tryz.underlying26 rfl (by kernel_rfl) ?_) | (refine wpList_load_row_w rfl 29 (.tmp 5) rfl w1.heap.size rfl 29 _ (0, 0) _ s6 Tryz.underlying29 rfl (by kernel_rfl) ?_) | (refine wpList_load_row_w rfl 31 (.tmp 6) rfl (w1.heap.size + 1) rfl 31 _ (0, 0) _ p6 Tryz.underlying31 rfl (by kernel_rfl) ?_))
  refine (may_tiny _).mono ?_
  rintro e w7 ⟨rfl, b_⟩
  have h7 := (b_.block _ (row_lt h6)).trans h6
  have s7 := (b_.block _ (row_lt s6)).trans s6
  have p7 := (b_.block _ (row_lt p6)).trans p6
  have Z7 := b_.size
  have D7 := Lib.hid (D6.out.trans (b_.mono D6.out.size))
  clear b_ h6 s6 p6 D6
  have Y_ := Lib.hid (heap_alloc_last w7 (.cells zH 26))
  have h_ := box_more h7 (.cells zH 26)
  have s_ := box_more s7 (.cells zH 26)
  have p_ := box_more p7 (.cells zH 26)
  go_upto_region 7 with (first | (refine wpList_load_row_w rfl 26 (.tmp 7) rfl (w1.heap.size + 1 + 1) rfl 26 _ (0, 0) _ h7 Tryz.underlying26 rfl (by kernel_rfl) ?_) | (refine wpList_store_whole rfl 26 (.tmp 10) (.tmp 32) rfl w7.heap.size (tinyHC 26) ?_ ?_ 26 zH Y_.out ?_ ?_ ?_ ?_; rfl; rfl; kernel_rfl; rfl; (simp [tinyHC, headCells, Value.oneCell']); intro w8 xa8 f_))
  have h8 := (f_.block _ (row_lt h_) (by have := row_lt h7; omega)).trans h_
  have s8 := (f_.block _ (row_lt s_) (by have := row_lt s7; omega)).trans s_
  have p8 := (f_.block _ (row_lt p_) (by have := row_lt p7; omega)).trans p_
  have Z8 : w7.heap.size < w8.heap.size := row_lt xa8
  have D8 := Lib.hid (D7.out.trans ((((Below.refl w7.heap.size w7).alloc (Nat.le_refl _) _).trans (Fr.below f_ (by simp) (fun k e => by omega))).mono D7.out.size))
  clear Y_ f_ D7 h_ h7 s_ s7 p_ p7
  have c_ : w8.cell? ⟨w7.heap.size, 3, none⟩ = some (.int .i64 0) := by rw [cell_of_row w8 _ 3 _ _ _ xa8]; rfl
  have z_ : w8.frozen? ⟨w7.heap.size, 3, none⟩ = false := free_row xa8 3
  obtain ⟨w9, hw_⟩ : ∃ y_, w8.setCell ⟨w7.heap.size, 3, none⟩ (.int .i64 x) = y_ := ⟨_, rfl⟩
  have f_ : Fr (fun k => k = w7.heap.size) w8 w9 := by rw [← hw_]; exact set_fr _ _ _ _
  have xa9 : w9.heap[w7.heap.size]? = some (.cells (headCells (keyH x 0 false [] 2 0) zAdr) 26 (0, 0)) := by rw [← hw_]; exact heap_setCell_row xa8 3 _
  have h9 := (f_.block _ (row_lt h8) (by have := row_lt h8; omega)).trans h8
  have s9 := (f_.block _ (row_lt s8) (by have := row_lt s8; omega)).trans s8
  have p9 := (f_.block _ (row_lt p8) (by have := row_lt p8; omega)).trans p8
  have Z9 := f_.size
  go_upto_region 8 with fail
  try rw [hw_]
  have D9 := Lib.hid (D8.out.trans (Fr.below f_ D8.out.size (fun k e => by omega)))
  clear c_ z_ hw_ f_ D8 h8 s8 p8 xa8
  have Y_ := Lib.hid (heap_alloc_last w9 (.cells zH 26))
  have h_ := box_more h9 (.cells zH 26)
  have s_ := box_more s9 (.cells zH 26)
  have p_ := box_more p9 (.cells zH 26)
  have xa_ := box_more xa9 (.cells zH 26)
  go_upto_region 9 with (first | (refine wpList_load_row_w rfl 26 (.tmp 7) rfl (w1.heap.size + 1 + 1) rfl 26 _ (0, 0) _ h9 Tryz.underlying26 rfl (by kernel_rfl) ?_) | (refine wpList_store_whole rfl 26 (.tmp 11) (.tmp 35) rfl w9.heap.size (tinyHC 26) ?_ ?_ 26 zH Y_.out ?_ ?_ ?_ ?_; rfl; rfl; kernel_rfl; rfl; (simp [tinyHC, headCells, Value.oneCell']); intro wA xbA f_))
  have hA := (f_.block _ (row_lt h_) (by have := row_lt h9; omega)).trans h_
  have sA := (f_.block _ (row_lt s_) (by have := row_lt s9; omega)).trans s_
  have pA := (f_.block _ (row_lt p_) (by have := row_lt p9; omega)).trans p_
  have xaA := (f_.block _ (row_lt xa_) (by have := row_lt xa9; omega)).trans xa_
  have ZA : w9.heap.size < wA.heap.size := row_lt xbA
  have DA := Lib.hid (D9.out.trans ((((Below.refl w9.heap.size w9).alloc (Nat.le_refl _) _).trans (Fr.below f_ (by simp) (fun k e => by omega))).mono D9.out.size))
  clear Y_ f_ D9 h_ h9 s_ s9 p_ p9 xa_ xa9
  have c_ : wA.cell? ⟨w9.heap.size, 4, none⟩ = some (.int .i64 0) := by rw [cell_of_row wA _ 4 _ _ _ xbA]; rfl
  have z_ : wA.frozen? ⟨w9.heap.size, 4, none⟩ = false := free_row xbA 4
  obtain ⟨wB, hw_⟩ : ∃ y_, wA.setCell ⟨w9.heap.size, 4, none⟩ (.int .i64 x) = y_ := ⟨_, rfl⟩
  have f_ : Fr (fun k => k = w9.heap.size) wA wB := by rw [← hw_]; exact set_fr _ _ _ _
  have xbB : wB.heap[w9.heap.size]? = some (.cells (headCells (keyH 0 x false [] 2 0) zAdr) 26 (0, 0)) := by rw [← hw_]; exact heap_setCell_row xbA 4 _
  have hB := (f_.block _ (row_lt hA) (by have := row_lt hA; omega)).trans hA
  have sB := (f_.block _ (row_lt sA) (by have := row_lt sA; omega)).trans sA
  have pB := (f_.block _ (row_lt pA) (by have := row_lt pA; omega)).trans pA
  have xaB := (f_.block _ (row_lt xaA) (by have := row_lt xaA; omega)).trans xaA
  have ZB := f_.size
  go_upto_region 10 with fail
  try rw [hw_]
  have DB := Lib.hid (DA.out.trans (Fr.below f_ DA.out.size (fun k e => by omega)))
  clear c_ z_ hw_ f_ DA hA sA pA xaA xbA
  have Y_ := Lib.hid (heap_alloc_last wB (.cells zH 26))
  have h_ := box_more hB (.cells zH 26)
  have s_ := box_more sB (.cells zH 26)
  have p_ := box_more pB (.cells zH 26)
  have xa_ := box_more xaB (.cells zH 26)
  have xb_ := box_more xbB (.cells zH 26)
  go_upto_region 11 with (first | (refine wpList_load_row_w rfl 26 (.tmp 7) rfl (w1.heap.size + 1 + 1) rfl 26 _ (0, 0) _ hB Tryz.underlying26 rfl (by kernel_rfl) ?_) | (refine wpList_store_whole rfl 26 (.tmp 12) (.tmp 38) rfl wB.heap.size (tinyHC 26) ?_ ?_ 26 zH Y_.out ?_ ?_ ?_ ?_; rfl; rfl; kernel_rfl; rfl; (simp [tinyHC, headCells, Value.oneCell']); intro wC xcC f_))
  have hC := (f_.block _ (row_lt h_) (by have := row_lt hB; omega)).trans h_
  have sC := (f_.block _ (row_lt s_) (by have := row_lt sB; omega)).trans s_
  have pC := (f_.block _ (row_lt p_) (by have := row_lt pB; omega)).trans p_
  have xaC := (f_.block _ (row_lt xa_) (by have := row_lt xaB; omega)).trans xa_
  have xbC := (f_.block _ (row_lt xb_) (by have := row_lt xbB; omega)).trans xb_
  have ZC : wB.heap.size < wC.heap.size := row_lt xcC
  have DC := Lib.hid (DB.out.trans ((((Below.refl wB.heap.size wB).alloc (Nat.le_refl _) _).trans (Fr.below f_ (by simp) (fun k e => by omega))).mono DB.out.size))
  clear Y_ f_ DB h_ hB s_ sB p_ pB xa_ xaB xb_ xbB
  have c_ : wC.cell? ⟨wB.heap.size, 15, none⟩ = some (.bool false) := by rw [cell_of_row wC _ 15 _ _ _ xcC]; rfl
  have z_ : wC.frozen? ⟨wB.heap.size, 15, none⟩ = false := free_row xcC 15
  obtain ⟨wE, hw_⟩ : ∃ y_, wC.setCell ⟨wB.heap.size, 15, none⟩ (.bool true) = y_ := ⟨_, rfl⟩
  have f_ : Fr (fun k => k = wB.heap.size) wC wE := by rw [← hw_]; exact set_fr _ _ _ _
  have xcE : wE.heap[wB.heap.size]? = some (.cells (headCells (keyH 0 0 true [] 2 0) zAdr) 26 (0, 0)) := by rw [← hw_]; exact heap_setCell_row xcC 15 _
  have hE := (f_.block _ (row_lt hC) (by have := row_lt hC; omega)).trans hC
  have sE := (f_.block _ (row_lt sC) (by have := row_lt sC; omega)).trans sC
  have pE := (f_.block _ (row_lt pC) (by have := row_lt pC; omega)).trans pC
  have xaE := (f_.block _ (row_lt xaC) (by have := row_lt xaC; omega)).trans xaC
  have xbE := (f_.block _ (row_lt xbC) (by have := row_lt xbC; omega)).trans xbC
  have ZE := f_.size
  go_upto_region 12 with fail
  try rw [hw_]
  have DE := Lib.hid (DC.out.trans (Fr.below f_ DC.out.size (fun k e => by omega)))
  clear c_ z_ hw_ f_ DC hC sC pC xaC xbC xcC
  have Y_ := Lib.hid (heap_alloc_last wE (.cells zH 26))
  have h_ := box_more hE (.cells zH 26)
  have s_ := box_more sE (.cells zH 26)
  have p_ := box_more pE (.cells zH 26)
  have xa_ := box_more xaE (.cells zH 26)
  have xb_ := box_more xbE (.cells zH 26)
  have xc_ := box_more xcE (.cells zH 26)
  go_upto_region 13 with (first | (refine wpList_load_row_w rfl 26 (.tmp 7) rfl (w1.heap.size + 1 + 1) rfl 26 _ (0, 0) _ hE Tryz.underlying26 rfl (by kernel_rfl) ?_) | (refine wpList_store_whole rfl 26 (.tmp 13) (.tmp 40) rfl wE.heap.size (tinyHC 26) ?_ ?_ 26 zH Y_.out ?_ ?_ ?_ ?_; rfl; rfl; kernel_rfl; rfl; (simp [tinyHC, headCells, Value.oneCell']); intro wF xdF f_))
  have hF := (f_.block _ (row_lt h_) (by have := row_lt hE; omega)).trans h_
  have sF := (f_.block _ (row_lt s_) (by have := row_lt sE; omega)).trans s_
  have pF := (f_.block _ (row_lt p_) (by have := row_lt pE; omega)).trans p_
  have xaF := (f_.block _ (row_lt xa_) (by have := row_lt xaE; omega)).trans xa_
  have xbF := (f_.block _ (row_lt xb_) (by have := row_lt xbE; omega)).trans xb_
  have xcF := (f_.block _ (row_lt xc_) (by have := row_lt xcE; omega)).trans xc_
  have ZF : wE.heap.size < wF.heap.size := row_lt xdF
  have DF := Lib.hid (DE.out.trans ((((Below.refl wE.heap.size wE).alloc (Nat.le_refl _) _).trans (Fr.below f_ (by simp) (fun k e => by omega))).mono DE.out.size))
  clear Y_ f_ DE h_ hE s_ sE p_ pE xa_ xaE xb_ xbE xc_ xcE
  have c_ : wF.cell? ⟨wE.heap.size, 16, none⟩ = some (.slice none 0 0) := by rw [cell_of_row wF _ 16 _ _ _ xdF]; rfl
  have z_ : wF.frozen? ⟨wE.heap.size, 16, none⟩ = false := free_row xdF 16
  obtain ⟨wf, hw1⟩ : ∃ y_, wF.setCell ⟨wE.heap.size, 16, none⟩ (.slice (some ⟨wF.heap.size, 0, none⟩) 1 1) = y_ := ⟨_, rfl⟩
  obtain ⟨wG, hw_⟩ : ∃ y_, wf.alloc (.cells #[.int .i64 5, .int .i64 0, .int .i64 0] 69) = y_ := ⟨_, rfl⟩
  have f1_ : Fr (fun k => k = wE.heap.size) wF wf := by rw [← hw1]; exact set_fr _ _ _ _
  have e1_ : wf.heap.size = wF.heap.size := by rw [← hw1]; simp
  have xdf : wf.heap[wE.heap.size]? = some (.cells (headCells (keyH 0 0 false oneOp 2 0) ⟨none, none, none, none, some ⟨wF.heap.size, 0, none⟩, 0, 0, 0, 0, 1⟩) 26 (0, 0)) := by rw [← hw1]; exact heap_setCell_row xdF 16 _
  have f2_ : Fr (fun _ => False) wf wG := by rw [← hw_]; exact (Fr.refl _ _).alloc _
  have gG : wG.heap[wF.heap.size]? = some (.cells #[.int .i64 5, .int .i64 0, .int .i64 0] 69 (0, 0)) := by rw [← hw_, ← e1_]; exact heap_alloc_last _ _
  have xdG := (f2_.block _ (row_lt xdf) (fun h => h)).trans xdf
  have hG := (f2_.block _ (by rw [e1_]; exact row_lt hF) (fun h => h)).trans ((f1_.block _ (row_lt hF) (by have := row_lt hF; omega)).trans hF)
  have sG := (f2_.block _ (by rw [e1_]; exact row_lt sF) (fun h => h)).trans ((f1_.block _ (row_lt sF) (by have := row_lt sF; omega)).trans sF)
  have pG := (f2_.block _ (by rw [e1_]; exact row_lt pF) (fun h => h)).trans ((f1_.block _ (row_lt pF) (by have := row_lt pF; omega)).trans pF)
  have xaG := (f2_.block _ (by rw [e1_]; exact row_lt xaF) (fun h => h)).trans ((f1_.block _ (row_lt xaF) (by have := row_lt xaF; omega)).trans xaF)
  have xbG := (f2_.block _ (by rw [e1_]; exact row_lt xbF) (fun h => h)).trans ((f1_.block _ (row_lt xbF) (by have := row_lt xbF; omega)).trans xbF)
  have xcG := (f2_.block _ (by rw [e1_]; exact row_lt xcF) (fun h => h)).trans ((f1_.block _ (row_lt xcF) (by have := row_lt xcF; omega)).trans xcF)
  have ZG : wF.heap.size < wG.heap.size := row_lt gG
  go_upto_region 14 with fail
  try rw [hw1]
  try rw [hw_]
  have DG := Lib.hid ((DF.out.trans (Fr.below f1_ DF.out.size (fun k e => by omega))).trans (Fr.below f2_ (by have := DF.out.size; omega) (fun k e => e.elim)))
  clear c_ z_ hw1 hw_ f1_ f2_ e1_ xdf DF hF sF pF xaF xbF xcF xdF
  have Y_ := Lib.hid (heap_alloc_last wG (.cells zH 26))
  have h_ := box_more hG (.cells zH 26)
  have s_ := box_more sG (.cells zH 26)
  have p_ := box_more pG (.cells zH 26)
  have xa_ := box_more xaG (.cells zH 26)
  have xb_ := box_more xbG (.cells zH 26)
  have xc_ := box_more xcG (.cells zH 26)
  have xd_ := box_more xdG (.cells zH 26)
  have g_ := box_more gG (.cells zH 26)
  go_upto_region 15 with (first | (refine wpList_load_row_w rfl 26 (.tmp 7) rfl (w1.heap.size + 1 + 1) rfl 26 _ (0, 0) _ hG Tryz.underlying26 rfl (by kernel_rfl) ?_) | (refine wpList_store_whole rfl 26 (.tmp 14) (.tmp 44) rfl wG.heap.size (tinyHC 26) ?_ ?_ 26 zH Y_.out ?_ ?_ ?_ ?_; rfl; rfl; kernel_rfl; rfl; (simp [tinyHC, headCells, Value.oneCell']); intro wH xeH f_))
  have hH := (f_.block _ (row_lt h_) (by have := row_lt hG; omega)).trans h_
  have sH := (f_.block _ (row_lt s_) (by have := row_lt sG; omega)).trans s_
  have pH := (f_.block _ (row_lt p_) (by have := row_lt pG; omega)).trans p_
  have xaH := (f_.block _ (row_lt xa_) (by have := row_lt xaG; omega)).trans xa_
  have xbH := (f_.block _ (row_lt xb_) (by have := row_lt xbG; omega)).trans xb_
  have xcH := (f_.block _ (row_lt xc_) (by have := row_lt xcG; omega)).trans xc_
  have xdH := (f_.block _ (row_lt xd_) (by have := row_lt xdG; omega)).trans xd_
  have gH := (f_.block _ (row_lt g_) (by have := row_lt gG; omega)).trans g_
  have ZH : wG.heap.size < wH.heap.size := row_lt xeH
  have DH := Lib.hid (DG.out.trans ((((Below.refl wG.heap.size wG).alloc (Nat.le_refl _) _).trans (Fr.below f_ (by simp) (fun k e => by omega))).mono DG.out.size))
  clear Y_ f_ DG h_ hG s_ sG p_ pG xa_ xaG xb_ xbG xc_ xcG xd_ xdG g_ gG
  have c_ : wH.cell? ⟨wG.heap.size, 2, none⟩ = some (.int .i64 2) := by rw [cell_of_row wH _ 2 _ _ _ xeH]; rfl
  have z_ : wH.frozen? ⟨wG.heap.size, 2, none⟩ = false := free_row xeH 2
  obtain ⟨wI, hw_⟩ : ∃ y_, wH.setCell ⟨wG.heap.size, 2, none⟩ (.int .i64 0) = y_ := ⟨_, rfl⟩
  have f_ : Fr (fun k => k = wG.heap.size) wH wI := by rw [← hw_]; exact set_fr _ _ _ _
  have xeI : wI.heap[wG.heap.size]? = some (.cells (headCells (keyH 0 0 false [] 0 0) zAdr) 26 (0, 0)) := by rw [← hw_]; exact heap_setCell_row xeH 2 _
  have hI := (f_.block _ (row_lt hH) (by have := row_lt hH; omega)).trans hH
  have sI := (f_.block _ (row_lt sH) (by have := row_lt sH; omega)).trans sH
  have pI := (f_.block _ (row_lt pH) (by have := row_lt pH; omega)).trans pH
  have xaI := (f_.block _ (row_lt xaH) (by have := row_lt xaH; omega)).trans xaH
  have xbI := (f_.block _ (row_lt xbH) (by have := row_lt xbH; omega)).trans xbH
  have xcI := (f_.block _ (row_lt xcH) (by have := row_lt xcH; omega)).trans xcH
  have xdI := (f_.block _ (row_lt xdH) (by have := row_lt xdH; omega)).trans xdH
  have gI := (f_.block _ (row_lt gH) (by have := row_lt gH; omega)).trans gH
  have ZI := f_.size
  go_upto_region 16 with fail
  try rw [hw_]
  have DI := Lib.hid (DH.out.trans (Fr.below f_ DH.out.size (fun k e => by omega)))
  clear c_ z_ hw_ f_ DH hH sH pH xaH xbH xcH xdH gH xeH
  have c_ : wI.cell? ⟨wG.heap.size, 7, none⟩ = some (.int .i64 0) := by rw [cell_of_row wI _ 7 _ _ _ xeI]; rfl
  have z_ : wI.frozen? ⟨wG.heap.size, 7, none⟩ = false := free_row xeI 7
  obtain ⟨wJ, hw_⟩ : ∃ y_, wI.setCell ⟨wG.heap.size, 7, none⟩ (.int .i64 1) = y_ := ⟨_, rfl⟩
  have f_ : Fr (fun k => k = wG.heap.size) wI wJ := by rw [← hw_]; exact set_fr _ _ _ _
  have xeJ : wJ.heap[wG.heap.size]? = some (.cells (headCells (keyH 0 0 false [] 0 1) zAdr) 26 (0, 0)) := by rw [← hw_]; exact heap_setCell_row xeI 7 _
  have hJ := (f_.block _ (row_lt hI) (by have := row_lt hI; omega)).trans hI
  have sJ := (f_.block _ (row_lt sI) (by have := row_lt sI; omega)).trans sI
  have pJ := (f_.block _ (row_lt pI) (by have := row_lt pI; omega)).trans pI
  have xaJ := (f_.block _ (row_lt xaI) (by have := row_lt xaI; omega)).trans xaI
  have xbJ := (f_.block _ (row_lt xbI) (by have := row_lt xbI; omega)).trans xbI
  have xcJ := (f_.block _ (row_lt xcI) (by have := row_lt xcI; omega)).trans xcI
  have xdJ := (f_.block _ (row_lt xdI) (by have := row_lt xdI; omega)).trans xdI
  have gJ := (f_.block _ (row_lt gI) (by have := row_lt gI; omega)).trans gI
  have ZJ := f_.size
  go_upto_region 17 with fail
  try rw [hw_]
  have DJ := Lib.hid (DI.out.trans (Fr.below f_ DI.out.size (fun k e => by omega)))
  clear c_ z_ hw_ f_ DI hI sI pI xaI xbI xcI xdI gI xeI
  have hos := fun w (h : w.heap[wF.heap.size]? = some (.cells #[.int .i64 5, .int .i64 0, .int .i64 0] 69 (0, 0))) => key_os w _ h
  obtain ⟨K, hK⟩ : ∃ b, (bits .and .i64 a0 1 == 0) = b := ⟨_, rfl⟩
  obtain ⟨R, hR⟩ : ∃ b, (bits .and .i64 a0 2 == 0) = b := ⟨_, rfl⟩
  have mb := fun w => (may_is w tinyS none 0 tinyP (keyR R) K (keyH x 0 false [] 2 0) none none none none none 0 0 0 0 0 (IntRow.nil _ _) (by decide) (key_rows w x 0 false 2 0))
  have mc := fun w => (may_is w tinyS none 0 tinyP (keyR R) K (keyH 0 x false [] 2 0) none none none none none 0 0 0 0 0 (IntRow.nil _ _) (by decide) (key_rows w 0 x false 2 0))
  have md := fun w => (may_is w tinyS none 0 tinyP (keyR R) K (keyH 0 0 true [] 2 0) none none none none none 0 0 0 0 0 (IntRow.nil _ _) (by decide) (key_rows w 0 0 true 2 0))
  have me := fun w h => (may_is w tinyS none 0 tinyP (keyR R) K (keyH 0 0 false oneOp 2 0) none none none none (some ⟨wF.heap.size, 0, none⟩) 0 0 0 0 1 (IntRow.nil _ _) (by decide) ⟨KRow.nil _ _ _ _, KRow.nil _ _ _ _, KRow.nil _ _ _ _, KRow.nil _ _ _ _, hos w h, by simp [keyH], by simp [keyH], by simp [keyH], by simp [keyH], by simp [keyH, oneOp]⟩)
  have mf := fun w => (may_is w tinyS none 0 tinyP (keyR R) K (keyH 0 0 false [] 0 1) none none none none none 0 0 0 0 0 (IntRow.nil _ _) (by decide) (key_rows w 0 0 false 0 1))
  rw [key_b HX.out] at mb
  rw [key_c HX.out] at mc
  rw [key_d] at md
  simp only [key_e] at me
  rw [key_f] at mf
  have MB := Lib.hid mb
  have MC := Lib.hid mc
  have MD := Lib.hid md
  have ME := Lib.hid me
  have MF := Lib.hid mf
  clear mb mc md me mf hos
  have RS := Lib.hid (show wJ.heap[w1.heap.size]? = some (.cells #[.int .i64 2, .int .i64 2, .int .i64 4, .int .i64 0, .int .i64 4, .int .i64 0, .slice none 0 0, .int .i64 2, .int .i64 0] 29 (0, 0)) from sJ)
  have RP := Lib.hid (show wJ.heap[w1.heap.size + 1]? = some (.cells #[.bool false, .bool false, .int .i64 0, .int .i64 26, .int .i64 0, .bool false, .bool false, .int .i64 1, .int .i64 1] 31 (0, 0)) from pJ)
  have RA := Lib.hid (show wJ.heap[w7.heap.size]? = some (.cells #[.int .i64 0, .int .i64 4, .int .i64 2, .int .i64 x, .int .i64 0, .int .i64 0, .bool false, .int .i64 0, .int .i64 0, .slice none 0 0, .slice none 0 0, .int .i64 0, .int .i64 0, .slice none 0 0, .slice none 0 0, .bool false, .slice none 0 0, .int .i64 26, .bool false, .int .i64 0, .int .i64 0] 26 (0, 0)) from xaJ)
  have RB := Lib.hid (show wJ.heap[w9.heap.size]? = some (.cells #[.int .i64 0, .int .i64 4, .int .i64 2, .int .i64 0, .int .i64 x, .int .i64 0, .bool false, .int .i64 0, .int .i64 0, .slice none 0 0, .slice none 0 0, .int .i64 0, .int .i64 0, .slice none 0 0, .slice none 0 0, .bool false, .slice none 0 0, .int .i64 26, .bool false, .int .i64 0, .int .i64 0] 26 (0, 0)) from xbJ)
  have RC := Lib.hid (show wJ.heap[wB.heap.size]? = some (.cells #[.int .i64 0, .int .i64 4, .int .i64 2, .int .i64 0, .int .i64 0, .int .i64 0, .bool false, .int .i64 0, .int .i64 0, .slice none 0 0, .slice none 0 0, .int .i64 0, .int .i64 0, .slice none 0 0, .slice none 0 0, .bool true, .slice none 0 0, .int .i64 26, .bool false, .int .i64 0, .int .i64 0] 26 (0, 0)) from xcJ)
  have RD := Lib.hid (show wJ.heap[wE.heap.size]? = some (.cells #[.int .i64 0, .int .i64 4, .int .i64 2, .int .i64 0, .int .i64 0, .int .i64 0, .bool false, .int .i64 0, .int .i64 0, .slice none 0 0, .slice none 0 0, .int .i64 0, .int .i64 0, .slice none 0 0, .slice none 0 0, .bool false, .slice (some ⟨wF.heap.size, 0, none⟩) 1 1, .int .i64 26, .bool false, .int .i64 0, .int .i64 0] 26 (0, 0)) from xdJ)
  have RE := Lib.hid (show wJ.heap[wG.heap.size]? = some (.cells #[.int .i64 0, .int .i64 4, .int .i64 0, .int .i64 0, .int .i64 0, .int .i64 0, .bool false, .int .i64 1, .int .i64 0, .slice none 0 0, .slice none 0 0, .int .i64 0, .int .i64 0, .slice none 0 0, .slice none 0 0, .bool false, .slice none 0 0, .int .i64 26, .bool false, .int .i64 0, .int .i64 0] 26 (0, 0)) from xeJ)
  have GJ := Lib.hid gJ
  clear sJ pJ xaJ xbJ xcJ xdJ xeJ gJ hJ
  cases R
  · go_upto_region 21 with fail
    refine wp_region_row (ops := kk_ops) (qI wJ) (qV (kk_V w1.heap.size (w1.heap.size + 1) w7.heap.size w9.heap.size wB.heap.size wE.heap.size wG.heap.size wF.heap.size x true K false 0 (!K) K (K && false) (!K && false) (!K) (!K) (!K) true true K true true false false true true false (!K) false true true (!K) (!K) true true 0 true true)) (by kernel_rfl) (Below.refl _ _) (fun i hi => ?_) (fun a wz M => ?_)
    · match i, hi with | 0, _ => exact kk_s0 rfl | 1, _ => exact kk_s1 | 2, _ => exact kk_s2 RA.out rfl | 3, _ => exact kk_s3 RS.out rfl | 4, _ => exact kk_s4 RP.out rfl | 5, _ => exact kk_s5 rfl | 6, _ => exact kk_s6 rfl | 7, _ => exact kk_s7 (fun wr b => MB.out wr) (by cases K <;> rfl) | 8, _ => exact kk_s8 rfl | 9, _ => exact kk_s9 (by cases K <;> rfl) | 10, _ => exact kk_s10 (by cases K <;> rfl) | 11, _ => exact kk_s11 (by cases K <;> rfl) | 12, _ => exact kk_s12 | 13, _ => exact kk_s13 RB.out rfl | 14, _ => exact kk_s14 RS.out rfl | 15, _ => exact kk_s15 RP.out rfl | 16, _ => exact kk_s16 rfl | 17, _ => exact kk_s17 rfl | 18, _ => exact kk_s18 (fun wr b => MC.out wr) (by cases K <;> rfl) | 19, _ => exact kk_s19 rfl | 20, _ => exact kk_s20 (by cases K <;> rfl) | 21, _ => exact kk_s21 (by cases K <;> rfl) | 22, _ => exact kk_s22 | 23, _ => exact kk_s23 RC.out rfl | 24, _ => exact kk_s24 RS.out rfl | 25, _ => exact kk_s25 RP.out rfl | 26, _ => exact kk_s26 rfl | 27, _ => exact kk_s27 rfl | 28, _ => exact kk_s28 (fun wr b => MD.out wr) (by cases K <;> rfl) | 29, _ => exact kk_s29 rfl | 30, _ => exact kk_s30 | 31, _ => exact kk_s31 rfl | 32, _ => exact kk_s32 (by cases K <;> rfl) | 33, _ => exact kk_s33 (by cases K <;> rfl) | 34, _ => exact kk_s34 (by cases K <;> rfl) | 35, _ => exact kk_s35 | 36, _ => exact kk_s36 RD.out rfl | 37, _ => exact kk_s37 RS.out rfl | 38, _ => exact kk_s38 RP.out rfl | 39, _ => exact kk_s39 rfl | 40, _ => exact kk_s40 rfl | 41, _ => exact kk_s41 (fun wr b => ME.out wr ((Below.block b _ (row_lt GJ.out)).trans GJ.out)) (by cases K <;> rfl) | 42, _ => exact kk_s42 rfl | 43, _ => exact kk_s43 (by cases K <;> rfl) | 44, _ => exact kk_s44 | 45, _ => exact kk_s45 rfl | 46, _ => exact kk_s46 (by cases K <;> rfl) | 47, _ => exact kk_s47 (by cases K <;> rfl) | 48, _ => exact kk_s48 (by cases K <;> rfl) | 49, _ => exact kk_s49 | 50, _ => exact kk_s50 RE.out rfl | 51, _ => exact kk_s51 RS.out rfl | 52, _ => exact kk_s52 RP.out rfl | 53, _ => exact kk_s53 rfl | 54, _ => exact kk_s54 rfl | 55, _ => exact kk_s55 (fun wr b => MF.out wr) (by cases K <;> rfl) | 56, _ => exact kk_s56 rfl | 57, _ => exact kk_s57 (by cases K <;> rfl) | 58, _ => exact kk_s58 (by cases K <;> rfl) | 59, _ => exact kk_s59 (by cases K <;> rfl) | 60, _ => exact kk_s60 | 61, _ => exact kk_s61 (by cases K <;> rfl) | 62, _ => exact kk_s62 (by cases K <;> rfl) | 63, _ => exact kk_s63 (by cases K <;> rfl) | 64, _ => exact kk_s64 | k + 65, h => exact absurd h (by simp [kk_ops])
    · obtain ⟨v, t2, e2⟩ := M.get 64 4 (by kernel_rfl)
      have e3 := e2 (true, .bool true) rfl
      rw [if_pos rfl] at e3
      subst e3
      have hd := M.defers
      have MI := M.inv
      clear M e2
      go_wp2_with fail
      refine bodyPost_ret (v := .bool true) (by simp [results, Tryz.results6, go_sem, t2]) hd ⟨rfl, ?_⟩
      exact DJ.out.trans (Below.mono MI DJ.out.size)
  · go_upto_region 21 with fail
    refine wp_region_row (ops := kk_ops) (qI wJ) (qV (kk_V w1.heap.size (w1.heap.size + 1) w7.heap.size w9.heap.size wB.heap.size wE.heap.size wG.heap.size wF.heap.size x true K true 1 (!K) K (K && true) (!K && true) (!K) (!K) (!K) true true K true true K K true true (!K) (!K) (!K) true true (!K) (!K) true true 0 true true)) (by kernel_rfl) (Below.refl _ _) (fun i hi => ?_) (fun a wz M => ?_)
    · match i, hi with | 0, _ => exact kk_s0 rfl | 1, _ => exact kk_s1 | 2, _ => exact kk_s2 RA.out rfl | 3, _ => exact kk_s3 RS.out rfl | 4, _ => exact kk_s4 RP.out rfl | 5, _ => exact kk_s5 rfl | 6, _ => exact kk_s6 rfl | 7, _ => exact kk_s7 (fun wr b => MB.out wr) (by cases K <;> rfl) | 8, _ => exact kk_s8 rfl | 9, _ => exact kk_s9 (by cases K <;> rfl) | 10, _ => exact kk_s10 (by cases K <;> rfl) | 11, _ => exact kk_s11 (by cases K <;> rfl) | 12, _ => exact kk_s12 | 13, _ => exact kk_s13 RB.out rfl | 14, _ => exact kk_s14 RS.out rfl | 15, _ => exact kk_s15 RP.out rfl | 16, _ => exact kk_s16 rfl | 17, _ => exact kk_s17 rfl | 18, _ => exact kk_s18 (fun wr b => MC.out wr) (by cases K <;> rfl) | 19, _ => exact kk_s19 rfl | 20, _ => exact kk_s20 (by cases K <;> rfl) | 21, _ => exact kk_s21 (by cases K <;> rfl) | 22, _ => exact kk_s22 | 23, _ => exact kk_s23 RC.out rfl | 24, _ => exact kk_s24 RS.out rfl | 25, _ => exact kk_s25 RP.out rfl | 26, _ => exact kk_s26 rfl | 27, _ => exact kk_s27 rfl | 28, _ => exact kk_s28 (fun wr b => MD.out wr) (by cases K <;> rfl) | 29, _ => exact kk_s29 rfl | 30, _ => exact kk_s30 | 31, _ => exact kk_s31 rfl | 32, _ => exact kk_s32 (by cases K <;> rfl) | 33, _ => exact kk_s33 (by cases K <;> rfl) | 34, _ => exact kk_s34 (by cases K <;> rfl) | 35, _ => exact kk_s35 | 36, _ => exact kk_s36 RD.out rfl | 37, _ => exact kk_s37 RS.out rfl | 38, _ => exact kk_s38 RP.out rfl | 39, _ => exact kk_s39 rfl | 40, _ => exact kk_s40 rfl | 41, _ => exact kk_s41 (fun wr b => ME.out wr ((Below.block b _ (row_lt GJ.out)).trans GJ.out)) (by cases K <;> rfl) | 42, _ => exact kk_s42 rfl | 43, _ => exact kk_s43 (by cases K <;> rfl) | 44, _ => exact kk_s44 | 45, _ => exact kk_s45 rfl | 46, _ => exact kk_s46 (by cases K <;> rfl) | 47, _ => exact kk_s47 (by cases K <;> rfl) | 48, _ => exact kk_s48 (by cases K <;> rfl) | 49, _ => exact kk_s49 | 50, _ => exact kk_s50 RE.out rfl | 51, _ => exact kk_s51 RS.out rfl | 52, _ => exact kk_s52 RP.out rfl | 53, _ => exact kk_s53 rfl | 54, _ => exact kk_s54 rfl | 55, _ => exact kk_s55 (fun wr b => MF.out wr) (by cases K <;> rfl) | 56, _ => exact kk_s56 rfl | 57, _ => exact kk_s57 (by cases K <;> rfl) | 58, _ => exact kk_s58 (by cases K <;> rfl) | 59, _ => exact kk_s59 (by cases K <;> rfl) | 60, _ => exact kk_s60 | 61, _ => exact kk_s61 (by cases K <;> rfl) | 62, _ => exact kk_s62 (by cases K <;> rfl) | 63, _ => exact kk_s63 (by cases K <;> rfl) | 64, _ => exact kk_s64 | k + 65, h => exact absurd h (by simp [kk_ops])
    · obtain ⟨v, t2, e2⟩ := M.get 64 4 (by kernel_rfl)
      have e3 := e2 (true, .bool true) rfl
      rw [if_pos rfl] at e3
      subst e3
      have hd := M.defers
      have MI := M.inv
      clear M e2
      go_wp2_with fail
      refine bodyPost_ret (v := .bool true) (by simp [results, Tryz.results6, go_sem, t2]) hd ⟨rfl, ?_⟩
      exact DJ.out.trans (Below.mono MI DJ.out.size)

end Go.Proofs.YthcbgijmnonckaaGreat
