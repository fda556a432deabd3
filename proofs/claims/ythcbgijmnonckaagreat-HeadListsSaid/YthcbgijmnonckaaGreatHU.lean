/- Layer 4: the program's operands and mayOp. -/
import Derived.Test.YthcbgijmnonckaaGreatHE
import Derived.Test.YthcbgijmnonckaaGreatHN
import Derived.Test.YthcbgijmnonckaaGreatHP
namespace Go.Proofs.YthcbgijmnonckaaGreat
open Go.RowKit Zo Zp
set_option linter.unusedVariables false

def opA (k : Int) : Bool := inB k 1 6 && k != 5
def opB' (k : Int) : Bool := k == 3

theorem operands_all (w : World) (k : Int) : Calls Tryz.prog 128 #[.int .i64 k] w fun e w' => e = .returned (.tuple #[.bool (opA k), .bool (opB' k)]) ∧ w = w' := by
  by_cases h : 0 ≤ k ∧ k ≤ 6
  · rcases (show k = 0 ∨ k = 1 ∨ k = 2 ∨ k = 3 ∨ k = 4 ∨ k = 5 ∨ k = 6 by omega) with rfl | rfl | rfl | rfl | rfl | rfl | rfl
    all_goals
      go_enter Tryz.func128, Tryz.ntmps128
      go_wp2_with fail
      go_ret2
      exact ⟨rfl, rfl⟩
  · have h1 : k ≠ 1 := by omega
    have h2 : k ≠ 2 := by omega
    have h3 : k ≠ 3 := by omega
    have h4 : k ≠ 4 := by omega
    have h5 : k ≠ 5 := by omega
    have h6 : k ≠ 6 := by omega
    have e1 : opA k = false := by simp [opA, inB]; omega
    have e2 : opB' k = false := by simp [opB', h3]
    rw [e1, e2]
    clear e1 e2 h h5
    go_enter Tryz.func128, Tryz.ntmps128
    go_wp2_with fail
    go_ret2
    exact ⟨rfl, rfl⟩

def mo_o0 : Oper := { dst := some 11, op := Op.fieldAddr 69 (Operand.tmp 1) 0, type := 0, pos := "may.go:146", after := #[], guard := none }
def mo_o1 : Oper := { dst := some 12, op := Op.load 3 (Operand.tmp 11), type := 3, pos := "may.go:146", after := #[{ on := 0, ground := Ground.data }], guard := none }
def mo_o2 : Oper := { dst := some 13, op := Op.call { callee := Callee.value (Operand.func 129), args := #[Operand.tmp 12], argTypes := #[3] }, type := 4, pos := "may.go:146", after := #[{ on := 1, ground := Ground.data }], guard := none }
def mo_o3 : Oper := { dst := some 14, op := Op.move (Operand.tmp 13), type := 4, pos := "may.go:146", after := #[{ on := 2, ground := Ground.data }, { on := 2, ground := Ground.chain }], guard := none }
def mo_o4 : Oper := { dst := some 15, op := Op.fieldAddr 69 (Operand.tmp 1) 1, type := 0, pos := "may.go:146", after := #[{ on := 3, ground := Ground.guard }], guard := some (3, true) }
def mo_o5 : Oper := { dst := some 16, op := Op.load 3 (Operand.tmp 15), type := 3, pos := "may.go:146", after := #[{ on := 4, ground := Ground.data }, { on := 3, ground := Ground.guard }], guard := some (3, true) }
def mo_o6 : Oper := { dst := some 17, op := Op.move (Operand.tmp 3), type := 4, pos := "may.go:146", after := #[{ on := 3, ground := Ground.guard }], guard := some (3, true) }
def mo_o7 : Oper := { dst := some 18, op := Op.call { callee := Callee.value (Operand.func 101), args := #[Operand.tmp 17, Operand.const (Value.int IntKind.i64 255)], argTypes := #[4, 3] }, type := 3, pos := "may.go:146", after := #[{ on := 6, ground := Ground.data }, { on := 3, ground := Ground.chain }, { on := 3, ground := Ground.guard }], guard := some (3, true) }
def mo_o8 : Oper := { dst := some 19, op := Op.call { callee := Callee.value (Operand.func 75), args := #[Operand.tmp 16, Operand.const (Value.int IntKind.i64 0), Operand.tmp 18], argTypes := #[3, 3, 3] }, type := 4, pos := "may.go:146", after := #[{ on := 5, ground := Ground.data }, { on := 7, ground := Ground.data }, { on := 7, ground := Ground.chain }, { on := 3, ground := Ground.guard }], guard := some (3, true) }
def mo_o9 : Oper := { dst := some 20, op := Op.pick (Operand.tmp 14) (Operand.tmp 19) (Operand.const (Value.bool false)), type := 4, pos := "may.go:146", after := #[{ on := 3, ground := Ground.data }, { on := 8, ground := Ground.data }], guard := none }
def mo_o10 : Oper := { dst := some 21, op := Op.move (Operand.tmp 20), type := 4, pos := "may.go:146", after := #[{ on := 9, ground := Ground.data }, { on := 8, ground := Ground.chain }], guard := none }
def mo_o11 : Oper := { dst := some 22, op := Op.fieldAddr 69 (Operand.tmp 1) 2, type := 0, pos := "may.go:146", after := #[{ on := 10, ground := Ground.guard }], guard := some (10, true) }
def mo_o12 : Oper := { dst := some 23, op := Op.load 3 (Operand.tmp 22), type := 3, pos := "may.go:146", after := #[{ on := 11, ground := Ground.data }, { on := 10, ground := Ground.guard }], guard := some (10, true) }
def mo_o13 : Oper := { dst := some 24, op := Op.move (Operand.tmp 4), type := 4, pos := "may.go:146", after := #[{ on := 10, ground := Ground.guard }], guard := some (10, true) }
def mo_o14 : Oper := { dst := some 25, op := Op.call { callee := Callee.value (Operand.func 101), args := #[Operand.tmp 24, Operand.const (Value.int IntKind.i64 255)], argTypes := #[4, 3] }, type := 3, pos := "may.go:146", after := #[{ on := 13, ground := Ground.data }, { on := 10, ground := Ground.chain }, { on := 10, ground := Ground.guard }], guard := some (10, true) }
def mo_o15 : Oper := { dst := some 26, op := Op.call { callee := Callee.value (Operand.func 75), args := #[Operand.tmp 23, Operand.const (Value.int IntKind.i64 0), Operand.tmp 25], argTypes := #[3, 3, 3] }, type := 4, pos := "may.go:146", after := #[{ on := 12, ground := Ground.data }, { on := 14, ground := Ground.data }, { on := 14, ground := Ground.chain }, { on := 10, ground := Ground.guard }], guard := some (10, true) }
def mo_o16 : Oper := { dst := some 27, op := Op.pick (Operand.tmp 21) (Operand.tmp 26) (Operand.const (Value.bool false)), type := 4, pos := "may.go:146", after := #[{ on := 10, ground := Ground.data }, { on := 15, ground := Ground.data }], guard := none }
def mo_o17 : Oper := { dst := some 2, op := Op.assign (Operand.tmp 27), type := 4, pos := "may.go:146", after := #[{ on := 16, ground := Ground.data }, { on := 15, ground := Ground.chain }, { on := 0, ground := Ground.phase }, { on := 1, ground := Ground.phase }, { on := 2, ground := Ground.phase }, { on := 3, ground := Ground.phase }, { on := 4, ground := Ground.phase }, { on := 5, ground := Ground.phase }, { on := 6, ground := Ground.phase }, { on := 7, ground := Ground.phase }, { on := 8, ground := Ground.phase }, { on := 9, ground := Ground.phase }, { on := 10, ground := Ground.phase }, { on := 11, ground := Ground.phase }, { on := 12, ground := Ground.phase }, { on := 13, ground := Ground.phase }, { on := 14, ground := Ground.phase }, { on := 15, ground := Ground.phase }, { on := 16, ground := Ground.phase }], guard := none }
def mo_ops : Array Oper := #[mo_o0, mo_o1, mo_o2, mo_o3, mo_o4, mo_o5, mo_o6, mo_o7, mo_o8, mo_o9, mo_o10, mo_o11, mo_o12, mo_o13, mo_o14, mo_o15, mo_o16, mo_o17]
def mo_V (ob : Nat) (k na nb : Int) (fa fb : Bool) (x2 : Bool) (x7 : Int) (x8 : Bool) (x9 : Bool) (x14 : Int) (x15 : Bool) (x16 : Bool) : List (Bool × Value) := [(true, .pointer (some ⟨ob, 0, none⟩)), (true, .int .i64 k), (true, .bool x2), (true, .bool x2), ((true && (x2 == true)), .pointer (some ⟨ob, 1, none⟩)), ((true && (x2 == true)), .int .i64 na), ((true && (x2 == true)), .bool fa), ((true && (x2 == true)), .int .i64 x7), ((true && (x2 == true)), .bool x8), (true, .bool x9), (true, .bool x9), ((true && (x9 == true)), .pointer (some ⟨ob, 2, none⟩)), ((true && (x9 == true)), .int .i64 nb), ((true && (x9 == true)), .bool fb), ((true && (x9 == true)), .int .i64 x14), ((true && (x9 == true)), .bool x15), (true, .bool x16), (true, .bool x16)]
section
set_option maxRecDepth 100000
set_option maxHeartbeats 1000000
variable {ob : Nat} {k na nb : Int} {fa fb : Bool} {x2 : Bool} {x7 : Int} {x8 : Bool} {x9 : Bool} {x14 : Int} {x15 : Bool} {x16 : Bool} {Q : Exit → Act → World → Prop} {a0 : Act} {W0 : World}
theorem mo_s0 (A1 : a0.tmps[1]? = some (.pointer (some ⟨ob, 0, none⟩))) : StepOk Tryz.prog mo_ops Q a0 (qI W0) (qV (mo_V ob k na nb fa fb x2 x7 x8 x9 x14 x15 x16)) 0 := by
  refine stepP mo_o0 (by kernel_rfl) rfl rfl ?_
  intro a w ho hI hp hB K hK
  have t1 := (ho 1 (by kernel_rfl)).trans A1
  have e1 := eval_slot t1
  clear ho hp
  unfold mo_o0
  go_simp
  exact hK _ _ hI rfl
theorem mo_s1 (X : W0.heap[ob]? = some (.cells #[.int .i64 k, .int .i64 na, .int .i64 nb] 69 (0, 0))) : StepOk Tryz.prog mo_ops Q a0 (qI W0) (qV (mo_V ob k na nb fa fb x2 x7 x8 x9 x14 x15 x16)) 1 := by
  refine stepP mo_o1 (by kernel_rfl) rfl rfl ?_
  intro a w ho hI hp hB K hK
  have t11 : a.tmps[11]? = some (.pointer (some ⟨ob, 0, none⟩)) := qt (hp 0 11 (by kernel_rfl)) _ rfl rfl
  have e11 := eval_slot t11
  clear ho hp
  have c0 := qcell hI X 0 (.int .i64 k) rfl
  unfold mo_o1
  go_simp
  exact hK _ _ hI rfl
theorem mo_s2 (hx : x2 = (inB k 1 6)) : StepOk Tryz.prog mo_ops Q a0 (qI W0) (qV (mo_V ob k na nb fa fb x2 x7 x8 x9 x14 x15 x16)) 2 := by
  refine stepP mo_o2 (by kernel_rfl) rfl rfl ?_
  intro a w ho hI hp hB K hK
  have t12 : a.tmps[12]? = some (.int .i64 k) := qt (hp 1 12 (by kernel_rfl)) _ rfl rfl
  have e12 := eval_slot t12
  clear ho hp
  unfold mo_o2
  go_simp
  refine (mayKind_any _ _).mono ?_
  rintro e w' ⟨rfl, rfl⟩
  exact hK _ _ hI (congrArg (Value.bool) hx.symm)
theorem mo_s3 : StepOk Tryz.prog mo_ops Q a0 (qI W0) (qV (mo_V ob k na nb fa fb x2 x7 x8 x9 x14 x15 x16)) 3 := by
  refine stepP mo_o3 (by kernel_rfl) rfl rfl ?_
  intro a w ho hI hp hB K hK
  have t13 : a.tmps[13]? = some (.bool x2) := qt (hp 2 13 (by kernel_rfl)) _ rfl rfl
  have e13 := eval_slot t13
  clear ho hp
  unfold mo_o3
  go_simp
  exact hK _ _ hI rfl
theorem mo_s4 (A1 : a0.tmps[1]? = some (.pointer (some ⟨ob, 0, none⟩))) : StepOk Tryz.prog mo_ops Q a0 (qI W0) (qV (mo_V ob k na nb fa fb x2 x7 x8 x9 x14 x15 x16)) 4 := by
  refine stepG mo_o4 3 14 (by kernel_rfl) rfl (by kernel_rfl) (by kernel_rfl) rfl rfl ?_
  intro a w ho hI hp hB K hK
  have t1 := (ho 1 (by kernel_rfl)).trans A1
  have e1 := eval_slot t1
  clear ho hp
  unfold mo_o4
  go_simp
  exact hK _ _ hI rfl
theorem mo_s5 (X : W0.heap[ob]? = some (.cells #[.int .i64 k, .int .i64 na, .int .i64 nb] 69 (0, 0))) : StepOk Tryz.prog mo_ops Q a0 (qI W0) (qV (mo_V ob k na nb fa fb x2 x7 x8 x9 x14 x15 x16)) 5 := by
  refine stepG mo_o5 3 14 (by kernel_rfl) rfl (by kernel_rfl) (by kernel_rfl) rfl rfl ?_
  intro a w ho hI hp hB K hK
  have t15 : a.tmps[15]? = some (.pointer (some ⟨ob, 1, none⟩)) := qt (hp 4 15 (by kernel_rfl)) _ rfl hB
  have e15 := eval_slot t15
  clear ho hp
  have c0 := qcell hI X 1 (.int .i64 na) rfl
  unfold mo_o5
  go_simp
  exact hK _ _ hI rfl
theorem mo_s6 (A3 : a0.tmps[3]? = some (.bool fa)) : StepOk Tryz.prog mo_ops Q a0 (qI W0) (qV (mo_V ob k na nb fa fb x2 x7 x8 x9 x14 x15 x16)) 6 := by
  refine stepG mo_o6 3 14 (by kernel_rfl) rfl (by kernel_rfl) (by kernel_rfl) rfl rfl ?_
  intro a w ho hI hp hB K hK
  have t3 := (ho 3 (by kernel_rfl)).trans A3
  have e3 := eval_slot t3
  clear ho hp
  unfold mo_o6
  go_simp
  exact hK _ _ hI rfl
theorem mo_s7 (hx : x7 = (if fa = true then 255 else 0)) : StepOk Tryz.prog mo_ops Q a0 (qI W0) (qV (mo_V ob k na nb fa fb x2 x7 x8 x9 x14 x15 x16)) 7 := by
  refine stepG mo_o7 3 14 (by kernel_rfl) rfl (by kernel_rfl) (by kernel_rfl) rfl rfl ?_
  intro a w ho hI hp hB K hK
  have t17 : a.tmps[17]? = some (.bool fa) := qt (hp 6 17 (by kernel_rfl)) _ rfl hB
  have e17 := eval_slot t17
  clear ho hp
  unfold mo_o7
  go_simp
  refine (limit_any _ _ _).mono ?_
  rintro e w' ⟨rfl, rfl⟩
  exact hK _ _ hI (congrArg (Value.int .i64) hx.symm)
theorem mo_s8 (hx : x8 = (inB na 0 x7)) : StepOk Tryz.prog mo_ops Q a0 (qI W0) (qV (mo_V ob k na nb fa fb x2 x7 x8 x9 x14 x15 x16)) 8 := by
  refine stepG mo_o8 3 14 (by kernel_rfl) rfl (by kernel_rfl) (by kernel_rfl) rfl rfl ?_
  intro a w ho hI hp hB K hK
  have t16 : a.tmps[16]? = some (.int .i64 na) := qt (hp 5 16 (by kernel_rfl)) _ rfl hB
  have e16 := eval_slot t16
  have t18 : a.tmps[18]? = some (.int .i64 x7) := qt (hp 7 18 (by kernel_rfl)) _ rfl hB
  have e18 := eval_slot t18
  clear ho hp
  unfold mo_o8
  go_simp
  refine (within_any _ _ _ _).mono ?_
  rintro e w' ⟨rfl, rfl⟩
  exact hK _ _ hI (congrArg (Value.bool) hx.symm)
theorem mo_s9 (hx : x9 = (x2 && x8)) : StepOk Tryz.prog mo_ops Q a0 (qI W0) (qV (mo_V ob k na nb fa fb x2 x7 x8 x9 x14 x15 x16)) 9 := by
  refine stepP mo_o9 (by kernel_rfl) rfl rfl ?_
  intro a w ho hI hp hB K hK
  have t14 : a.tmps[14]? = some (.bool x2) := qt (hp 3 14 (by kernel_rfl)) _ rfl rfl
  have e14 := eval_slot t14
  clear ho
  cases hq : x2 with
  | false =>
    have hz := hx.trans (by rw [hq]; rfl : _ = false)
    clear hp
    rw [hq] at e14
    unfold mo_o9
    go_simp
    exact hK _ _ hI (congrArg Value.bool hz.symm)
  | true =>
    have hz := hx.trans (by rw [hq]; rfl : _ = x8)
    have t19 : a.tmps[19]? = some (.bool x8) := qt (hp 8 19 (by kernel_rfl)) _ rfl (by rw [hq]; rfl)
    have e19 := eval_slot t19
    clear hp
    rw [hq] at e14
    unfold mo_o9
    go_simp
    exact hK _ _ hI (congrArg Value.bool hz.symm)
theorem mo_s10 : StepOk Tryz.prog mo_ops Q a0 (qI W0) (qV (mo_V ob k na nb fa fb x2 x7 x8 x9 x14 x15 x16)) 10 := by
  refine stepP mo_o10 (by kernel_rfl) rfl rfl ?_
  intro a w ho hI hp hB K hK
  have t20 : a.tmps[20]? = some (.bool x9) := qt (hp 9 20 (by kernel_rfl)) _ rfl rfl
  have e20 := eval_slot t20
  clear ho hp
  unfold mo_o10
  go_simp
  exact hK _ _ hI rfl
theorem mo_s11 (A1 : a0.tmps[1]? = some (.pointer (some ⟨ob, 0, none⟩))) : StepOk Tryz.prog mo_ops Q a0 (qI W0) (qV (mo_V ob k na nb fa fb x2 x7 x8 x9 x14 x15 x16)) 11 := by
  refine stepG mo_o11 10 21 (by kernel_rfl) rfl (by kernel_rfl) (by kernel_rfl) rfl rfl ?_
  intro a w ho hI hp hB K hK
  have t1 := (ho 1 (by kernel_rfl)).trans A1
  have e1 := eval_slot t1
  clear ho hp
  unfold mo_o11
  go_simp
  exact hK _ _ hI rfl
theorem mo_s12 (X : W0.heap[ob]? = some (.cells #[.int .i64 k, .int .i64 na, .int .i64 nb] 69 (0, 0))) : StepOk Tryz.prog mo_ops Q a0 (qI W0) (qV (mo_V ob k na nb fa fb x2 x7 x8 x9 x14 x15 x16)) 12 := by
  refine stepG mo_o12 10 21 (by kernel_rfl) rfl (by kernel_rfl) (by kernel_rfl) rfl rfl ?_
  intro a w ho hI hp hB K hK
  have t22 : a.tmps[22]? = some (.pointer (some ⟨ob, 2, none⟩)) := qt (hp 11 22 (by kernel_rfl)) _ rfl hB
  have e22 := eval_slot t22
  clear ho hp
  have c0 := qcell hI X 2 (.int .i64 nb) rfl
  unfold mo_o12
  go_simp
  exact hK _ _ hI rfl
theorem mo_s13 (A4 : a0.tmps[4]? = some (.bool fb)) : StepOk Tryz.prog mo_ops Q a0 (qI W0) (qV (mo_V ob k na nb fa fb x2 x7 x8 x9 x14 x15 x16)) 13 := by
  refine stepG mo_o13 10 21 (by kernel_rfl) rfl (by kernel_rfl) (by kernel_rfl) rfl rfl ?_
  intro a w ho hI hp hB K hK
  have t4 := (ho 4 (by kernel_rfl)).trans A4
  have e4 := eval_slot t4
  clear ho hp
  unfold mo_o13
  go_simp
  exact hK _ _ hI rfl
theorem mo_s14 (hx : x14 = (if fb = true then 255 else 0)) : StepOk Tryz.prog mo_ops Q a0 (qI W0) (qV (mo_V ob k na nb fa fb x2 x7 x8 x9 x14 x15 x16)) 14 := by
  refine stepG mo_o14 10 21 (by kernel_rfl) rfl (by kernel_rfl) (by kernel_rfl) rfl rfl ?_
  intro a w ho hI hp hB K hK
  have t24 : a.tmps[24]? = some (.bool fb) := qt (hp 13 24 (by kernel_rfl)) _ rfl hB
  have e24 := eval_slot t24
  clear ho hp
  unfold mo_o14
  go_simp
  refine (limit_any _ _ _).mono ?_
  rintro e w' ⟨rfl, rfl⟩
  exact hK _ _ hI (congrArg (Value.int .i64) hx.symm)
theorem mo_s15 (hx : x15 = (inB nb 0 x14)) : StepOk Tryz.prog mo_ops Q a0 (qI W0) (qV (mo_V ob k na nb fa fb x2 x7 x8 x9 x14 x15 x16)) 15 := by
  refine stepG mo_o15 10 21 (by kernel_rfl) rfl (by kernel_rfl) (by kernel_rfl) rfl rfl ?_
  intro a w ho hI hp hB K hK
  have t23 : a.tmps[23]? = some (.int .i64 nb) := qt (hp 12 23 (by kernel_rfl)) _ rfl hB
  have e23 := eval_slot t23
  have t25 : a.tmps[25]? = some (.int .i64 x14) := qt (hp 14 25 (by kernel_rfl)) _ rfl hB
  have e25 := eval_slot t25
  clear ho hp
  unfold mo_o15
  go_simp
  refine (within_any _ _ _ _).mono ?_
  rintro e w' ⟨rfl, rfl⟩
  exact hK _ _ hI (congrArg (Value.bool) hx.symm)
theorem mo_s16 (hx : x16 = (x9 && x15)) : StepOk Tryz.prog mo_ops Q a0 (qI W0) (qV (mo_V ob k na nb fa fb x2 x7 x8 x9 x14 x15 x16)) 16 := by
  refine stepP mo_o16 (by kernel_rfl) rfl rfl ?_
  intro a w ho hI hp hB K hK
  have t21 : a.tmps[21]? = some (.bool x9) := qt (hp 10 21 (by kernel_rfl)) _ rfl rfl
  have e21 := eval_slot t21
  clear ho
  cases hq : x9 with
  | false =>
    have hz := hx.trans (by rw [hq]; rfl : _ = false)
    clear hp
    rw [hq] at e21
    unfold mo_o16
    go_simp
    exact hK _ _ hI (congrArg Value.bool hz.symm)
  | true =>
    have hz := hx.trans (by rw [hq]; rfl : _ = x15)
    have t26 : a.tmps[26]? = some (.bool x15) := qt (hp 15 26 (by kernel_rfl)) _ rfl (by rw [hq]; rfl)
    have e26 := eval_slot t26
    clear hp
    rw [hq] at e21
    unfold mo_o16
    go_simp
    exact hK _ _ hI (congrArg Value.bool hz.symm)
theorem mo_s17 : StepOk Tryz.prog mo_ops Q a0 (qI W0) (qV (mo_V ob k na nb fa fb x2 x7 x8 x9 x14 x15 x16)) 17 := by
  refine stepP mo_o17 (by kernel_rfl) rfl rfl ?_
  intro a w ho hI hp hB K hK
  have t27 : a.tmps[27]? = some (.bool x16) := qt (hp 16 27 (by kernel_rfl)) _ rfl rfl
  have e27 := eval_slot t27
  clear ho hp
  unfold mo_o17
  go_simp
  exact hK _ _ hI rfl

end
theorem opMay (k a b : Int) : (inB k 1 6 && (inB a 0 (if opA k = true then 255 else 0) && inB b 0 (if opB' k = true then 255 else 0))) = decide (OpN.may ⟨k, a, b⟩) := by
  rw [Bool.eq_iff_iff]
  simp only [OpN.may, inZ, inB, opA, opB', hasAN, hasBN, Bool.and_eq_true, decide_eq_true_eq, bne_iff_ne, beq_iff_eq]
  by_cases h5 : k = 5 <;> by_cases h3 : k = 3 <;> by_cases h6 : 1 ≤ k ∧ k ≤ 6 <;> simp [h5, h3, h6] <;> omega

set_option maxRecDepth 100000 in
set_option maxHeartbeats 4000000 in
theorem mayOp_any (w : World) (m : OpN) : Calls Tryz.prog 109 #[.agg #[.int .i64 m.kind, .int .i64 m.a, .int .i64 m.b]] w fun e w' => e = .returned (.bool (decide m.may)) ∧ Below w.heap.size w w' := by
  obtain ⟨k, na, nb⟩ := m
  rw [← opMay]
  simp only
  obtain ⟨fa, ha⟩ : ∃ b, opA k = b := ⟨_, rfl⟩
  obtain ⟨fb, hb⟩ : ∃ b, opB' k = b := ⟨_, rfl⟩
  have O := fun w => operands_all w k
  rw [ha, hb] at O
  rw [ha, hb]
  clear ha hb
  have OO := Lib.hid O
  clear O
  obtain ⟨x2, h2⟩ : ∃ z : Bool, z = ((inB k 1 6)) := ⟨_, rfl⟩
  obtain ⟨x7, h7⟩ : ∃ z : Int, z = ((if fa = true then 255 else 0)) := ⟨_, rfl⟩
  obtain ⟨x8, h8⟩ : ∃ z : Bool, z = ((inB na 0 x7)) := ⟨_, rfl⟩
  obtain ⟨x9, h9⟩ : ∃ z : Bool, z = ((x2 && x8)) := ⟨_, rfl⟩
  obtain ⟨x14, h14⟩ : ∃ z : Int, z = ((if fb = true then 255 else 0)) := ⟨_, rfl⟩
  obtain ⟨x15, h15⟩ : ∃ z : Bool, z = ((inB nb 0 x14)) := ⟨_, rfl⟩
  obtain ⟨x16, h16⟩ : ∃ z : Bool, z = ((x9 && x15)) := ⟨_, rfl⟩
  have hres : x16 = (inB k 1 6 && (inB na 0 (if fa = true then 255 else 0) && inB nb 0 (if fb = true then 255 else 0))) := by subst_vars; simp only [Bool.and_assoc]
  rw [← hres]
  clear hres
  have K2 := Lib.hid h2
  clear h2
  have K7 := Lib.hid h7
  clear h7
  have K8 := Lib.hid h8
  clear h8
  have K9 := Lib.hid h9
  clear h9
  have K14 := Lib.hid h14
  clear h14
  have K15 := Lib.hid h15
  clear h15
  have K16 := Lib.hid h16
  clear h16
  have HB := Lib.hid ((Below.refl w.heap.size w).alloc (Nat.le_refl _) (.cells #[.int .i64 k, .int .i64 na, .int .i64 nb] 69))
  have X := Lib.hid (heap_alloc_last w (.cells #[.int .i64 k, .int .i64 na, .int .i64 nb] 69))
  go_enter Tryz.func109, Tryz.ntmps109
  go_wp2_with fail
  refine (OO.out _).mono ?_
  rintro e w' ⟨rfl, rfl⟩
  go_wp2_with fail
  refine wp_region_midst (ops := mo_ops) (qI (w.alloc (.cells #[.int .i64 k, .int .i64 na, .int .i64 nb] 69))) (qV (mo_V w.heap.size k na nb fa fb x2 x7 x8 x9 x14 x15 x16)) (by kernel_rfl) (by kernel_rfl) ((Below.refl _ _).drew) (fun i hi => ?_) (fun a wz h => ?_)
  · match i, hi with | 0, _ => exact mo_s0 rfl | 1, _ => exact mo_s1 X.out | 2, _ => exact mo_s2 K2.out | 3, _ => exact mo_s3 | 4, _ => exact mo_s4 rfl | 5, _ => exact mo_s5 X.out | 6, _ => exact mo_s6 rfl | 7, _ => exact mo_s7 K7.out | 8, _ => exact mo_s8 K8.out | 9, _ => exact mo_s9 K9.out | 10, _ => exact mo_s10 | 11, _ => exact mo_s11 rfl | 12, _ => exact mo_s12 X.out | 13, _ => exact mo_s13 rfl | 14, _ => exact mo_s14 K14.out | 15, _ => exact mo_s15 K15.out | 16, _ => exact mo_s16 K16.out | 17, _ => exact mo_s17 | k + 18, h => exact absurd h (by simp [mo_ops])
  · obtain ⟨v, t2, e2⟩ := h.get 17 2 (by kernel_rfl)
    have e3 := e2 (true, .bool x16) rfl
    rw [if_pos rfl] at e3
    subst e3
    have hd := h.defers
    have MF := h.inv
    clear h e2
    go_wp2_with fail
    refine bodyPost_ret (v := .bool x16) (by simp [results, Tryz.results109, go_sem, t2]) hd ⟨rfl, ?_⟩
    exact HB.out.trans (Below.mono MF (by simp))
end Go.Proofs.YthcbgijmnonckaaGreat
/- Layer 4: what the program's may answers is what there may be. -/
namespace Go.Proofs.YthcbgijmnonckaaGreat
open Go.RowKit Zo Zp
set_option linter.unusedVariables false

theorem refer_is (act : Int) (mods : List ModN) (is : Bool) : referB act mods is = decide (mayList act mods is) := by
  rw [Bool.eq_iff_iff, decide_eq_true_iff]
  cases is
  · simp [referB, mayList]
  · simp only [referB, mayList, inB, inZ, if_true, Bool.and_eq_true, decide_eq_true_eq, List.all_eq_true]
    constructor
    · rintro ⟨a, b, c⟩; exact ⟨a, by omega, c⟩
    · rintro ⟨a, b, c⟩; exact ⟨a, by omega, c⟩

theorem end_is (h : HeadN) (p : PpsN) : endB p.deblock h.off h.qp h.a h.b = decide (mayEdges h p) := by
  rw [Bool.eq_iff_iff, decide_eq_true_iff]
  unfold endB mayEdges inB inZ
  cases p.deblock <;> cases h.off <;> simp <;> omega

theorem marks_is (h : HeadN) (ref : Int) (key : Bool) : (((!h.longkey) || (key && decide (0 < ref))) && (decide ((h.ops.length : Int) ≤ if (!key && decide (0 < ref)) = true then 16 else 0) && h.ops.all fun x => decide x.may)) = decide (mayMarks h ref key) := by
  rw [Bool.eq_iff_iff, decide_eq_true_iff]
  unfold mayMarks
  generalize h.ops = l
  by_cases h0 : 0 < ref <;> cases key <;> cases h.longkey <;> cases l <;> simp [h0] <;> intros <;> omega

theorem weights_is (h : HeadN) (is : Bool) : (inB h.log 0 (if is = true then 7 else 0) && (inB h.logc 0 (if is = true then 7 else 0) && (((h.w0.length : Int) == if is = true then h.act0 else 0) && ((h.w0.all fun x => decide x.may) && (((h.w1.length : Int) == if is = true then h.act1 else 0) && h.w1.all fun x => decide x.may))))) = decide (mayWeights h is) := by
  rw [Bool.eq_iff_iff, decide_eq_true_iff]
  unfold mayWeights inB inZ
  cases is
  · simp only [if_false, Bool.false_eq_true, Bool.and_eq_true, decide_eq_true_eq, beq_iff_eq, List.all_eq_true]
    constructor
    · rintro ⟨a, b, c, _, d, _⟩
      exact ⟨by omega, by omega, List.eq_nil_of_length_eq_zero (by omega), List.eq_nil_of_length_eq_zero (by omega)⟩
    · rintro ⟨a, b, c, d⟩
      exact ⟨by omega, by omega, by simp [c], by simp [c], by simp [d], by simp [d]⟩
  · simp only [if_true, Bool.and_eq_true, decide_eq_true_eq, beq_iff_eq, List.all_eq_true]
    constructor
    · rintro ⟨a, b, c, d, e, g⟩
      exact ⟨a, b, c, e, d, g⟩
    · rintro ⟨a, b, c, e, d, g⟩
      exact ⟨a, b, c, d, e, g⟩

theorem one_le_pow (n : Nat) : (1 : Int) ≤ 2 ^ n := by
  have h1 : 1 ≤ 2 ^ n := Nat.one_le_two_pow
  have e : ((2 ^ n : Nat) : Int) = 2 ^ n := by rw [Int.natCast_pow]; rfl
  omega

theorem firsts_is (h : HeadN) (s : SpsN) (key : Bool) : (inB h.first 0 (s.wide * s.high) && (inB h.count 1 (s.wide * s.high - h.first) && (inB h.type 0 2 && ((h.type == 2 || !key) && (inB h.fnum 0 (if (!key) = true then 2 ^ s.fbits.toNat - 1 else 0) && (inB h.id 0 (if key = true then 255 else 0) && (inB h.poc 0 (if (s.ptype == 0) = true then 2 ^ s.pbits.toNat - 1 else 0) && (h.type == 1 || !h.spatial)))))))) = decide (mayFirsts h s key) := by
  rw [Bool.eq_iff_iff, decide_eq_true_iff]
  unfold mayFirsts inB inZ
  have e1 := one_le_pow s.fbits.toNat
  have e2 := one_le_pow s.pbits.toNat
  generalize (2 : Int) ^ s.fbits.toNat = F at *
  generalize (2 : Int) ^ s.pbits.toNat = G at *
  generalize s.wide * s.high = R
  by_cases h3 : s.ptype = 0 <;> cases key <;> cases h.spatial <;> simp [h3] <;> omega
end Go.Proofs.YthcbgijmnonckaaGreat
