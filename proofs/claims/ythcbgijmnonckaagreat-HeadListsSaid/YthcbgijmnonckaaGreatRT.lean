/- Layer 3: the program's MayPps. -/
import Derived.Test.YthcbgijmnonckaaGreatRS
namespace Go.Proofs.YthcbgijmnonckaaGreat
open Go.RowKit Zo Zp
set_option linter.unusedVariables false

def pp_o0 : Oper := { dst := some 5, op := Op.move (Operand.tmp 3), type := 138, pos := "pps.go:13", after := #[], guard := none }
def pp_o1 : Oper := { dst := some 6, op := Op.call { callee := Callee.value (Operand.func 99), args := #[Operand.tmp 5, Operand.const (Value.int IntKind.i64 6)], argTypes := #[138, 156] }, type := 151, pos := "pps.go:13", after := #[{ on := 0, ground := Ground.data }], guard := none }
def pp_o2 : Oper := { dst := some 7, op := Op.fieldAddr 31 (Operand.tmp 1) 2, type := 0, pos := "pps.go:13", after := #[], guard := none }
def pp_o3 : Oper := { dst := some 8, op := Op.load 3 (Operand.tmp 7), type := 3, pos := "pps.go:13", after := #[{ on := 2, ground := Ground.data }], guard := none }
def pp_o4 : Oper := { dst := some 9, op := Op.buildSlice 27 1 #[(0, Operand.tmp 8)], type := 27, pos := "pps.go:13", after := #[{ on := 3, ground := Ground.data }], guard := none }
def pp_o5 : Oper := { dst := some 10, op := Op.call { callee := Callee.value (Operand.func 100), args := #[Operand.tmp 6, Operand.tmp 9], argTypes := #[151, 27] }, type := 4, pos := "pps.go:13", after := #[{ on := 1, ground := Ground.data }, { on := 4, ground := Ground.data }, { on := 1, ground := Ground.chain }], guard := none }
def pp_o6 : Oper := { dst := some 11, op := Op.move (Operand.tmp 10), type := 4, pos := "pps.go:13", after := #[{ on := 5, ground := Ground.data }, { on := 5, ground := Ground.chain }], guard := none }
def pp_o7 : Oper := { dst := some 12, op := Op.move (Operand.tmp 3), type := 138, pos := "pps.go:13", after := #[{ on := 6, ground := Ground.guard }], guard := some (6, true) }
def pp_o8 : Oper := { dst := some 13, op := Op.call { callee := Callee.value (Operand.func 99), args := #[Operand.tmp 12, Operand.const (Value.int IntKind.i64 7)], argTypes := #[138, 156] }, type := 151, pos := "pps.go:14", after := #[{ on := 7, ground := Ground.data }, { on := 6, ground := Ground.chain }, { on := 6, ground := Ground.guard }], guard := some (6, true) }
def pp_o9 : Oper := { dst := some 14, op := Op.fieldAddr 31 (Operand.tmp 1) 3, type := 0, pos := "pps.go:13", after := #[{ on := 6, ground := Ground.guard }], guard := some (6, true) }
def pp_o10 : Oper := { dst := some 15, op := Op.load 3 (Operand.tmp 14), type := 3, pos := "pps.go:13", after := #[{ on := 9, ground := Ground.data }, { on := 6, ground := Ground.guard }], guard := some (6, true) }
def pp_o11 : Oper := { dst := some 16, op := Op.buildSlice 27 1 #[(0, Operand.tmp 15)], type := 27, pos := "pps.go:13", after := #[{ on := 10, ground := Ground.data }, { on := 6, ground := Ground.guard }], guard := some (6, true) }
def pp_o12 : Oper := { dst := some 17, op := Op.call { callee := Callee.value (Operand.func 100), args := #[Operand.tmp 13, Operand.tmp 16], argTypes := #[151, 27] }, type := 4, pos := "pps.go:14", after := #[{ on := 8, ground := Ground.data }, { on := 11, ground := Ground.data }, { on := 8, ground := Ground.chain }, { on := 6, ground := Ground.guard }], guard := some (6, true) }
def pp_o13 : Oper := { dst := some 18, op := Op.pick (Operand.tmp 11) (Operand.tmp 17) (Operand.const (Value.bool false)), type := 4, pos := "pps.go:13", after := #[{ on := 6, ground := Ground.data }, { on := 12, ground := Ground.data }], guard := none }
def pp_o14 : Oper := { dst := some 19, op := Op.move (Operand.tmp 18), type := 4, pos := "pps.go:13", after := #[{ on := 13, ground := Ground.data }, { on := 12, ground := Ground.chain }], guard := none }
def pp_o15 : Oper := { dst := some 20, op := Op.move (Operand.tmp 3), type := 138, pos := "pps.go:13", after := #[{ on := 14, ground := Ground.guard }], guard := some (14, true) }
def pp_o16 : Oper := { dst := some 21, op := Op.call { callee := Callee.value (Operand.func 99), args := #[Operand.tmp 20, Operand.const (Value.int IntKind.i64 8)], argTypes := #[138, 156] }, type := 151, pos := "pps.go:15", after := #[{ on := 15, ground := Ground.data }, { on := 14, ground := Ground.chain }, { on := 14, ground := Ground.guard }], guard := some (14, true) }
def pp_o17 : Oper := { dst := some 22, op := Op.fieldAddr 31 (Operand.tmp 1) 4, type := 0, pos := "pps.go:13", after := #[{ on := 14, ground := Ground.guard }], guard := some (14, true) }
def pp_o18 : Oper := { dst := some 23, op := Op.load 3 (Operand.tmp 22), type := 3, pos := "pps.go:13", after := #[{ on := 17, ground := Ground.data }, { on := 14, ground := Ground.guard }], guard := some (14, true) }
def pp_o19 : Oper := { dst := some 24, op := Op.buildSlice 27 1 #[(0, Operand.tmp 23)], type := 27, pos := "pps.go:13", after := #[{ on := 18, ground := Ground.data }, { on := 14, ground := Ground.guard }], guard := some (14, true) }
def pp_o20 : Oper := { dst := some 25, op := Op.call { callee := Callee.value (Operand.func 100), args := #[Operand.tmp 21, Operand.tmp 24], argTypes := #[151, 27] }, type := 4, pos := "pps.go:15", after := #[{ on := 16, ground := Ground.data }, { on := 19, ground := Ground.data }, { on := 16, ground := Ground.chain }, { on := 14, ground := Ground.guard }], guard := some (14, true) }
def pp_o21 : Oper := { dst := some 26, op := Op.pick (Operand.tmp 19) (Operand.tmp 25) (Operand.const (Value.bool false)), type := 4, pos := "pps.go:13", after := #[{ on := 14, ground := Ground.data }, { on := 20, ground := Ground.data }], guard := none }
def pp_o22 : Oper := { dst := some 27, op := Op.move (Operand.tmp 26), type := 4, pos := "pps.go:13", after := #[{ on := 21, ground := Ground.data }, { on := 20, ground := Ground.chain }], guard := none }
def pp_o23 : Oper := { dst := some 28, op := Op.move (Operand.tmp 3), type := 138, pos := "pps.go:13", after := #[{ on := 22, ground := Ground.guard }], guard := some (22, true) }
def pp_o24 : Oper := { dst := some 29, op := Op.call { callee := Callee.value (Operand.func 99), args := #[Operand.tmp 28, Operand.const (Value.int IntKind.i64 5)], argTypes := #[138, 156] }, type := 151, pos := "pps.go:16", after := #[{ on := 23, ground := Ground.data }, { on := 22, ground := Ground.chain }, { on := 22, ground := Ground.guard }], guard := some (22, true) }
def pp_o25 : Oper := { dst := some 30, op := Op.fieldAddr 31 (Operand.tmp 1) 7, type := 0, pos := "pps.go:13", after := #[{ on := 22, ground := Ground.guard }], guard := some (22, true) }
def pp_o26 : Oper := { dst := some 31, op := Op.load 3 (Operand.tmp 30), type := 3, pos := "pps.go:13", after := #[{ on := 25, ground := Ground.data }, { on := 22, ground := Ground.guard }], guard := some (22, true) }
def pp_o27 : Oper := { dst := some 32, op := Op.fieldAddr 31 (Operand.tmp 1) 8, type := 0, pos := "pps.go:13", after := #[{ on := 22, ground := Ground.guard }], guard := some (22, true) }
def pp_o28 : Oper := { dst := some 33, op := Op.load 3 (Operand.tmp 32), type := 3, pos := "pps.go:13", after := #[{ on := 27, ground := Ground.data }, { on := 22, ground := Ground.guard }], guard := some (22, true) }
def pp_o29 : Oper := { dst := some 34, op := Op.buildSlice 27 2 #[(0, Operand.tmp 31), (1, Operand.tmp 33)], type := 27, pos := "pps.go:13", after := #[{ on := 26, ground := Ground.data }, { on := 28, ground := Ground.data }, { on := 22, ground := Ground.guard }], guard := some (22, true) }
def pp_o30 : Oper := { dst := some 35, op := Op.call { callee := Callee.value (Operand.func 100), args := #[Operand.tmp 29, Operand.tmp 34], argTypes := #[151, 27] }, type := 4, pos := "pps.go:16", after := #[{ on := 24, ground := Ground.data }, { on := 29, ground := Ground.data }, { on := 24, ground := Ground.chain }, { on := 22, ground := Ground.guard }], guard := some (22, true) }
def pp_o31 : Oper := { dst := some 36, op := Op.pick (Operand.tmp 27) (Operand.tmp 35) (Operand.const (Value.bool false)), type := 4, pos := "pps.go:13", after := #[{ on := 22, ground := Ground.data }, { on := 30, ground := Ground.data }], guard := none }
def pp_o32 : Oper := { dst := some 2, op := Op.assign (Operand.tmp 36), type := 4, pos := "pps.go:13", after := #[{ on := 31, ground := Ground.data }, { on := 30, ground := Ground.chain }, { on := 0, ground := Ground.phase }, { on := 1, ground := Ground.phase }, { on := 2, ground := Ground.phase }, { on := 3, ground := Ground.phase }, { on := 4, ground := Ground.phase }, { on := 5, ground := Ground.phase }, { on := 6, ground := Ground.phase }, { on := 7, ground := Ground.phase }, { on := 8, ground := Ground.phase }, { on := 9, ground := Ground.phase }, { on := 10, ground := Ground.phase }, { on := 11, ground := Ground.phase }, { on := 12, ground := Ground.phase }, { on := 13, ground := Ground.phase }, { on := 14, ground := Ground.phase }, { on := 15, ground := Ground.phase }, { on := 16, ground := Ground.phase }, { on := 17, ground := Ground.phase }, { on := 18, ground := Ground.phase }, { on := 19, ground := Ground.phase }, { on := 20, ground := Ground.phase }, { on := 21, ground := Ground.phase }, { on := 22, ground := Ground.phase }, { on := 23, ground := Ground.phase }, { on := 24, ground := Ground.phase }, { on := 25, ground := Ground.phase }, { on := 26, ground := Ground.phase }, { on := 27, ground := Ground.phase }, { on := 28, ground := Ground.phase }, { on := 29, ground := Ground.phase }, { on := 30, ground := Ground.phase }, { on := 31, ground := Ground.phase }], guard := none }
def pp_ops : Array Oper := #[pp_o0, pp_o1, pp_o2, pp_o3, pp_o4, pp_o5, pp_o6, pp_o7, pp_o8, pp_o9, pp_o10, pp_o11, pp_o12, pp_o13, pp_o14, pp_o15, pp_o16, pp_o17, pp_o18, pp_o19, pp_o20, pp_o21, pp_o22, pp_o23, pp_o24, pp_o25, pp_o26, pp_o27, pp_o28, pp_o29, pp_o30, pp_o31, pp_o32]
def pp_V (kb bx : Nat) (bipred qp chroma act0 act1 : Int) (b0 b1 b2 b3 : Bool) : List Vs := [.is true (.pointer (some ⟨kb, 0, none⟩)), .is true (.agg #[.int .i64 0, .int .i64 2]), .is true (.pointer (some ⟨bx, 2, none⟩)), .is true (.int .i64 bipred), .row true [bipred], .is true (.bool b0), .is true (.bool b0), .is b0 (.pointer (some ⟨kb, 0, none⟩)), .is b0 (.agg #[.int .i64 0, .int .i64 51]), .is b0 (.pointer (some ⟨bx, 3, none⟩)), .is b0 (.int .i64 qp), .row b0 [qp], .is b0 (.bool b1), .is true (.bool (b0 && b1)), .is true (.bool (b0 && b1)), .is (b0 && b1) (.pointer (some ⟨kb, 0, none⟩)), .is (b0 && b1) (.agg #[.int .i64 (-12), .int .i64 12]), .is (b0 && b1) (.pointer (some ⟨bx, 4, none⟩)), .is (b0 && b1) (.int .i64 chroma), .row (b0 && b1) [chroma], .is (b0 && b1) (.bool b2), .is true (.bool ((b0 && b1) && b2)), .is true (.bool ((b0 && b1) && b2)), .is ((b0 && b1) && b2) (.pointer (some ⟨kb, 0, none⟩)), .is ((b0 && b1) && b2) (.agg #[.int .i64 1, .int .i64 8]), .is ((b0 && b1) && b2) (.pointer (some ⟨bx, 7, none⟩)), .is ((b0 && b1) && b2) (.int .i64 act0), .is ((b0 && b1) && b2) (.pointer (some ⟨bx, 8, none⟩)), .is ((b0 && b1) && b2) (.int .i64 act1), .row ((b0 && b1) && b2) [act0, act1], .is ((b0 && b1) && b2) (.bool b3), .is true (.bool (((b0 && b1) && b2) && b3)), .is true (.bool (((b0 && b1) && b2) && b3))]
section
set_option maxRecDepth 100000
variable {Q : Exit → Act → World → Prop} {a0 : Act} {W0 : World} {kb bx : Nat} {cabac weighted : Bool} {bipred qp chroma : Int} {constrained deblock : Bool} {act0 act1 : Int} {b0 b1 b2 b3 : Bool}
theorem pp_s0 (A3 : a0.tmps[3]? = some (.pointer (some ⟨kb, 0, none⟩))) : StepOk Tryz.prog pp_ops Q a0 (Ms W0 bx kb 31 #[.bool cabac, .bool weighted, .int .i64 bipred, .int .i64 qp, .int .i64 chroma, .bool constrained, .bool deblock, .int .i64 act0, .int .i64 act1]) (specV kb (pp_V kb bx bipred qp chroma act0 act1 b0 b1 b2 b3)) 0 := by
  intro a w hout hI hdep o ho K hK
  obtain rfl : o = pp_o0 := Option.some.inj (ho.symm.trans (by kernel_rfl))
  clear ho
  have t3 := (hout 3 (by kernel_rfl)).trans A3
  rw [if_pos (show Region.wanted pp_o0 _ = true from rfl)]
  have e3 := eval_slot t3
  unfold pp_o0
  go_simp
  exact hK _ _ hI (fun _ _ h => h) (fun _ => rfl)
theorem pp_s1 : StepOk Tryz.prog pp_ops Q a0 (Ms W0 bx kb 31 #[.bool cabac, .bool weighted, .int .i64 bipred, .int .i64 qp, .int .i64 chroma, .bool constrained, .bool deblock, .int .i64 act0, .int .i64 act1]) (specV kb (pp_V kb bx bipred qp chroma act0 act1 b0 b1 b2 b3)) 1 := by
  intro a w hout hI hdep o ho K hK
  obtain rfl : o = pp_o1 := Option.some.inj (ho.symm.trans (by kernel_rfl))
  clear ho
  obtain ⟨v5, t5, f5⟩ := hdep 0 5 (by kernel_rfl)
  rw [if_pos (show Region.wanted pp_o1 _ = true from rfl)]
  obtain rfl : v5 = .pointer (some ⟨kb, 0, none⟩) := f5 rfl
  have e5 := eval_slot t5
  unfold pp_o1
  go_simp
  refine (ms_of_6 w hI).mono ?_
  rintro e w1 ⟨rfl, M1, F1⟩
  exact hK _ _ M1 (fun j u h => specV_fr F1 j u h) (fun _ => rfl)
theorem pp_s2 (A1 : a0.tmps[1]? = some (.pointer (some ⟨bx, 0, none⟩))) : StepOk Tryz.prog pp_ops Q a0 (Ms W0 bx kb 31 #[.bool cabac, .bool weighted, .int .i64 bipred, .int .i64 qp, .int .i64 chroma, .bool constrained, .bool deblock, .int .i64 act0, .int .i64 act1]) (specV kb (pp_V kb bx bipred qp chroma act0 act1 b0 b1 b2 b3)) 2 := by
  intro a w hout hI hdep o ho K hK
  obtain rfl : o = pp_o2 := Option.some.inj (ho.symm.trans (by kernel_rfl))
  clear ho
  have t1 := (hout 1 (by kernel_rfl)).trans A1
  rw [if_pos (show Region.wanted pp_o2 _ = true from rfl)]
  have e1 := eval_slot t1
  unfold pp_o2
  go_simp
  exact hK _ _ hI (fun _ _ h => h) (fun _ => rfl)
theorem pp_s3 : StepOk Tryz.prog pp_ops Q a0 (Ms W0 bx kb 31 #[.bool cabac, .bool weighted, .int .i64 bipred, .int .i64 qp, .int .i64 chroma, .bool constrained, .bool deblock, .int .i64 act0, .int .i64 act1]) (specV kb (pp_V kb bx bipred qp chroma act0 act1 b0 b1 b2 b3)) 3 := by
  intro a w hout hI hdep o ho K hK
  obtain rfl : o = pp_o3 := Option.some.inj (ho.symm.trans (by kernel_rfl))
  clear ho
  obtain ⟨v7, t7, f7⟩ := hdep 2 7 (by kernel_rfl)
  rw [if_pos (show Region.wanted pp_o3 _ = true from rfl)]
  obtain rfl : v7 = .pointer (some ⟨bx, 2, none⟩) := f7 rfl
  have e7 := eval_slot t7
  have c := hI.box 2 (.int .i64 bipred) rfl
  unfold pp_o3
  go_simp
  exact hK _ _ hI (fun _ _ h => h) (fun _ => rfl)
theorem pp_s4 : StepOk Tryz.prog pp_ops Q a0 (Ms W0 bx kb 31 #[.bool cabac, .bool weighted, .int .i64 bipred, .int .i64 qp, .int .i64 chroma, .bool constrained, .bool deblock, .int .i64 act0, .int .i64 act1]) (specV kb (pp_V kb bx bipred qp chroma act0 act1 b0 b1 b2 b3)) 4 := by
  intro a w hout hI hdep o ho K hK
  obtain rfl : o = pp_o4 := Option.some.inj (ho.symm.trans (by kernel_rfl))
  clear ho
  obtain ⟨v8, t8, f8⟩ := hdep 3 8 (by kernel_rfl)
  rw [if_pos (show Region.wanted pp_o4 _ = true from rfl)]
  obtain rfl : v8 = .int .i64 bipred := f8 rfl
  have e8 := eval_slot t8
  unfold pp_o4
  go_simp
  exact hK _ _ (hI.alloc _) (fun j u h => specV_fr (Fr.alloc (Fr.refl _ _) _) j u h) (fun _ => ⟨w.heap.size, rfl, heap_alloc_last _ _, by have := hI.2.1.lt; omega⟩)
theorem pp_s5 (HH : ∀ (wr : World) (a : Option Addr) (cap : Nat), IntRow wr a [bipred] → Calls Tryz.prog 100 #[.agg #[.int .i64 0, .int .i64 2], .slice a 1 cap] wr fun e w' => e = .returned (.bool b0) ∧ Below wr.heap.size wr w') : StepOk Tryz.prog pp_ops Q a0 (Ms W0 bx kb 31 #[.bool cabac, .bool weighted, .int .i64 bipred, .int .i64 qp, .int .i64 chroma, .bool constrained, .bool deblock, .int .i64 act0, .int .i64 act1]) (specV kb (pp_V kb bx bipred qp chroma act0 act1 b0 b1 b2 b3)) 5 := by
  intro a w hout hI hdep o ho K hK
  obtain rfl : o = pp_o5 := Option.some.inj (ho.symm.trans (by kernel_rfl))
  clear ho
  obtain ⟨v6, t6, f6⟩ := hdep 1 6 (by kernel_rfl)
  obtain ⟨v9, t9, f9⟩ := hdep 4 9 (by kernel_rfl)
  rw [if_pos (show Region.wanted pp_o5 _ = true from rfl)]
  obtain rfl : v6 = .agg #[.int .i64 0, .int .i64 2] := f6 rfl
  obtain ⟨g, rfl, hg, hgk⟩ := f9 rfl
  have e6 := eval_slot t6
  have e9 := eval_slot t9
  unfold pp_o5
  go_simp
  refine (HH w _ _ (row_of_ints hg)).mono ?_
  rintro e w1 ⟨rfl, B1⟩
  exact hK _ _ (hI.below B1) (fun j u h => specV_fr (Fr.of_below B1) j u h) (fun _ => rfl)
theorem pp_s6 : StepOk Tryz.prog pp_ops Q a0 (Ms W0 bx kb 31 #[.bool cabac, .bool weighted, .int .i64 bipred, .int .i64 qp, .int .i64 chroma, .bool constrained, .bool deblock, .int .i64 act0, .int .i64 act1]) (specV kb (pp_V kb bx bipred qp chroma act0 act1 b0 b1 b2 b3)) 6 := by
  intro a w hout hI hdep o ho K hK
  obtain rfl : o = pp_o6 := Option.some.inj (ho.symm.trans (by kernel_rfl))
  clear ho
  obtain ⟨v10, t10, f10⟩ := hdep 5 10 (by kernel_rfl)
  rw [if_pos (show Region.wanted pp_o6 _ = true from rfl)]
  obtain rfl : v10 = .bool b0 := f10 rfl
  have e10 := eval_slot t10
  unfold pp_o6
  go_simp
  exact hK _ _ hI (fun _ _ h => h) (fun _ => rfl)
theorem pp_s7 (A3 : a0.tmps[3]? = some (.pointer (some ⟨kb, 0, none⟩))) : StepOk Tryz.prog pp_ops Q a0 (Ms W0 bx kb 31 #[.bool cabac, .bool weighted, .int .i64 bipred, .int .i64 qp, .int .i64 chroma, .bool constrained, .bool deblock, .int .i64 act0, .int .i64 act1]) (specV kb (pp_V kb bx bipred qp chroma act0 act1 b0 b1 b2 b3)) 7 := by
  intro a w hout hI hdep o ho K hK
  obtain rfl : o = pp_o7 := Option.some.inj (ho.symm.trans (by kernel_rfl))
  clear ho
  have t3 := (hout 3 (by kernel_rfl)).trans A3
  obtain ⟨v11, t11, f11⟩ := hdep 6 11 (by kernel_rfl)
  obtain rfl : v11 = .bool b0 := f11 rfl
  have hy := yielded_is (ops := pp_ops) (j := 6) (d := 11) (by kernel_rfl) t11
  cases hB : b0 with
  | false =>
    rw [hB] at hy
    rw [if_neg (by simp [Region.wanted, pp_o7, hy])]
    exact hK _ _ hI (fun _ _ h => h) (fun h => by rw [hB] at h; cases h)
  | true =>
    rw [hB] at hy
    rw [if_pos (by simp [Region.wanted, pp_o7, hy])]
    have e3 := eval_slot t3
    unfold pp_o7
    go_simp
    exact hK _ _ hI (fun _ _ h => h) (fun _ => rfl)
theorem pp_s8 : StepOk Tryz.prog pp_ops Q a0 (Ms W0 bx kb 31 #[.bool cabac, .bool weighted, .int .i64 bipred, .int .i64 qp, .int .i64 chroma, .bool constrained, .bool deblock, .int .i64 act0, .int .i64 act1]) (specV kb (pp_V kb bx bipred qp chroma act0 act1 b0 b1 b2 b3)) 8 := by
  intro a w hout hI hdep o ho K hK
  obtain rfl : o = pp_o8 := Option.some.inj (ho.symm.trans (by kernel_rfl))
  clear ho
  obtain ⟨v12, t12, f12⟩ := hdep 7 12 (by kernel_rfl)
  obtain ⟨v11, t11, f11⟩ := hdep 6 11 (by kernel_rfl)
  obtain rfl : v11 = .bool b0 := f11 rfl
  have hy := yielded_is (ops := pp_ops) (j := 6) (d := 11) (by kernel_rfl) t11
  cases hB : b0 with
  | false =>
    rw [hB] at hy
    rw [if_neg (by simp [Region.wanted, pp_o8, hy])]
    exact hK _ _ hI (fun _ _ h => h) (fun h => by rw [hB] at h; cases h)
  | true =>
    rw [hB] at hy
    rw [if_pos (by simp [Region.wanted, pp_o8, hy])]
    obtain rfl : v12 = .pointer (some ⟨kb, 0, none⟩) := f12 hB
    have e12 := eval_slot t12
    unfold pp_o8
    go_simp
    refine (ms_of_7 w hI).mono ?_
    rintro e w1 ⟨rfl, M1, F1⟩
    exact hK _ _ M1 (fun j u h => specV_fr F1 j u h) (fun _ => rfl)
theorem pp_s9 (A1 : a0.tmps[1]? = some (.pointer (some ⟨bx, 0, none⟩))) : StepOk Tryz.prog pp_ops Q a0 (Ms W0 bx kb 31 #[.bool cabac, .bool weighted, .int .i64 bipred, .int .i64 qp, .int .i64 chroma, .bool constrained, .bool deblock, .int .i64 act0, .int .i64 act1]) (specV kb (pp_V kb bx bipred qp chroma act0 act1 b0 b1 b2 b3)) 9 := by
  intro a w hout hI hdep o ho K hK
  obtain rfl : o = pp_o9 := Option.some.inj (ho.symm.trans (by kernel_rfl))
  clear ho
  have t1 := (hout 1 (by kernel_rfl)).trans A1
  obtain ⟨v11, t11, f11⟩ := hdep 6 11 (by kernel_rfl)
  obtain rfl : v11 = .bool b0 := f11 rfl
  have hy := yielded_is (ops := pp_ops) (j := 6) (d := 11) (by kernel_rfl) t11
  cases hB : b0 with
  | false =>
    rw [hB] at hy
    rw [if_neg (by simp [Region.wanted, pp_o9, hy])]
    exact hK _ _ hI (fun _ _ h => h) (fun h => by rw [hB] at h; cases h)
  | true =>
    rw [hB] at hy
    rw [if_pos (by simp [Region.wanted, pp_o9, hy])]
    have e1 := eval_slot t1
    unfold pp_o9
    go_simp
    exact hK _ _ hI (fun _ _ h => h) (fun _ => rfl)
theorem pp_s10 : StepOk Tryz.prog pp_ops Q a0 (Ms W0 bx kb 31 #[.bool cabac, .bool weighted, .int .i64 bipred, .int .i64 qp, .int .i64 chroma, .bool constrained, .bool deblock, .int .i64 act0, .int .i64 act1]) (specV kb (pp_V kb bx bipred qp chroma act0 act1 b0 b1 b2 b3)) 10 := by
  intro a w hout hI hdep o ho K hK
  obtain rfl : o = pp_o10 := Option.some.inj (ho.symm.trans (by kernel_rfl))
  clear ho
  obtain ⟨v14, t14, f14⟩ := hdep 9 14 (by kernel_rfl)
  obtain ⟨v11, t11, f11⟩ := hdep 6 11 (by kernel_rfl)
  obtain rfl : v11 = .bool b0 := f11 rfl
  have hy := yielded_is (ops := pp_ops) (j := 6) (d := 11) (by kernel_rfl) t11
  cases hB : b0 with
  | false =>
    rw [hB] at hy
    rw [if_neg (by simp [Region.wanted, pp_o10, hy])]
    exact hK _ _ hI (fun _ _ h => h) (fun h => by rw [hB] at h; cases h)
  | true =>
    rw [hB] at hy
    rw [if_pos (by simp [Region.wanted, pp_o10, hy])]
    obtain rfl : v14 = .pointer (some ⟨bx, 3, none⟩) := f14 hB
    have e14 := eval_slot t14
    have c := hI.box 3 (.int .i64 qp) rfl
    unfold pp_o10
    go_simp
    exact hK _ _ hI (fun _ _ h => h) (fun _ => rfl)
theorem pp_s11 : StepOk Tryz.prog pp_ops Q a0 (Ms W0 bx kb 31 #[.bool cabac, .bool weighted, .int .i64 bipred, .int .i64 qp, .int .i64 chroma, .bool constrained, .bool deblock, .int .i64 act0, .int .i64 act1]) (specV kb (pp_V kb bx bipred qp chroma act0 act1 b0 b1 b2 b3)) 11 := by
  intro a w hout hI hdep o ho K hK
  obtain rfl : o = pp_o11 := Option.some.inj (ho.symm.trans (by kernel_rfl))
  clear ho
  obtain ⟨v15, t15, f15⟩ := hdep 10 15 (by kernel_rfl)
  obtain ⟨v11, t11, f11⟩ := hdep 6 11 (by kernel_rfl)
  obtain rfl : v11 = .bool b0 := f11 rfl
  have hy := yielded_is (ops := pp_ops) (j := 6) (d := 11) (by kernel_rfl) t11
  cases hB : b0 with
  | false =>
    rw [hB] at hy
    rw [if_neg (by simp [Region.wanted, pp_o11, hy])]
    exact hK _ _ hI (fun _ _ h => h) (fun h => by rw [hB] at h; cases h)
  | true =>
    rw [hB] at hy
    rw [if_pos (by simp [Region.wanted, pp_o11, hy])]
    obtain rfl : v15 = .int .i64 qp := f15 hB
    have e15 := eval_slot t15
    unfold pp_o11
    go_simp
    exact hK _ _ (hI.alloc _) (fun j u h => specV_fr (Fr.alloc (Fr.refl _ _) _) j u h) (fun _ => ⟨w.heap.size, rfl, heap_alloc_last _ _, by have := hI.2.1.lt; omega⟩)
theorem pp_s12 (HH : ∀ (wr : World) (a : Option Addr) (cap : Nat), IntRow wr a [qp] → Calls Tryz.prog 100 #[.agg #[.int .i64 0, .int .i64 51], .slice a 1 cap] wr fun e w' => e = .returned (.bool b1) ∧ Below wr.heap.size wr w') : StepOk Tryz.prog pp_ops Q a0 (Ms W0 bx kb 31 #[.bool cabac, .bool weighted, .int .i64 bipred, .int .i64 qp, .int .i64 chroma, .bool constrained, .bool deblock, .int .i64 act0, .int .i64 act1]) (specV kb (pp_V kb bx bipred qp chroma act0 act1 b0 b1 b2 b3)) 12 := by
  intro a w hout hI hdep o ho K hK
  obtain rfl : o = pp_o12 := Option.some.inj (ho.symm.trans (by kernel_rfl))
  clear ho
  obtain ⟨v13, t13, f13⟩ := hdep 8 13 (by kernel_rfl)
  obtain ⟨v16, t16, f16⟩ := hdep 11 16 (by kernel_rfl)
  obtain ⟨v11, t11, f11⟩ := hdep 6 11 (by kernel_rfl)
  obtain rfl : v11 = .bool b0 := f11 rfl
  have hy := yielded_is (ops := pp_ops) (j := 6) (d := 11) (by kernel_rfl) t11
  cases hB : b0 with
  | false =>
    rw [hB] at hy
    rw [if_neg (by simp [Region.wanted, pp_o12, hy])]
    exact hK _ _ hI (fun _ _ h => h) (fun h => by rw [hB] at h; cases h)
  | true =>
    rw [hB] at hy
    rw [if_pos (by simp [Region.wanted, pp_o12, hy])]
    obtain rfl : v13 = .agg #[.int .i64 0, .int .i64 51] := f13 hB
    obtain ⟨g, rfl, hg, hgk⟩ := f16 hB
    have e13 := eval_slot t13
    have e16 := eval_slot t16
    unfold pp_o12
    go_simp
    refine (HH w _ _ (row_of_ints hg)).mono ?_
    rintro e w1 ⟨rfl, B1⟩
    exact hK _ _ (hI.below B1) (fun j u h => specV_fr (Fr.of_below B1) j u h) (fun _ => rfl)
theorem pp_s13 : StepOk Tryz.prog pp_ops Q a0 (Ms W0 bx kb 31 #[.bool cabac, .bool weighted, .int .i64 bipred, .int .i64 qp, .int .i64 chroma, .bool constrained, .bool deblock, .int .i64 act0, .int .i64 act1]) (specV kb (pp_V kb bx bipred qp chroma act0 act1 b0 b1 b2 b3)) 13 := by
  intro a w hout hI hdep o ho K hK
  obtain rfl : o = pp_o13 := Option.some.inj (ho.symm.trans (by kernel_rfl))
  clear ho
  obtain ⟨v11, t11, f11⟩ := hdep 6 11 (by kernel_rfl)
  obtain ⟨v17, t17, f17⟩ := hdep 12 17 (by kernel_rfl)
  rw [if_pos (show Region.wanted pp_o13 _ = true from rfl)]
  obtain rfl : v11 = .bool b0 := f11 rfl
  have e11 := eval_slot t11
  cases hb : b0 with
  | false =>
    rw [hb] at e11
    unfold pp_o13
    go_simp
    exact hK _ _ hI (fun _ _ h => h) (fun _ => by simp [hb])
  | true =>
    obtain rfl : v17 = .bool b1 := f17 (by simp [hb])
    have e17 := eval_slot t17
    rw [hb] at e11
    unfold pp_o13
    go_simp
    exact hK _ _ hI (fun _ _ h => h) (fun _ => by simp [hb])
theorem pp_s14 : StepOk Tryz.prog pp_ops Q a0 (Ms W0 bx kb 31 #[.bool cabac, .bool weighted, .int .i64 bipred, .int .i64 qp, .int .i64 chroma, .bool constrained, .bool deblock, .int .i64 act0, .int .i64 act1]) (specV kb (pp_V kb bx bipred qp chroma act0 act1 b0 b1 b2 b3)) 14 := by
  intro a w hout hI hdep o ho K hK
  obtain rfl : o = pp_o14 := Option.some.inj (ho.symm.trans (by kernel_rfl))
  clear ho
  obtain ⟨v18, t18, f18⟩ := hdep 13 18 (by kernel_rfl)
  rw [if_pos (show Region.wanted pp_o14 _ = true from rfl)]
  obtain rfl : v18 = .bool (b0 && b1) := f18 rfl
  have e18 := eval_slot t18
  unfold pp_o14
  go_simp
  exact hK _ _ hI (fun _ _ h => h) (fun _ => rfl)
theorem pp_s15 (A3 : a0.tmps[3]? = some (.pointer (some ⟨kb, 0, none⟩))) : StepOk Tryz.prog pp_ops Q a0 (Ms W0 bx kb 31 #[.bool cabac, .bool weighted, .int .i64 bipred, .int .i64 qp, .int .i64 chroma, .bool constrained, .bool deblock, .int .i64 act0, .int .i64 act1]) (specV kb (pp_V kb bx bipred qp chroma act0 act1 b0 b1 b2 b3)) 15 := by
  intro a w hout hI hdep o ho K hK
  obtain rfl : o = pp_o15 := Option.some.inj (ho.symm.trans (by kernel_rfl))
  clear ho
  have t3 := (hout 3 (by kernel_rfl)).trans A3
  obtain ⟨v19, t19, f19⟩ := hdep 14 19 (by kernel_rfl)
  obtain rfl : v19 = .bool (b0 && b1) := f19 rfl
  have hy := yielded_is (ops := pp_ops) (j := 14) (d := 19) (by kernel_rfl) t19
  cases hB : (b0 && b1) with
  | false =>
    rw [hB] at hy
    rw [if_neg (by simp [Region.wanted, pp_o15, hy])]
    exact hK _ _ hI (fun _ _ h => h) (fun h => by rw [hB] at h; cases h)
  | true =>
    rw [hB] at hy
    rw [if_pos (by simp [Region.wanted, pp_o15, hy])]
    have e3 := eval_slot t3
    unfold pp_o15
    go_simp
    exact hK _ _ hI (fun _ _ h => h) (fun _ => rfl)
theorem pp_s16 : StepOk Tryz.prog pp_ops Q a0 (Ms W0 bx kb 31 #[.bool cabac, .bool weighted, .int .i64 bipred, .int .i64 qp, .int .i64 chroma, .bool constrained, .bool deblock, .int .i64 act0, .int .i64 act1]) (specV kb (pp_V kb bx bipred qp chroma act0 act1 b0 b1 b2 b3)) 16 := by
  intro a w hout hI hdep o ho K hK
  obtain rfl : o = pp_o16 := Option.some.inj (ho.symm.trans (by kernel_rfl))
  clear ho
  obtain ⟨v20, t20, f20⟩ := hdep 15 20 (by kernel_rfl)
  obtain ⟨v19, t19, f19⟩ := hdep 14 19 (by kernel_rfl)
  obtain rfl : v19 = .bool (b0 && b1) := f19 rfl
  have hy := yielded_is (ops := pp_ops) (j := 14) (d := 19) (by kernel_rfl) t19
  cases hB : (b0 && b1) with
  | false =>
    rw [hB] at hy
    rw [if_neg (by simp [Region.wanted, pp_o16, hy])]
    exact hK _ _ hI (fun _ _ h => h) (fun h => by rw [hB] at h; cases h)
  | true =>
    rw [hB] at hy
    rw [if_pos (by simp [Region.wanted, pp_o16, hy])]
    obtain rfl : v20 = .pointer (some ⟨kb, 0, none⟩) := f20 hB
    have e20 := eval_slot t20
    unfold pp_o16
    go_simp
    refine (ms_of_8 w hI).mono ?_
    rintro e w1 ⟨rfl, M1, F1⟩
    exact hK _ _ M1 (fun j u h => specV_fr F1 j u h) (fun _ => rfl)
theorem pp_s17 (A1 : a0.tmps[1]? = some (.pointer (some ⟨bx, 0, none⟩))) : StepOk Tryz.prog pp_ops Q a0 (Ms W0 bx kb 31 #[.bool cabac, .bool weighted, .int .i64 bipred, .int .i64 qp, .int .i64 chroma, .bool constrained, .bool deblock, .int .i64 act0, .int .i64 act1]) (specV kb (pp_V kb bx bipred qp chroma act0 act1 b0 b1 b2 b3)) 17 := by
  intro a w hout hI hdep o ho K hK
  obtain rfl : o = pp_o17 := Option.some.inj (ho.symm.trans (by kernel_rfl))
  clear ho
  have t1 := (hout 1 (by kernel_rfl)).trans A1
  obtain ⟨v19, t19, f19⟩ := hdep 14 19 (by kernel_rfl)
  obtain rfl : v19 = .bool (b0 && b1) := f19 rfl
  have hy := yielded_is (ops := pp_ops) (j := 14) (d := 19) (by kernel_rfl) t19
  cases hB : (b0 && b1) with
  | false =>
    rw [hB] at hy
    rw [if_neg (by simp [Region.wanted, pp_o17, hy])]
    exact hK _ _ hI (fun _ _ h => h) (fun h => by rw [hB] at h; cases h)
  | true =>
    rw [hB] at hy
    rw [if_pos (by simp [Region.wanted, pp_o17, hy])]
    have e1 := eval_slot t1
    unfold pp_o17
    go_simp
    exact hK _ _ hI (fun _ _ h => h) (fun _ => rfl)
theorem pp_s18 : StepOk Tryz.prog pp_ops Q a0 (Ms W0 bx kb 31 #[.bool cabac, .bool weighted, .int .i64 bipred, .int .i64 qp, .int .i64 chroma, .bool constrained, .bool deblock, .int .i64 act0, .int .i64 act1]) (specV kb (pp_V kb bx bipred qp chroma act0 act1 b0 b1 b2 b3)) 18 := by
  intro a w hout hI hdep o ho K hK
  obtain rfl : o = pp_o18 := Option.some.inj (ho.symm.trans (by kernel_rfl))
  clear ho
  obtain ⟨v22, t22, f22⟩ := hdep 17 22 (by kernel_rfl)
  obtain ⟨v19, t19, f19⟩ := hdep 14 19 (by kernel_rfl)
  obtain rfl : v19 = .bool (b0 && b1) := f19 rfl
  have hy := yielded_is (ops := pp_ops) (j := 14) (d := 19) (by kernel_rfl) t19
  cases hB : (b0 && b1) with
  | false =>
    rw [hB] at hy
    rw [if_neg (by simp [Region.wanted, pp_o18, hy])]
    exact hK _ _ hI (fun _ _ h => h) (fun h => by rw [hB] at h; cases h)
  | true =>
    rw [hB] at hy
    rw [if_pos (by simp [Region.wanted, pp_o18, hy])]
    obtain rfl : v22 = .pointer (some ⟨bx, 4, none⟩) := f22 hB
    have e22 := eval_slot t22
    have c := hI.box 4 (.int .i64 chroma) rfl
    unfold pp_o18
    go_simp
    exact hK _ _ hI (fun _ _ h => h) (fun _ => rfl)
theorem pp_s19 : StepOk Tryz.prog pp_ops Q a0 (Ms W0 bx kb 31 #[.bool cabac, .bool weighted, .int .i64 bipred, .int .i64 qp, .int .i64 chroma, .bool constrained, .bool deblock, .int .i64 act0, .int .i64 act1]) (specV kb (pp_V kb bx bipred qp chroma act0 act1 b0 b1 b2 b3)) 19 := by
  intro a w hout hI hdep o ho K hK
  obtain rfl : o = pp_o19 := Option.some.inj (ho.symm.trans (by kernel_rfl))
  clear ho
  obtain ⟨v23, t23, f23⟩ := hdep 18 23 (by kernel_rfl)
  obtain ⟨v19, t19, f19⟩ := hdep 14 19 (by kernel_rfl)
  obtain rfl : v19 = .bool (b0 && b1) := f19 rfl
  have hy := yielded_is (ops := pp_ops) (j := 14) (d := 19) (by kernel_rfl) t19
  cases hB : (b0 && b1) with
  | false =>
    rw [hB] at hy
    rw [if_neg (by simp [Region.wanted, pp_o19, hy])]
    exact hK _ _ hI (fun _ _ h => h) (fun h => by rw [hB] at h; cases h)
  | true =>
    rw [hB] at hy
    rw [if_pos (by simp [Region.wanted, pp_o19, hy])]
    obtain rfl : v23 = .int .i64 chroma := f23 hB
    have e23 := eval_slot t23
    unfold pp_o19
    go_simp
    exact hK _ _ (hI.alloc _) (fun j u h => specV_fr (Fr.alloc (Fr.refl _ _) _) j u h) (fun _ => ⟨w.heap.size, rfl, heap_alloc_last _ _, by have := hI.2.1.lt; omega⟩)
theorem pp_s20 (HH : ∀ (wr : World) (a : Option Addr) (cap : Nat), IntRow wr a [chroma] → Calls Tryz.prog 100 #[.agg #[.int .i64 (-12), .int .i64 12], .slice a 1 cap] wr fun e w' => e = .returned (.bool b2) ∧ Below wr.heap.size wr w') : StepOk Tryz.prog pp_ops Q a0 (Ms W0 bx kb 31 #[.bool cabac, .bool weighted, .int .i64 bipred, .int .i64 qp, .int .i64 chroma, .bool constrained, .bool deblock, .int .i64 act0, .int .i64 act1]) (specV kb (pp_V kb bx bipred qp chroma act0 act1 b0 b1 b2 b3)) 20 := by
  intro a w hout hI hdep o ho K hK
  obtain rfl : o = pp_o20 := Option.some.inj (ho.symm.trans (by kernel_rfl))
  clear ho
  obtain ⟨v21, t21, f21⟩ := hdep 16 21 (by kernel_rfl)
  obtain ⟨v24, t24, f24⟩ := hdep 19 24 (by kernel_rfl)
  obtain ⟨v19, t19, f19⟩ := hdep 14 19 (by kernel_rfl)
  obtain rfl : v19 = .bool (b0 && b1) := f19 rfl
  have hy := yielded_is (ops := pp_ops) (j := 14) (d := 19) (by kernel_rfl) t19
  cases hB : (b0 && b1) with
  | false =>
    rw [hB] at hy
    rw [if_neg (by simp [Region.wanted, pp_o20, hy])]
    exact hK _ _ hI (fun _ _ h => h) (fun h => by rw [hB] at h; cases h)
  | true =>
    rw [hB] at hy
    rw [if_pos (by simp [Region.wanted, pp_o20, hy])]
    obtain rfl : v21 = .agg #[.int .i64 (-12), .int .i64 12] := f21 hB
    obtain ⟨g, rfl, hg, hgk⟩ := f24 hB
    have e21 := eval_slot t21
    have e24 := eval_slot t24
    unfold pp_o20
    go_simp
    refine (HH w _ _ (row_of_ints hg)).mono ?_
    rintro e w1 ⟨rfl, B1⟩
    exact hK _ _ (hI.below B1) (fun j u h => specV_fr (Fr.of_below B1) j u h) (fun _ => rfl)
theorem pp_s21 : StepOk Tryz.prog pp_ops Q a0 (Ms W0 bx kb 31 #[.bool cabac, .bool weighted, .int .i64 bipred, .int .i64 qp, .int .i64 chroma, .bool constrained, .bool deblock, .int .i64 act0, .int .i64 act1]) (specV kb (pp_V kb bx bipred qp chroma act0 act1 b0 b1 b2 b3)) 21 := by
  intro a w hout hI hdep o ho K hK
  obtain rfl : o = pp_o21 := Option.some.inj (ho.symm.trans (by kernel_rfl))
  clear ho
  obtain ⟨v19, t19, f19⟩ := hdep 14 19 (by kernel_rfl)
  obtain ⟨v25, t25, f25⟩ := hdep 20 25 (by kernel_rfl)
  rw [if_pos (show Region.wanted pp_o21 _ = true from rfl)]
  obtain rfl : v19 = .bool (b0 && b1) := f19 rfl
  have e19 := eval_slot t19
  cases hb : (b0 && b1) with
  | false =>
    rw [hb] at e19
    unfold pp_o21
    go_simp
    exact hK _ _ hI (fun _ _ h => h) (fun _ => by simp [hb])
  | true =>
    obtain rfl : v25 = .bool b2 := f25 (by simp [hb])
    have e25 := eval_slot t25
    rw [hb] at e19
    unfold pp_o21
    go_simp
    exact hK _ _ hI (fun _ _ h => h) (fun _ => by simp [hb])
theorem pp_s22 : StepOk Tryz.prog pp_ops Q a0 (Ms W0 bx kb 31 #[.bool cabac, .bool weighted, .int .i64 bipred, .int .i64 qp, .int .i64 chroma, .bool constrained, .bool deblock, .int .i64 act0, .int .i64 act1]) (specV kb (pp_V kb bx bipred qp chroma act0 act1 b0 b1 b2 b3)) 22 := by
  intro a w hout hI hdep o ho K hK
  obtain rfl : o = pp_o22 := Option.some.inj (ho.symm.trans (by kernel_rfl))
  clear ho
  obtain ⟨v26, t26, f26⟩ := hdep 21 26 (by kernel_rfl)
  rw [if_pos (show Region.wanted pp_o22 _ = true from rfl)]
  obtain rfl : v26 = .bool ((b0 && b1) && b2) := f26 rfl
  have e26 := eval_slot t26
  unfold pp_o22
  go_simp
  exact hK _ _ hI (fun _ _ h => h) (fun _ => rfl)
theorem pp_s23 (A3 : a0.tmps[3]? = some (.pointer (some ⟨kb, 0, none⟩))) : StepOk Tryz.prog pp_ops Q a0 (Ms W0 bx kb 31 #[.bool cabac, .bool weighted, .int .i64 bipred, .int .i64 qp, .int .i64 chroma, .bool constrained, .bool deblock, .int .i64 act0, .int .i64 act1]) (specV kb (pp_V kb bx bipred qp chroma act0 act1 b0 b1 b2 b3)) 23 := by
  intro a w hout hI hdep o ho K hK
  obtain rfl : o = pp_o23 := Option.some.inj (ho.symm.trans (by kernel_rfl))
  clear ho
  have t3 := (hout 3 (by kernel_rfl)).trans A3
  obtain ⟨v27, t27, f27⟩ := hdep 22 27 (by kernel_rfl)
  obtain rfl : v27 = .bool ((b0 && b1) && b2) := f27 rfl
  have hy := yielded_is (ops := pp_ops) (j := 22) (d := 27) (by kernel_rfl) t27
  cases hB : ((b0 && b1) && b2) with
  | false =>
    rw [hB] at hy
    rw [if_neg (by simp [Region.wanted, pp_o23, hy])]
    exact hK _ _ hI (fun _ _ h => h) (fun h => by rw [hB] at h; cases h)
  | true =>
    rw [hB] at hy
    rw [if_pos (by simp [Region.wanted, pp_o23, hy])]
    have e3 := eval_slot t3
    unfold pp_o23
    go_simp
    exact hK _ _ hI (fun _ _ h => h) (fun _ => rfl)
theorem pp_s24 : StepOk Tryz.prog pp_ops Q a0 (Ms W0 bx kb 31 #[.bool cabac, .bool weighted, .int .i64 bipred, .int .i64 qp, .int .i64 chroma, .bool constrained, .bool deblock, .int .i64 act0, .int .i64 act1]) (specV kb (pp_V kb bx bipred qp chroma act0 act1 b0 b1 b2 b3)) 24 := by
  intro a w hout hI hdep o ho K hK
  obtain rfl : o = pp_o24 := Option.some.inj (ho.symm.trans (by kernel_rfl))
  clear ho
  obtain ⟨v28, t28, f28⟩ := hdep 23 28 (by kernel_rfl)
  obtain ⟨v27, t27, f27⟩ := hdep 22 27 (by kernel_rfl)
  obtain rfl : v27 = .bool ((b0 && b1) && b2) := f27 rfl
  have hy := yielded_is (ops := pp_ops) (j := 22) (d := 27) (by kernel_rfl) t27
  cases hB : ((b0 && b1) && b2) with
  | false =>
    rw [hB] at hy
    rw [if_neg (by simp [Region.wanted, pp_o24, hy])]
    exact hK _ _ hI (fun _ _ h => h) (fun h => by rw [hB] at h; cases h)
  | true =>
    rw [hB] at hy
    rw [if_pos (by simp [Region.wanted, pp_o24, hy])]
    obtain rfl : v28 = .pointer (some ⟨kb, 0, none⟩) := f28 hB
    have e28 := eval_slot t28
    unfold pp_o24
    go_simp
    refine (ms_of_5 w hI).mono ?_
    rintro e w1 ⟨rfl, M1, F1⟩
    exact hK _ _ M1 (fun j u h => specV_fr F1 j u h) (fun _ => rfl)
theorem pp_s25 (A1 : a0.tmps[1]? = some (.pointer (some ⟨bx, 0, none⟩))) : StepOk Tryz.prog pp_ops Q a0 (Ms W0 bx kb 31 #[.bool cabac, .bool weighted, .int .i64 bipred, .int .i64 qp, .int .i64 chroma, .bool constrained, .bool deblock, .int .i64 act0, .int .i64 act1]) (specV kb (pp_V kb bx bipred qp chroma act0 act1 b0 b1 b2 b3)) 25 := by
  intro a w hout hI hdep o ho K hK
  obtain rfl : o = pp_o25 := Option.some.inj (ho.symm.trans (by kernel_rfl))
  clear ho
  have t1 := (hout 1 (by kernel_rfl)).trans A1
  obtain ⟨v27, t27, f27⟩ := hdep 22 27 (by kernel_rfl)
  obtain rfl : v27 = .bool ((b0 && b1) && b2) := f27 rfl
  have hy := yielded_is (ops := pp_ops) (j := 22) (d := 27) (by kernel_rfl) t27
  cases hB : ((b0 && b1) && b2) with
  | false =>
    rw [hB] at hy
    rw [if_neg (by simp [Region.wanted, pp_o25, hy])]
    exact hK _ _ hI (fun _ _ h => h) (fun h => by rw [hB] at h; cases h)
  | true =>
    rw [hB] at hy
    rw [if_pos (by simp [Region.wanted, pp_o25, hy])]
    have e1 := eval_slot t1
    unfold pp_o25
    go_simp
    exact hK _ _ hI (fun _ _ h => h) (fun _ => rfl)
theorem pp_s26 : StepOk Tryz.prog pp_ops Q a0 (Ms W0 bx kb 31 #[.bool cabac, .bool weighted, .int .i64 bipred, .int .i64 qp, .int .i64 chroma, .bool constrained, .bool deblock, .int .i64 act0, .int .i64 act1]) (specV kb (pp_V kb bx bipred qp chroma act0 act1 b0 b1 b2 b3)) 26 := by
  intro a w hout hI hdep o ho K hK
  obtain rfl : o = pp_o26 := Option.some.inj (ho.symm.trans (by kernel_rfl))
  clear ho
  obtain ⟨v30, t30, f30⟩ := hdep 25 30 (by kernel_rfl)
  obtain ⟨v27, t27, f27⟩ := hdep 22 27 (by kernel_rfl)
  obtain rfl : v27 = .bool ((b0 && b1) && b2) := f27 rfl
  have hy := yielded_is (ops := pp_ops) (j := 22) (d := 27) (by kernel_rfl) t27
  cases hB : ((b0 && b1) && b2) with
  | false =>
    rw [hB] at hy
    rw [if_neg (by simp [Region.wanted, pp_o26, hy])]
    exact hK _ _ hI (fun _ _ h => h) (fun h => by rw [hB] at h; cases h)
  | true =>
    rw [hB] at hy
    rw [if_pos (by simp [Region.wanted, pp_o26, hy])]
    obtain rfl : v30 = .pointer (some ⟨bx, 7, none⟩) := f30 hB
    have e30 := eval_slot t30
    have c := hI.box 7 (.int .i64 act0) rfl
    unfold pp_o26
    go_simp
    exact hK _ _ hI (fun _ _ h => h) (fun _ => rfl)
theorem pp_s27 (A1 : a0.tmps[1]? = some (.pointer (some ⟨bx, 0, none⟩))) : StepOk Tryz.prog pp_ops Q a0 (Ms W0 bx kb 31 #[.bool cabac, .bool weighted, .int .i64 bipred, .int .i64 qp, .int .i64 chroma, .bool constrained, .bool deblock, .int .i64 act0, .int .i64 act1]) (specV kb (pp_V kb bx bipred qp chroma act0 act1 b0 b1 b2 b3)) 27 := by
  intro a w hout hI hdep o ho K hK
  obtain rfl : o = pp_o27 := Option.some.inj (ho.symm.trans (by kernel_rfl))
  clear ho
  have t1 := (hout 1 (by kernel_rfl)).trans A1
  obtain ⟨v27, t27, f27⟩ := hdep 22 27 (by kernel_rfl)
  obtain rfl : v27 = .bool ((b0 && b1) && b2) := f27 rfl
  have hy := yielded_is (ops := pp_ops) (j := 22) (d := 27) (by kernel_rfl) t27
  cases hB : ((b0 && b1) && b2) with
  | false =>
    rw [hB] at hy
    rw [if_neg (by simp [Region.wanted, pp_o27, hy])]
    exact hK _ _ hI (fun _ _ h => h) (fun h => by rw [hB] at h; cases h)
  | true =>
    rw [hB] at hy
    rw [if_pos (by simp [Region.wanted, pp_o27, hy])]
    have e1 := eval_slot t1
    unfold pp_o27
    go_simp
    exact hK _ _ hI (fun _ _ h => h) (fun _ => rfl)
theorem pp_s28 : StepOk Tryz.prog pp_ops Q a0 (Ms W0 bx kb 31 #[.bool cabac, .bool weighted, .int .i64 bipred, .int .i64 qp, .int .i64 chroma, .bool constrained, .bool deblock, .int .i64 act0, .int .i64 act1]) (specV kb (pp_V kb bx bipred qp chroma act0 act1 b0 b1 b2 b3)) 28 := by
  intro a w hout hI hdep o ho K hK
  obtain rfl : o = pp_o28 := Option.some.inj (ho.symm.trans (by kernel_rfl))
  clear ho
  obtain ⟨v32, t32, f32⟩ := hdep 27 32 (by kernel_rfl)
  obtain ⟨v27, t27, f27⟩ := hdep 22 27 (by kernel_rfl)
  obtain rfl : v27 = .bool ((b0 && b1) && b2) := f27 rfl
  have hy := yielded_is (ops := pp_ops) (j := 22) (d := 27) (by kernel_rfl) t27
  cases hB : ((b0 && b1) && b2) with
  | false =>
    rw [hB] at hy
    rw [if_neg (by simp [Region.wanted, pp_o28, hy])]
    exact hK _ _ hI (fun _ _ h => h) (fun h => by rw [hB] at h; cases h)
  | true =>
    rw [hB] at hy
    rw [if_pos (by simp [Region.wanted, pp_o28, hy])]
    obtain rfl : v32 = .pointer (some ⟨bx, 8, none⟩) := f32 hB
    have e32 := eval_slot t32
    have c := hI.box 8 (.int .i64 act1) rfl
    unfold pp_o28
    go_simp
    exact hK _ _ hI (fun _ _ h => h) (fun _ => rfl)
theorem pp_s29 : StepOk Tryz.prog pp_ops Q a0 (Ms W0 bx kb 31 #[.bool cabac, .bool weighted, .int .i64 bipred, .int .i64 qp, .int .i64 chroma, .bool constrained, .bool deblock, .int .i64 act0, .int .i64 act1]) (specV kb (pp_V kb bx bipred qp chroma act0 act1 b0 b1 b2 b3)) 29 := by
  intro a w hout hI hdep o ho K hK
  obtain rfl : o = pp_o29 := Option.some.inj (ho.symm.trans (by kernel_rfl))
  clear ho
  obtain ⟨v31, t31, f31⟩ := hdep 26 31 (by kernel_rfl)
  obtain ⟨v33, t33, f33⟩ := hdep 28 33 (by kernel_rfl)
  obtain ⟨v27, t27, f27⟩ := hdep 22 27 (by kernel_rfl)
  obtain rfl : v27 = .bool ((b0 && b1) && b2) := f27 rfl
  have hy := yielded_is (ops := pp_ops) (j := 22) (d := 27) (by kernel_rfl) t27
  cases hB : ((b0 && b1) && b2) with
  | false =>
    rw [hB] at hy
    rw [if_neg (by simp [Region.wanted, pp_o29, hy])]
    exact hK _ _ hI (fun _ _ h => h) (fun h => by rw [hB] at h; cases h)
  | true =>
    rw [hB] at hy
    rw [if_pos (by simp [Region.wanted, pp_o29, hy])]
    obtain rfl : v31 = .int .i64 act0 := f31 hB
    obtain rfl : v33 = .int .i64 act1 := f33 hB
    have e31 := eval_slot t31
    have e33 := eval_slot t33
    unfold pp_o29
    go_simp
    exact hK _ _ (hI.alloc _) (fun j u h => specV_fr (Fr.alloc (Fr.refl _ _) _) j u h) (fun _ => ⟨w.heap.size, rfl, heap_alloc_last _ _, by have := hI.2.1.lt; omega⟩)
theorem pp_s30 (HH : ∀ (wr : World) (a : Option Addr) (cap : Nat), IntRow wr a [act0, act1] → Calls Tryz.prog 100 #[.agg #[.int .i64 1, .int .i64 8], .slice a 2 cap] wr fun e w' => e = .returned (.bool b3) ∧ Below wr.heap.size wr w') : StepOk Tryz.prog pp_ops Q a0 (Ms W0 bx kb 31 #[.bool cabac, .bool weighted, .int .i64 bipred, .int .i64 qp, .int .i64 chroma, .bool constrained, .bool deblock, .int .i64 act0, .int .i64 act1]) (specV kb (pp_V kb bx bipred qp chroma act0 act1 b0 b1 b2 b3)) 30 := by
  intro a w hout hI hdep o ho K hK
  obtain rfl : o = pp_o30 := Option.some.inj (ho.symm.trans (by kernel_rfl))
  clear ho
  obtain ⟨v29, t29, f29⟩ := hdep 24 29 (by kernel_rfl)
  obtain ⟨v34, t34, f34⟩ := hdep 29 34 (by kernel_rfl)
  obtain ⟨v27, t27, f27⟩ := hdep 22 27 (by kernel_rfl)
  obtain rfl : v27 = .bool ((b0 && b1) && b2) := f27 rfl
  have hy := yielded_is (ops := pp_ops) (j := 22) (d := 27) (by kernel_rfl) t27
  cases hB : ((b0 && b1) && b2) with
  | false =>
    rw [hB] at hy
    rw [if_neg (by simp [Region.wanted, pp_o30, hy])]
    exact hK _ _ hI (fun _ _ h => h) (fun h => by rw [hB] at h; cases h)
  | true =>
    rw [hB] at hy
    rw [if_pos (by simp [Region.wanted, pp_o30, hy])]
    obtain rfl : v29 = .agg #[.int .i64 1, .int .i64 8] := f29 hB
    obtain ⟨g, rfl, hg, hgk⟩ := f34 hB
    have e29 := eval_slot t29
    have e34 := eval_slot t34
    unfold pp_o30
    go_simp
    refine (HH w _ _ (row_of_ints hg)).mono ?_
    rintro e w1 ⟨rfl, B1⟩
    exact hK _ _ (hI.below B1) (fun j u h => specV_fr (Fr.of_below B1) j u h) (fun _ => rfl)
theorem pp_s31 : StepOk Tryz.prog pp_ops Q a0 (Ms W0 bx kb 31 #[.bool cabac, .bool weighted, .int .i64 bipred, .int .i64 qp, .int .i64 chroma, .bool constrained, .bool deblock, .int .i64 act0, .int .i64 act1]) (specV kb (pp_V kb bx bipred qp chroma act0 act1 b0 b1 b2 b3)) 31 := by
  intro a w hout hI hdep o ho K hK
  obtain rfl : o = pp_o31 := Option.some.inj (ho.symm.trans (by kernel_rfl))
  clear ho
  obtain ⟨v27, t27, f27⟩ := hdep 22 27 (by kernel_rfl)
  obtain ⟨v35, t35, f35⟩ := hdep 30 35 (by kernel_rfl)
  rw [if_pos (show Region.wanted pp_o31 _ = true from rfl)]
  obtain rfl : v27 = .bool ((b0 && b1) && b2) := f27 rfl
  have e27 := eval_slot t27
  cases hb : ((b0 && b1) && b2) with
  | false =>
    rw [hb] at e27
    unfold pp_o31
    go_simp
    exact hK _ _ hI (fun _ _ h => h) (fun _ => by simp [hb])
  | true =>
    obtain rfl : v35 = .bool b3 := f35 (by simp [hb])
    have e35 := eval_slot t35
    rw [hb] at e27
    unfold pp_o31
    go_simp
    exact hK _ _ hI (fun _ _ h => h) (fun _ => by simp [hb])
theorem pp_s32 : StepOk Tryz.prog pp_ops Q a0 (Ms W0 bx kb 31 #[.bool cabac, .bool weighted, .int .i64 bipred, .int .i64 qp, .int .i64 chroma, .bool constrained, .bool deblock, .int .i64 act0, .int .i64 act1]) (specV kb (pp_V kb bx bipred qp chroma act0 act1 b0 b1 b2 b3)) 32 := by
  intro a w hout hI hdep o ho K hK
  obtain rfl : o = pp_o32 := Option.some.inj (ho.symm.trans (by kernel_rfl))
  clear ho
  obtain ⟨v36, t36, f36⟩ := hdep 31 36 (by kernel_rfl)
  rw [if_pos (show Region.wanted pp_o32 _ = true from rfl)]
  obtain rfl : v36 = .bool (((b0 && b1) && b2) && b3) := f36 rfl
  have e36 := eval_slot t36
  unfold pp_o32
  go_simp
  exact hK _ _ hI (fun _ _ h => h) (fun _ => rfl)

end
theorem may_progP (cabac weighted : Bool) (bipred qp chroma : Int) (constrained deblock : Bool) (act0 act1 : Int) :
    (((inAll [bipred] 0 2 && inAll [qp] 0 51) && inAll [chroma] (-12) 12) && inAll [act0, act1] 1 8) = decide (PpsN.may ⟨cabac, weighted, bipred, qp, chroma, constrained, deblock, act0, act1⟩) := by
  rw [← mayP_all, Bool.eq_iff_iff]
  simp only [mayP, inAll, List.all_cons, List.all_nil, Bool.and_true, Bool.and_eq_true]
  constructor
  · rintro ⟨⟨⟨h1, h2⟩, h3⟩, h4, h5⟩
    exact ⟨⟨⟨⟨h1, h2⟩, h3⟩, h4⟩, h5⟩
  · rintro ⟨⟨⟨⟨h1, h2⟩, h3⟩, h4⟩, h5⟩
    exact ⟨⟨⟨h1, h2⟩, h3⟩, h4, h5⟩

set_option maxRecDepth 100000 in
set_option maxHeartbeats 4000000 in
theorem mayPps_is (p : PpsN) (w : World) : Calls Tryz.prog 74 #[ppsV p] w fun e w' => e = .returned (.bool (decide p.may)) ∧ Below w.heap.size w w' := by
  obtain ⟨cabac, weighted, bipred, qp, chroma, constrained, deblock, act0, act1⟩ := p
  unfold ppsV
  rw [← may_progP]
  obtain ⟨x1, x2, f0⟩ := two_boxes w #[.bool cabac, .bool weighted, .int .i64 bipred, .int .i64 qp, .int .i64 chroma, .bool constrained, .bool deblock, .int .i64 act0, .int .i64 act1] kpZ 31 154
  have HB := Lib.hid (((Below.refl w.heap.size w).alloc (Nat.le_refl _) (.cells #[.bool cabac, .bool weighted, .int .i64 bipred, .int .i64 qp, .int .i64 chroma, .bool constrained, .bool deblock, .int .i64 act0, .int .i64 act1] 31)).alloc (by simp) (.cells kpZ 154))
  obtain ⟨b0, h0⟩ : ∃ b, inAll [bipred] 0 2 = b := ⟨_, rfl⟩
  obtain ⟨b1, h1⟩ : ∃ b, inAll [qp] 0 51 = b := ⟨_, rfl⟩
  obtain ⟨b2, h2⟩ : ∃ b, inAll [chroma] (-12) 12 = b := ⟨_, rfl⟩
  obtain ⟨b3, h3⟩ : ∃ b, inAll [act0, act1] 1 8 = b := ⟨_, rfl⟩
  rw [h0, h1, h2, h3]
  have m0 : Ms ((w.alloc (.cells #[.bool cabac, .bool weighted, .int .i64 bipred, .int .i64 qp, .int .i64 chroma, .bool constrained, .bool deblock, .int .i64 act0, .int .i64 act1] 31)).alloc (.cells kpZ 154)) w.heap.size (w.heap.size + 1) 31 #[.bool cabac, .bool weighted, .int .i64 bipred, .int .i64 qp, .int .i64 chroma, .bool constrained, .bool deblock, .int .i64 act0, .int .i64 act1] ((w.alloc (.cells #[.bool cabac, .bool weighted, .int .i64 bipred, .int .i64 qp, .int .i64 chroma, .bool constrained, .bool deblock, .int .i64 act0, .int .i64 act1] 31)).alloc (.cells kpZ 154)).drew :=
    ⟨x1, .inl x2, (Fr.refl _ _).drew, by omega⟩
  have M0 := Lib.hid m0
  clear m0 x1 x2 f0
  go_enter Tryz.func74, Tryz.ntmps74
  go_wp2_with fail
  refine wp_region_midst (ops := pp_ops) _ (specV (w.heap.size + 1) (pp_V (w.heap.size + 1) w.heap.size bipred qp chroma act0 act1 b0 b1 b2 b3)) (by kernel_rfl) (by kernel_rfl) M0.out (fun i hi => ?_) (fun a wz h => ?_)
  · match i, hi with | 0, _ => exact pp_s0 rfl | 1, _ => exact pp_s1 | 2, _ => exact pp_s2 rfl | 3, _ => exact pp_s3 | 4, _ => exact pp_s4 | 5, _ => exact pp_s5 (holds_is h0 (by simp)) | 6, _ => exact pp_s6 | 7, _ => exact pp_s7 rfl | 8, _ => exact pp_s8 | 9, _ => exact pp_s9 rfl | 10, _ => exact pp_s10 | 11, _ => exact pp_s11 | 12, _ => exact pp_s12 (holds_is h1 (by simp)) | 13, _ => exact pp_s13 | 14, _ => exact pp_s14 | 15, _ => exact pp_s15 rfl | 16, _ => exact pp_s16 | 17, _ => exact pp_s17 rfl | 18, _ => exact pp_s18 | 19, _ => exact pp_s19 | 20, _ => exact pp_s20 (holds_is h2 (by simp)) | 21, _ => exact pp_s21 | 22, _ => exact pp_s22 | 23, _ => exact pp_s23 rfl | 24, _ => exact pp_s24 | 25, _ => exact pp_s25 rfl | 26, _ => exact pp_s26 | 27, _ => exact pp_s27 rfl | 28, _ => exact pp_s28 | 29, _ => exact pp_s29 | 30, _ => exact pp_s30 (holds_is h3 (by simp)) | 31, _ => exact pp_s31 | 32, _ => exact pp_s32 | k + 33, h => exact absurd h (by simp [pp_ops])
  · obtain ⟨v, t2, e2⟩ := h.get 32 2 (by kernel_rfl)
    obtain rfl := e2 rfl
    have hd := h.defers
    have MF := h.inv
    clear h
    go_wp2_with fail
    refine bodyPost_ret (v := .bool (b0 && b1 && b2 && b3)) (by simp [results, Tryz.results74, go_sem, t2]) hd ⟨rfl, ?_⟩
    exact HB.out.trans (Fr.below (B := w.heap.size) MF.2.2.1 (by simp; omega) (fun k e => by omega))
end Go.Proofs.YthcbgijmnonckaaGreat
