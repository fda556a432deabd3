/- Layer 4: HeadLists: its regions, told operation by operation. -/
import Derived.Test.YthcbgijmnonckaaGreatLY
namespace Go.Proofs.YthcbgijmnonckaaGreat
open Go.RowKit Zo Zp
set_option linter.unusedVariables false
set_option linter.unusedSimpArgs false

/-- A region whose order is drawn, its late stores too: told operation by operation. -/
theorem wp_region_midst2 {P : Program} {ops : Array Oper} {Q : Exit → Act → World → Prop} {id : Nat} {a0 : Act} {w0 : World} (I : World → Prop) (V : Nat → World → Value → Prop) (hm : P.follows .mixedOrders = true) (htidy : tidyB2 ops a0.tmps.size = true) (hI : I w0.drew)
    (hstep : ∀ i, i < ops.size → StepOk P ops Q a0 I V i)
    (hdone : ∀ a w, Midst ops a0 I V (Array.replicate ops.size true) a w → Q .normal a w) : (Code.region id ops true).wp P Q a0 w0 := by
  refine wp_region_midstL (G := Unit) (fun _ _ => I) (fun _ _ => V) hm htidy () hI (fun i hi => ?_) (fun g L a w hL M => ?_)
  · intro g L a w hs hl hout hI' hdep o ho K hK
    exact hstep i hi a w hout hI' (fun j d hd => (hdep j d hd).2) o ho K (fun v w' h1 h2 h3 => hK () v w' h1 (fun j u _ h => h2 j u h) h3)
  · refine hdone a w ⟨by simp, M.inv, M.defers, M.len, M.out, fun j d hj _ => M.val j d hj (hL j ?_)⟩
    cases ho : ops[j]? with
    | none => rw [ho] at hj; cases hj
    | some o => exact (Array.getElem?_eq_some_iff.1 ho).1

def l8_o0 : Oper := { dst := some 37, op := Op.fieldAddr 26 (Operand.tmp 11) 2, type := 0, pos := "more.go:62", after := #[], guard := none }
def l8_o1 : Oper := { dst := some 38, op := Op.load 3 (Operand.tmp 37), type := 3, pos := "more.go:62", after := #[{ on := 0, ground := Ground.data }], guard := none }
def l8_o2 : Oper := { dst := some 39, op := Op.binOp BinOp.lss 3 (Operand.tmp 38) (Operand.const (Value.int IntKind.i64 2)) 3, type := 4, pos := "more.go:62", after := #[{ on := 1, ground := Ground.data }], guard := none }
def l8_o3 : Oper := { dst := some 40, op := Op.fieldAddr 26 (Operand.tmp 11) 2, type := 0, pos := "more.go:62", after := #[{ on := 6, ground := Ground.gcOnly Departure.lateStores }], guard := none }
def l8_o4 : Oper := { dst := some 41, op := Op.load 3 (Operand.tmp 40), type := 3, pos := "more.go:62", after := #[{ on := 3, ground := Ground.data }, { on := 6, ground := Ground.gcOnly Departure.lateStores }], guard := none }
def l8_o5 : Oper := { dst := some 42, op := Op.binOp BinOp.eql 3 (Operand.tmp 41) (Operand.const (Value.int IntKind.i64 1)) 3, type := 4, pos := "more.go:62", after := #[{ on := 4, ground := Ground.data }, { on := 6, ground := Ground.gcOnly Departure.lateStores }], guard := none }
def l8_o6 : Oper := { dst := some 12, op := Op.assign (Operand.tmp 39), type := 4, pos := "more.go:62", after := #[{ on := 2, ground := Ground.data }, { on := 0, ground := Ground.phase }, { on := 1, ground := Ground.phase }, { on := 2, ground := Ground.phase }, { on := 3, ground := Ground.textOnly Departure.lateStores }, { on := 4, ground := Ground.textOnly Departure.lateStores }, { on := 5, ground := Ground.textOnly Departure.lateStores }], guard := none }
def l8_o7 : Oper := { dst := some 13, op := Op.assign (Operand.tmp 42), type := 4, pos := "more.go:62", after := #[{ on := 5, ground := Ground.data }, { on := 6, ground := Ground.chain }, { on := 0, ground := Ground.phase }, { on := 1, ground := Ground.phase }, { on := 2, ground := Ground.phase }, { on := 3, ground := Ground.phase }, { on := 4, ground := Ground.phase }, { on := 5, ground := Ground.phase }, { on := 6, ground := Ground.phase }], guard := none }
def l8_ops : Array Oper := #[l8_o0, l8_o1, l8_o2, l8_o3, l8_o4, l8_o5, l8_o6, l8_o7]
def l8_V (hb : Nat) (T A B : Int) (x2 : Bool) (x5 : Bool) : List (Bool × Value) := [(true, .pointer (some ⟨hb, 2, none⟩)), (true, .int .i64 T), (true, .bool x2), (true, .pointer (some ⟨hb, 2, none⟩)), (true, .int .i64 T), (true, .bool x5), (true, .bool x2), (true, .bool x5)]
section
set_option maxRecDepth 100000
set_option maxHeartbeats 1000000
variable {hb : Nat} {T A B : Int} {x2 : Bool} {x5 : Bool} {Q : Exit → Act → World → Prop} {a0 : Act} {W0 : World}
theorem l8_s0 (A11 : a0.tmps[11]? = some (.pointer (some ⟨hb, 0, none⟩))) : StepOk Tryz.prog l8_ops Q a0 (qI W0) (qV (l8_V hb T A B x2 x5)) 0 := by
  refine stepP l8_o0 (by kernel_rfl) rfl rfl ?_
  intro a w ho hI hp hB K hK
  have t11 := (ho 11 (by kernel_rfl)).trans A11
  have e11 := eval_slot t11
  clear ho hp
  unfold l8_o0
  go_simp
  exact hK _ _ hI rfl
theorem l8_s1 (X : W0.heap[hb]? = some (.cells #[.int .i64 0, .int .i64 4, .int .i64 T, .int .i64 0, .int .i64 0, .int .i64 0, .bool false, .int .i64 A, .int .i64 B, .slice none 0 0, .slice none 0 0, .int .i64 0, .int .i64 0, .slice none 0 0, .slice none 0 0, .bool false, .slice none 0 0, .int .i64 26, .bool false, .int .i64 0, .int .i64 0] 26 (0, 0))) : StepOk Tryz.prog l8_ops Q a0 (qI W0) (qV (l8_V hb T A B x2 x5)) 1 := by
  refine stepP l8_o1 (by kernel_rfl) rfl rfl ?_
  intro a w ho hI hp hB K hK
  have t37 : a.tmps[37]? = some (.pointer (some ⟨hb, 2, none⟩)) := qt (hp 0 37 (by kernel_rfl)) _ rfl rfl
  have e37 := eval_slot t37
  clear ho hp
  have c0 := qcell hI X 2 (.int .i64 T) rfl
  unfold l8_o1
  go_simp
  exact hK _ _ hI rfl
theorem l8_s2 (hx : x2 = (decide (T < 2))) : StepOk Tryz.prog l8_ops Q a0 (qI W0) (qV (l8_V hb T A B x2 x5)) 2 := by
  refine stepP l8_o2 (by kernel_rfl) rfl rfl ?_
  intro a w ho hI hp hB K hK
  have t38 : a.tmps[38]? = some (.int .i64 T) := qt (hp 1 38 (by kernel_rfl)) _ rfl rfl
  have e38 := eval_slot t38
  clear ho hp
  unfold l8_o2
  go_simp
  exact hK _ _ hI (congrArg (Value.bool) hx.symm)
theorem l8_s3 (A11 : a0.tmps[11]? = some (.pointer (some ⟨hb, 0, none⟩))) : StepOk Tryz.prog l8_ops Q a0 (qI W0) (qV (l8_V hb T A B x2 x5)) 3 := by
  refine stepP l8_o3 (by kernel_rfl) rfl rfl ?_
  intro a w ho hI hp hB K hK
  have t11 := (ho 11 (by kernel_rfl)).trans A11
  have e11 := eval_slot t11
  clear ho hp
  unfold l8_o3
  go_simp
  exact hK _ _ hI rfl
theorem l8_s4 (X : W0.heap[hb]? = some (.cells #[.int .i64 0, .int .i64 4, .int .i64 T, .int .i64 0, .int .i64 0, .int .i64 0, .bool false, .int .i64 A, .int .i64 B, .slice none 0 0, .slice none 0 0, .int .i64 0, .int .i64 0, .slice none 0 0, .slice none 0 0, .bool false, .slice none 0 0, .int .i64 26, .bool false, .int .i64 0, .int .i64 0] 26 (0, 0))) : StepOk Tryz.prog l8_ops Q a0 (qI W0) (qV (l8_V hb T A B x2 x5)) 4 := by
  refine stepP l8_o4 (by kernel_rfl) rfl rfl ?_
  intro a w ho hI hp hB K hK
  have t40 : a.tmps[40]? = some (.pointer (some ⟨hb, 2, none⟩)) := qt (hp 3 40 (by kernel_rfl)) _ rfl rfl
  have e40 := eval_slot t40
  clear ho hp
  have c0 := qcell hI X 2 (.int .i64 T) rfl
  unfold l8_o4
  go_simp
  exact hK _ _ hI rfl
theorem l8_s5 (hx : x5 = (T == 1)) : StepOk Tryz.prog l8_ops Q a0 (qI W0) (qV (l8_V hb T A B x2 x5)) 5 := by
  refine stepP l8_o5 (by kernel_rfl) rfl rfl ?_
  intro a w ho hI hp hB K hK
  have t41 : a.tmps[41]? = some (.int .i64 T) := qt (hp 4 41 (by kernel_rfl)) _ rfl rfl
  have e41 := eval_slot t41
  clear ho hp
  unfold l8_o5
  go_simp
  exact hK _ _ hI (congrArg (Value.bool) hx.symm)
theorem l8_s6 : StepOk Tryz.prog l8_ops Q a0 (qI W0) (qV (l8_V hb T A B x2 x5)) 6 := by
  refine stepP l8_o6 (by kernel_rfl) rfl rfl ?_
  intro a w ho hI hp hB K hK
  have t39 : a.tmps[39]? = some (.bool x2) := qt (hp 2 39 (by kernel_rfl)) _ rfl rfl
  have e39 := eval_slot t39
  clear ho hp
  unfold l8_o6
  go_simp
  exact hK _ _ hI rfl
theorem l8_s7 : StepOk Tryz.prog l8_ops Q a0 (qI W0) (qV (l8_V hb T A B x2 x5)) 7 := by
  refine stepP l8_o7 (by kernel_rfl) rfl rfl ?_
  intro a w ho hI hp hB K hK
  have t42 : a.tmps[42]? = some (.bool x5) := qt (hp 5 42 (by kernel_rfl)) _ rfl rfl
  have e42 := eval_slot t42
  clear ho hp
  unfold l8_o7
  go_simp
  exact hK _ _ hI rfl
end
set_option maxRecDepth 100000 in
set_option maxHeartbeats 4000000 in
theorem l8_reg {Q : Exit → Act → World → Prop} {a : Act} {w : World} (hb : Nat) (T A B : Int) (X : w.heap[hb]? = some (.cells #[.int .i64 0, .int .i64 4, .int .i64 T, .int .i64 0, .int .i64 0, .int .i64 0, .bool false, .int .i64 A, .int .i64 B, .slice none 0 0, .slice none 0 0, .int .i64 0, .int .i64 0, .slice none 0 0, .slice none 0 0, .bool false, .slice none 0 0, .int .i64 26, .bool false, .int .i64 0, .int .i64 0] 26 (0, 0))) (hn : a.tmps.size = 101) (e11 : a.tmps[11]? = some (.pointer (some ⟨hb, 0, none⟩)))
    (hK : ∀ (w' : World), Below w.heap.size w w' → Q .normal (Act.put (Act.put (Act.put (Act.put (Act.put (Act.put (Act.put (Act.put a (some 37) (.pointer (some ⟨hb, 2, none⟩))) (some 38) (.int .i64 T)) (some 39) (.bool (decide (T < 2)))) (some 40) (.pointer (some ⟨hb, 2, none⟩))) (some 41) (.int .i64 T)) (some 42) (.bool (T == 1))) (some 12) (.bool (decide (T < 2)))) (some 13) (.bool (T == 1))) w') : (Code.region 8 l8_ops true).wp Tryz.prog Q a w := by
  refine wp_region_midst2 (ops := l8_ops) (qI w) (qV (l8_V hb T A B (decide (T < 2)) (T == 1))) (by kernel_rfl) (by rw [hn]; kernel_rfl) ((Below.refl _ _).drew) (fun i hi => ?_) (fun b wz M => ?_)
  · match i, hi with | 0, _ => exact l8_s0 e11 | 1, _ => exact l8_s1 X | 2, _ => exact l8_s2 rfl | 3, _ => exact l8_s3 e11 | 4, _ => exact l8_s4 X | 5, _ => exact l8_s5 rfl | 6, _ => exact l8_s6 | 7, _ => exact l8_s7 | k + 8, h => exact absurd h (by simp [l8_ops])
  · have e : b = (Act.put (Act.put (Act.put (Act.put (Act.put (Act.put (Act.put (Act.put a (some 37) (.pointer (some ⟨hb, 2, none⟩))) (some 38) (.int .i64 T)) (some 39) (.bool (decide (T < 2)))) (some 40) (.pointer (some ⟨hb, 2, none⟩))) (some 41) (.int .i64 T)) (some 42) (.bool (T == 1))) (some 12) (.bool (decide (T < 2)))) (some 13) (.bool (T == 1))) := by
      refine act_ext (by rw [M.defers]; simp only [put_defers]) (fun d => ?_)
      simp only [put_at, put_size, hn]
      by_cases k0 : d = 37
      · subst k0
        obtain ⟨v, t, g⟩ := M.get 0 37 (by kernel_rfl)
        have := g (true, .pointer (some ⟨hb, 2, none⟩)) rfl
        simp only at this
        rw [t, this]
        simp
      by_cases k1 : d = 38
      · subst k1
        obtain ⟨v, t, g⟩ := M.get 1 38 (by kernel_rfl)
        have := g (true, .int .i64 T) rfl
        simp only at this
        rw [t, this]
        simp
      by_cases k2 : d = 39
      · subst k2
        obtain ⟨v, t, g⟩ := M.get 2 39 (by kernel_rfl)
        have := g (true, .bool (decide (T < 2))) rfl
        simp only at this
        rw [t, this]
        simp
      by_cases k3 : d = 40
      · subst k3
        obtain ⟨v, t, g⟩ := M.get 3 40 (by kernel_rfl)
        have := g (true, .pointer (some ⟨hb, 2, none⟩)) rfl
        simp only at this
        rw [t, this]
        simp
      by_cases k4 : d = 41
      · subst k4
        obtain ⟨v, t, g⟩ := M.get 4 41 (by kernel_rfl)
        have := g (true, .int .i64 T) rfl
        simp only at this
        rw [t, this]
        simp
      by_cases k5 : d = 42
      · subst k5
        obtain ⟨v, t, g⟩ := M.get 5 42 (by kernel_rfl)
        have := g (true, .bool (T == 1)) rfl
        simp only at this
        rw [t, this]
        simp
      by_cases k6 : d = 12
      · subst k6
        obtain ⟨v, t, g⟩ := M.get 6 12 (by kernel_rfl)
        have := g (true, .bool (decide (T < 2))) rfl
        simp only at this
        rw [t, this]
        simp
      by_cases k7 : d = 13
      · subst k7
        obtain ⟨v, t, g⟩ := M.get 7 13 (by kernel_rfl)
        have := g (true, .bool (T == 1)) rfl
        simp only at this
        rw [t, this]
        simp
      have ho : outB l8_ops d = true := by
        simp [outB, l8_ops, l8_o0, l8_o1, l8_o2, l8_o3, l8_o4, l8_o5, l8_o6, l8_o7, Ne.symm k0, Ne.symm k1, Ne.symm k2, Ne.symm k3, Ne.symm k4, Ne.symm k5, Ne.symm k6, Ne.symm k7]
      rw [M.out d ho]
      rw [if_neg (Ne.symm k7), if_neg (Ne.symm k6), if_neg (Ne.symm k5), if_neg (Ne.symm k4), if_neg (Ne.symm k3), if_neg (Ne.symm k2), if_neg (Ne.symm k1), if_neg (Ne.symm k0)]
    rw [e]
    exact hK wz M.inv

def l9_o0 : Oper := { dst := some 43, op := Op.fieldAddr 26 (Operand.tmp 11) 2, type := 0, pos := "more.go:63", after := #[], guard := none }
def l9_o1 : Oper := { dst := some 44, op := Op.load 3 (Operand.tmp 43), type := 3, pos := "more.go:63", after := #[{ on := 0, ground := Ground.data }], guard := none }
def l9_o2 : Oper := { dst := some 45, op := Op.binOp BinOp.lss 3 (Operand.tmp 44) (Operand.const (Value.int IntKind.i64 3)) 3, type := 4, pos := "more.go:63", after := #[{ on := 1, ground := Ground.data }], guard := none }
def l9_o3 : Oper := { dst := some 46, op := Op.move (Operand.tmp 45), type := 4, pos := "more.go:63", after := #[{ on := 2, ground := Ground.data }], guard := none }
def l9_o4 : Oper := { dst := some 47, op := Op.fieldAddr 26 (Operand.tmp 11) 7, type := 0, pos := "more.go:63", after := #[{ on := 3, ground := Ground.guard }], guard := some (3, true) }
def l9_o5 : Oper := { dst := some 48, op := Op.load 3 (Operand.tmp 47), type := 3, pos := "more.go:63", after := #[{ on := 4, ground := Ground.data }, { on := 3, ground := Ground.guard }], guard := some (3, true) }
def l9_o6 : Oper := { dst := some 49, op := Op.binOp BinOp.gtr 3 (Operand.tmp 48) (Operand.const (Value.int IntKind.i64 0)) 3, type := 4, pos := "more.go:63", after := #[{ on := 5, ground := Ground.data }, { on := 3, ground := Ground.guard }], guard := some (3, true) }
def l9_o7 : Oper := { dst := some 50, op := Op.move (Operand.tmp 12), type := 4, pos := "more.go:63", after := #[{ on := 3, ground := Ground.guard }], guard := some (3, true) }
def l9_o8 : Oper := { dst := some 51, op := Op.binOp BinOp.eql 4 (Operand.tmp 49) (Operand.tmp 50) 4, type := 4, pos := "more.go:63", after := #[{ on := 6, ground := Ground.data }, { on := 7, ground := Ground.data }, { on := 3, ground := Ground.guard }], guard := some (3, true) }
def l9_o9 : Oper := { dst := some 52, op := Op.pick (Operand.tmp 46) (Operand.tmp 51) (Operand.const (Value.bool false)), type := 4, pos := "more.go:63", after := #[{ on := 3, ground := Ground.data }, { on := 8, ground := Ground.data }], guard := none }
def l9_o10 : Oper := { dst := some 53, op := Op.move (Operand.tmp 52), type := 4, pos := "more.go:63", after := #[{ on := 9, ground := Ground.data }, { on := 3, ground := Ground.chain }], guard := none }
def l9_o11 : Oper := { dst := some 54, op := Op.fieldAddr 26 (Operand.tmp 11) 8, type := 0, pos := "more.go:63", after := #[{ on := 10, ground := Ground.guard }], guard := some (10, true) }
def l9_o12 : Oper := { dst := some 55, op := Op.load 3 (Operand.tmp 54), type := 3, pos := "more.go:63", after := #[{ on := 11, ground := Ground.data }, { on := 10, ground := Ground.guard }], guard := some (10, true) }
def l9_o13 : Oper := { dst := some 56, op := Op.binOp BinOp.gtr 3 (Operand.tmp 55) (Operand.const (Value.int IntKind.i64 0)) 3, type := 4, pos := "more.go:63", after := #[{ on := 12, ground := Ground.data }, { on := 10, ground := Ground.guard }], guard := some (10, true) }
def l9_o14 : Oper := { dst := some 57, op := Op.move (Operand.tmp 13), type := 4, pos := "more.go:63", after := #[{ on := 10, ground := Ground.guard }], guard := some (10, true) }
def l9_o15 : Oper := { dst := some 58, op := Op.binOp BinOp.eql 4 (Operand.tmp 56) (Operand.tmp 57) 4, type := 4, pos := "more.go:63", after := #[{ on := 13, ground := Ground.data }, { on := 14, ground := Ground.data }, { on := 10, ground := Ground.guard }], guard := some (10, true) }
def l9_o16 : Oper := { dst := some 59, op := Op.pick (Operand.tmp 53) (Operand.tmp 58) (Operand.const (Value.bool false)), type := 4, pos := "more.go:63", after := #[{ on := 10, ground := Ground.data }, { on := 15, ground := Ground.data }], guard := none }
def l9_o17 : Oper := { dst := some 14, op := Op.assign (Operand.tmp 59), type := 4, pos := "more.go:63", after := #[{ on := 16, ground := Ground.data }, { on := 10, ground := Ground.chain }, { on := 0, ground := Ground.phase }, { on := 1, ground := Ground.phase }, { on := 2, ground := Ground.phase }, { on := 3, ground := Ground.phase }, { on := 4, ground := Ground.phase }, { on := 5, ground := Ground.phase }, { on := 6, ground := Ground.phase }, { on := 7, ground := Ground.phase }, { on := 8, ground := Ground.phase }, { on := 9, ground := Ground.phase }, { on := 10, ground := Ground.phase }, { on := 11, ground := Ground.phase }, { on := 12, ground := Ground.phase }, { on := 13, ground := Ground.phase }, { on := 14, ground := Ground.phase }, { on := 15, ground := Ground.phase }, { on := 16, ground := Ground.phase }], guard := none }
def l9_ops : Array Oper := #[l9_o0, l9_o1, l9_o2, l9_o3, l9_o4, l9_o5, l9_o6, l9_o7, l9_o8, l9_o9, l9_o10, l9_o11, l9_o12, l9_o13, l9_o14, l9_o15, l9_o16, l9_o17]
def l9_V (hb : Nat) (T A B : Int) (pb bb : Bool) (x2 : Bool) (x6 : Bool) (x8 : Bool) (x9 : Bool) (x13 : Bool) (x15 : Bool) (x16 : Bool) : List (Bool × Value) := [(true, .pointer (some ⟨hb, 2, none⟩)), (true, .int .i64 T), (true, .bool x2), (true, .bool x2), ((true && (x2 == true)), .pointer (some ⟨hb, 7, none⟩)), ((true && (x2 == true)), .int .i64 A), ((true && (x2 == true)), .bool x6), ((true && (x2 == true)), .bool pb), ((true && (x2 == true)), .bool x8), (true, .bool x9), (true, .bool x9), ((true && (x9 == true)), .pointer (some ⟨hb, 8, none⟩)), ((true && (x9 == true)), .int .i64 B), ((true && (x9 == true)), .bool x13), ((true && (x9 == true)), .bool bb), ((true && (x9 == true)), .bool x15), (true, .bool x16), (true, .bool x16)]
section
set_option maxRecDepth 100000
set_option maxHeartbeats 1000000
variable {hb : Nat} {T A B : Int} {pb bb : Bool} {x2 : Bool} {x6 : Bool} {x8 : Bool} {x9 : Bool} {x13 : Bool} {x15 : Bool} {x16 : Bool} {Q : Exit → Act → World → Prop} {a0 : Act} {W0 : World}
theorem l9_s0 (A11 : a0.tmps[11]? = some (.pointer (some ⟨hb, 0, none⟩))) : StepOk Tryz.prog l9_ops Q a0 (qI W0) (qV (l9_V hb T A B pb bb x2 x6 x8 x9 x13 x15 x16)) 0 := by
  refine stepP l9_o0 (by kernel_rfl) rfl rfl ?_
  intro a w ho hI hp hB K hK
  have t11 := (ho 11 (by kernel_rfl)).trans A11
  have e11 := eval_slot t11
  clear ho hp
  unfold l9_o0
  go_simp
  exact hK _ _ hI rfl
theorem l9_s1 (X : W0.heap[hb]? = some (.cells #[.int .i64 0, .int .i64 4, .int .i64 T, .int .i64 0, .int .i64 0, .int .i64 0, .bool false, .int .i64 A, .int .i64 B, .slice none 0 0, .slice none 0 0, .int .i64 0, .int .i64 0, .slice none 0 0, .slice none 0 0, .bool false, .slice none 0 0, .int .i64 26, .bool false, .int .i64 0, .int .i64 0] 26 (0, 0))) : StepOk Tryz.prog l9_ops Q a0 (qI W0) (qV (l9_V hb T A B pb bb x2 x6 x8 x9 x13 x15 x16)) 1 := by
  refine stepP l9_o1 (by kernel_rfl) rfl rfl ?_
  intro a w ho hI hp hB K hK
  have t43 : a.tmps[43]? = some (.pointer (some ⟨hb, 2, none⟩)) := qt (hp 0 43 (by kernel_rfl)) _ rfl rfl
  have e43 := eval_slot t43
  clear ho hp
  have c0 := qcell hI X 2 (.int .i64 T) rfl
  unfold l9_o1
  go_simp
  exact hK _ _ hI rfl
theorem l9_s2 (hx : x2 = (decide (T < 3))) : StepOk Tryz.prog l9_ops Q a0 (qI W0) (qV (l9_V hb T A B pb bb x2 x6 x8 x9 x13 x15 x16)) 2 := by
  refine stepP l9_o2 (by kernel_rfl) rfl rfl ?_
  intro a w ho hI hp hB K hK
  have t44 : a.tmps[44]? = some (.int .i64 T) := qt (hp 1 44 (by kernel_rfl)) _ rfl rfl
  have e44 := eval_slot t44
  clear ho hp
  unfold l9_o2
  go_simp
  exact hK _ _ hI (congrArg (Value.bool) hx.symm)
theorem l9_s3 : StepOk Tryz.prog l9_ops Q a0 (qI W0) (qV (l9_V hb T A B pb bb x2 x6 x8 x9 x13 x15 x16)) 3 := by
  refine stepP l9_o3 (by kernel_rfl) rfl rfl ?_
  intro a w ho hI hp hB K hK
  have t45 : a.tmps[45]? = some (.bool x2) := qt (hp 2 45 (by kernel_rfl)) _ rfl rfl
  have e45 := eval_slot t45
  clear ho hp
  unfold l9_o3
  go_simp
  exact hK _ _ hI rfl
theorem l9_s4 (A11 : a0.tmps[11]? = some (.pointer (some ⟨hb, 0, none⟩))) : StepOk Tryz.prog l9_ops Q a0 (qI W0) (qV (l9_V hb T A B pb bb x2 x6 x8 x9 x13 x15 x16)) 4 := by
  refine stepG l9_o4 3 46 (by kernel_rfl) rfl (by kernel_rfl) (by kernel_rfl) rfl rfl ?_
  intro a w ho hI hp hB K hK
  have t11 := (ho 11 (by kernel_rfl)).trans A11
  have e11 := eval_slot t11
  clear ho hp
  unfold l9_o4
  go_simp
  exact hK _ _ hI rfl
theorem l9_s5 (X : W0.heap[hb]? = some (.cells #[.int .i64 0, .int .i64 4, .int .i64 T, .int .i64 0, .int .i64 0, .int .i64 0, .bool false, .int .i64 A, .int .i64 B, .slice none 0 0, .slice none 0 0, .int .i64 0, .int .i64 0, .slice none 0 0, .slice none 0 0, .bool false, .slice none 0 0, .int .i64 26, .bool false, .int .i64 0, .int .i64 0] 26 (0, 0))) : StepOk Tryz.prog l9_ops Q a0 (qI W0) (qV (l9_V hb T A B pb bb x2 x6 x8 x9 x13 x15 x16)) 5 := by
  refine stepG l9_o5 3 46 (by kernel_rfl) rfl (by kernel_rfl) (by kernel_rfl) rfl rfl ?_
  intro a w ho hI hp hB K hK
  have t47 : a.tmps[47]? = some (.pointer (some ⟨hb, 7, none⟩)) := qt (hp 4 47 (by kernel_rfl)) _ rfl hB
  have e47 := eval_slot t47
  clear ho hp
  have c0 := qcell hI X 7 (.int .i64 A) rfl
  unfold l9_o5
  go_simp
  exact hK _ _ hI rfl
theorem l9_s6 (hx : x6 = (decide (A > 0))) : StepOk Tryz.prog l9_ops Q a0 (qI W0) (qV (l9_V hb T A B pb bb x2 x6 x8 x9 x13 x15 x16)) 6 := by
  refine stepG l9_o6 3 46 (by kernel_rfl) rfl (by kernel_rfl) (by kernel_rfl) rfl rfl ?_
  intro a w ho hI hp hB K hK
  have t48 : a.tmps[48]? = some (.int .i64 A) := qt (hp 5 48 (by kernel_rfl)) _ rfl hB
  have e48 := eval_slot t48
  clear ho hp
  unfold l9_o6
  go_simp
  exact hK _ _ hI (congrArg (Value.bool) hx.symm)
theorem l9_s7 (A12 : a0.tmps[12]? = some (.bool pb)) : StepOk Tryz.prog l9_ops Q a0 (qI W0) (qV (l9_V hb T A B pb bb x2 x6 x8 x9 x13 x15 x16)) 7 := by
  refine stepG l9_o7 3 46 (by kernel_rfl) rfl (by kernel_rfl) (by kernel_rfl) rfl rfl ?_
  intro a w ho hI hp hB K hK
  have t12 := (ho 12 (by kernel_rfl)).trans A12
  have e12 := eval_slot t12
  clear ho hp
  unfold l9_o7
  go_simp
  exact hK _ _ hI rfl
theorem l9_s8 (hx : x8 = (x6 == pb)) : StepOk Tryz.prog l9_ops Q a0 (qI W0) (qV (l9_V hb T A B pb bb x2 x6 x8 x9 x13 x15 x16)) 8 := by
  refine stepG l9_o8 3 46 (by kernel_rfl) rfl (by kernel_rfl) (by kernel_rfl) rfl rfl ?_
  intro a w ho hI hp hB K hK
  have t49 : a.tmps[49]? = some (.bool x6) := qt (hp 6 49 (by kernel_rfl)) _ rfl hB
  have e49 := eval_slot t49
  have t50 : a.tmps[50]? = some (.bool pb) := qt (hp 7 50 (by kernel_rfl)) _ rfl hB
  have e50 := eval_slot t50
  clear ho hp
  unfold l9_o8
  go_simp
  exact hK _ _ hI (congrArg (Value.bool) hx.symm)
theorem l9_s9 (hx : x9 = (x2 && x8)) : StepOk Tryz.prog l9_ops Q a0 (qI W0) (qV (l9_V hb T A B pb bb x2 x6 x8 x9 x13 x15 x16)) 9 := by
  refine stepP l9_o9 (by kernel_rfl) rfl rfl ?_
  intro a w ho hI hp hB K hK
  have t46 : a.tmps[46]? = some (.bool x2) := qt (hp 3 46 (by kernel_rfl)) _ rfl rfl
  have e46 := eval_slot t46
  clear ho
  cases hq : x2 with
  | false =>
    have hz := hx.trans (by rw [hq]; rfl : _ = false)
    clear hp
    rw [hq] at e46
    unfold l9_o9
    go_simp
    exact hK _ _ hI (congrArg Value.bool hz.symm)
  | true =>
    have hz := hx.trans (by rw [hq]; rfl : _ = x8)
    have t51 : a.tmps[51]? = some (.bool x8) := qt (hp 8 51 (by kernel_rfl)) _ rfl (by rw [hq]; rfl)
    have e51 := eval_slot t51
    clear hp
    rw [hq] at e46
    unfold l9_o9
    go_simp
    exact hK _ _ hI (congrArg Value.bool hz.symm)
theorem l9_s10 : StepOk Tryz.prog l9_ops Q a0 (qI W0) (qV (l9_V hb T A B pb bb x2 x6 x8 x9 x13 x15 x16)) 10 := by
  refine stepP l9_o10 (by kernel_rfl) rfl rfl ?_
  intro a w ho hI hp hB K hK
  have t52 : a.tmps[52]? = some (.bool x9) := qt (hp 9 52 (by kernel_rfl)) _ rfl rfl
  have e52 := eval_slot t52
  clear ho hp
  unfold l9_o10
  go_simp
  exact hK _ _ hI rfl
theorem l9_s11 (A11 : a0.tmps[11]? = some (.pointer (some ⟨hb, 0, none⟩))) : StepOk Tryz.prog l9_ops Q a0 (qI W0) (qV (l9_V hb T A B pb bb x2 x6 x8 x9 x13 x15 x16)) 11 := by
  refine stepG l9_o11 10 53 (by kernel_rfl) rfl (by kernel_rfl) (by kernel_rfl) rfl rfl ?_
  intro a w ho hI hp hB K hK
  have t11 := (ho 11 (by kernel_rfl)).trans A11
  have e11 := eval_slot t11
  clear ho hp
  unfold l9_o11
  go_simp
  exact hK _ _ hI rfl
theorem l9_s12 (X : W0.heap[hb]? = some (.cells #[.int .i64 0, .int .i64 4, .int .i64 T, .int .i64 0, .int .i64 0, .int .i64 0, .bool false, .int .i64 A, .int .i64 B, .slice none 0 0, .slice none 0 0, .int .i64 0, .int .i64 0, .slice none 0 0, .slice none 0 0, .bool false, .slice none 0 0, .int .i64 26, .bool false, .int .i64 0, .int .i64 0] 26 (0, 0))) : StepOk Tryz.prog l9_ops Q a0 (qI W0) (qV (l9_V hb T A B pb bb x2 x6 x8 x9 x13 x15 x16)) 12 := by
  refine stepG l9_o12 10 53 (by kernel_rfl) rfl (by kernel_rfl) (by kernel_rfl) rfl rfl ?_
  intro a w ho hI hp hB K hK
  have t54 : a.tmps[54]? = some (.pointer (some ⟨hb, 8, none⟩)) := qt (hp 11 54 (by kernel_rfl)) _ rfl hB
  have e54 := eval_slot t54
  clear ho hp
  have c0 := qcell hI X 8 (.int .i64 B) rfl
  unfold l9_o12
  go_simp
  exact hK _ _ hI rfl
theorem l9_s13 (hx : x13 = (decide (B > 0))) : StepOk Tryz.prog l9_ops Q a0 (qI W0) (qV (l9_V hb T A B pb bb x2 x6 x8 x9 x13 x15 x16)) 13 := by
  refine stepG l9_o13 10 53 (by kernel_rfl) rfl (by kernel_rfl) (by kernel_rfl) rfl rfl ?_
  intro a w ho hI hp hB K hK
  have t55 : a.tmps[55]? = some (.int .i64 B) := qt (hp 12 55 (by kernel_rfl)) _ rfl hB
  have e55 := eval_slot t55
  clear ho hp
  unfold l9_o13
  go_simp
  exact hK _ _ hI (congrArg (Value.bool) hx.symm)
theorem l9_s14 (A13 : a0.tmps[13]? = some (.bool bb)) : StepOk Tryz.prog l9_ops Q a0 (qI W0) (qV (l9_V hb T A B pb bb x2 x6 x8 x9 x13 x15 x16)) 14 := by
  refine stepG l9_o14 10 53 (by kernel_rfl) rfl (by kernel_rfl) (by kernel_rfl) rfl rfl ?_
  intro a w ho hI hp hB K hK
  have t13 := (ho 13 (by kernel_rfl)).trans A13
  have e13 := eval_slot t13
  clear ho hp
  unfold l9_o14
  go_simp
  exact hK _ _ hI rfl
theorem l9_s15 (hx : x15 = (x13 == bb)) : StepOk Tryz.prog l9_ops Q a0 (qI W0) (qV (l9_V hb T A B pb bb x2 x6 x8 x9 x13 x15 x16)) 15 := by
  refine stepG l9_o15 10 53 (by kernel_rfl) rfl (by kernel_rfl) (by kernel_rfl) rfl rfl ?_
  intro a w ho hI hp hB K hK
  have t56 : a.tmps[56]? = some (.bool x13) := qt (hp 13 56 (by kernel_rfl)) _ rfl hB
  have e56 := eval_slot t56
  have t57 : a.tmps[57]? = some (.bool bb) := qt (hp 14 57 (by kernel_rfl)) _ rfl hB
  have e57 := eval_slot t57
  clear ho hp
  unfold l9_o15
  go_simp
  exact hK _ _ hI (congrArg (Value.bool) hx.symm)
theorem l9_s16 (hx : x16 = (x9 && x15)) : StepOk Tryz.prog l9_ops Q a0 (qI W0) (qV (l9_V hb T A B pb bb x2 x6 x8 x9 x13 x15 x16)) 16 := by
  refine stepP l9_o16 (by kernel_rfl) rfl rfl ?_
  intro a w ho hI hp hB K hK
  have t53 : a.tmps[53]? = some (.bool x9) := qt (hp 10 53 (by kernel_rfl)) _ rfl rfl
  have e53 := eval_slot t53
  clear ho
  cases hq : x9 with
  | false =>
    have hz := hx.trans (by rw [hq]; rfl : _ = false)
    clear hp
    rw [hq] at e53
    unfold l9_o16
    go_simp
    exact hK _ _ hI (congrArg Value.bool hz.symm)
  | true =>
    have hz := hx.trans (by rw [hq]; rfl : _ = x15)
    have t58 : a.tmps[58]? = some (.bool x15) := qt (hp 15 58 (by kernel_rfl)) _ rfl (by rw [hq]; rfl)
    have e58 := eval_slot t58
    clear hp
    rw [hq] at e53
    unfold l9_o16
    go_simp
    exact hK _ _ hI (congrArg Value.bool hz.symm)
theorem l9_s17 : StepOk Tryz.prog l9_ops Q a0 (qI W0) (qV (l9_V hb T A B pb bb x2 x6 x8 x9 x13 x15 x16)) 17 := by
  refine stepP l9_o17 (by kernel_rfl) rfl rfl ?_
  intro a w ho hI hp hB K hK
  have t59 : a.tmps[59]? = some (.bool x16) := qt (hp 16 59 (by kernel_rfl)) _ rfl rfl
  have e59 := eval_slot t59
  clear ho hp
  unfold l9_o17
  go_simp
  exact hK _ _ hI rfl
end
set_option maxRecDepth 100000 in
set_option maxHeartbeats 4000000 in
theorem l9_reg {Q : Exit → Act → World → Prop} {a : Act} {w : World} (hb : Nat) (T A B : Int) (pb bb : Bool) (X : w.heap[hb]? = some (.cells #[.int .i64 0, .int .i64 4, .int .i64 T, .int .i64 0, .int .i64 0, .int .i64 0, .bool false, .int .i64 A, .int .i64 B, .slice none 0 0, .slice none 0 0, .int .i64 0, .int .i64 0, .slice none 0 0, .slice none 0 0, .bool false, .slice none 0 0, .int .i64 26, .bool false, .int .i64 0, .int .i64 0] 26 (0, 0))) (hn : a.tmps.size = 101) (e11 : a.tmps[11]? = some (.pointer (some ⟨hb, 0, none⟩))) (e12 : a.tmps[12]? = some (.bool pb)) (e13 : a.tmps[13]? = some (.bool bb))
    (hK : ∀ (w' : World) (u4 u5 u6 u7 u8 u11 u12 u13 u14 u15 : Value), Below w.heap.size w w' → Q .normal (Act.put (Act.put (Act.put (Act.put (Act.put (Act.put (Act.put (Act.put (Act.put (Act.put (Act.put (Act.put (Act.put (Act.put (Act.put (Act.put (Act.put (Act.put a (some 43) (.pointer (some ⟨hb, 2, none⟩))) (some 44) (.int .i64 T)) (some 45) (.bool (decide (T < 3)))) (some 46) (.bool (decide (T < 3)))) (some 47) (u4)) (some 48) (u5)) (some 49) (u6)) (some 50) (u7)) (some 51) (u8)) (some 52) (.bool (decide (T < 3) && (decide (A > 0) == pb)))) (some 53) (.bool (decide (T < 3) && (decide (A > 0) == pb)))) (some 54) (u11)) (some 55) (u12)) (some 56) (u13)) (some 57) (u14)) (some 58) (u15)) (some 59) (.bool ((decide (T < 3) && (decide (A > 0) == pb)) && (decide (B > 0) == bb)))) (some 14) (.bool ((decide (T < 3) && (decide (A > 0) == pb)) && (decide (B > 0) == bb)))) w') : (Code.region 9 l9_ops false).wp Tryz.prog Q a w := by
  refine wp_region_row (ops := l9_ops) (qI w) (qV (l9_V hb T A B pb bb (decide (T < 3)) (decide (A > 0)) (decide (A > 0) == pb) (decide (T < 3) && (decide (A > 0) == pb)) (decide (B > 0)) (decide (B > 0) == bb) ((decide (T < 3) && (decide (A > 0) == pb)) && (decide (B > 0) == bb)))) (by rw [hn]; kernel_rfl) ((Below.refl _ _)) (fun i hi => ?_) (fun b wz M => ?_)
  · match i, hi with | 0, _ => exact l9_s0 e11 | 1, _ => exact l9_s1 X | 2, _ => exact l9_s2 rfl | 3, _ => exact l9_s3 | 4, _ => exact l9_s4 e11 | 5, _ => exact l9_s5 X | 6, _ => exact l9_s6 rfl | 7, _ => exact l9_s7 e12 | 8, _ => exact l9_s8 rfl | 9, _ => exact l9_s9 rfl | 10, _ => exact l9_s10 | 11, _ => exact l9_s11 e11 | 12, _ => exact l9_s12 X | 13, _ => exact l9_s13 rfl | 14, _ => exact l9_s14 e13 | 15, _ => exact l9_s15 rfl | 16, _ => exact l9_s16 rfl | 17, _ => exact l9_s17 | k + 18, h => exact absurd h (by simp [l9_ops])
  · have e : b = (Act.put (Act.put (Act.put (Act.put (Act.put (Act.put (Act.put (Act.put (Act.put (Act.put (Act.put (Act.put (Act.put (Act.put (Act.put (Act.put (Act.put (Act.put a (some 43) (.pointer (some ⟨hb, 2, none⟩))) (some 44) (.int .i64 T)) (some 45) (.bool (decide (T < 3)))) (some 46) (.bool (decide (T < 3)))) (some 47) (if (true && ((decide (T < 3)) == true)) = true then .pointer (some ⟨hb, 7, none⟩) else undef)) (some 48) (if (true && ((decide (T < 3)) == true)) = true then .int .i64 A else undef)) (some 49) (if (true && ((decide (T < 3)) == true)) = true then .bool (decide (A > 0)) else undef)) (some 50) (if (true && ((decide (T < 3)) == true)) = true then .bool pb else undef)) (some 51) (if (true && ((decide (T < 3)) == true)) = true then .bool (decide (A > 0) == pb) else undef)) (some 52) (.bool (decide (T < 3) && (decide (A > 0) == pb)))) (some 53) (.bool (decide (T < 3) && (decide (A > 0) == pb)))) (some 54) (if (true && ((decide (T < 3) && (decide (A > 0) == pb)) == true)) = true then .pointer (some ⟨hb, 8, none⟩) else undef)) (some 55) (if (true && ((decide (T < 3) && (decide (A > 0) == pb)) == true)) = true then .int .i64 B else undef)) (some 56) (if (true && ((decide (T < 3) && (decide (A > 0) == pb)) == true)) = true then .bool (decide (B > 0)) else undef)) (some 57) (if (true && ((decide (T < 3) && (decide (A > 0) == pb)) == true)) = true then .bool bb else undef)) (some 58) (if (true && ((decide (T < 3) && (decide (A > 0) == pb)) == true)) = true then .bool (decide (B > 0) == bb) else undef)) (some 59) (.bool ((decide (T < 3) && (decide (A > 0) == pb)) && (decide (B > 0) == bb)))) (some 14) (.bool ((decide (T < 3) && (decide (A > 0) == pb)) && (decide (B > 0) == bb)))) := by
      refine act_ext (by rw [M.defers]; simp only [put_defers]) (fun d => ?_)
      simp only [put_at, put_size, hn]
      by_cases k0 : d = 43
      · subst k0
        obtain ⟨v, t, g⟩ := M.get 0 43 (by kernel_rfl)
        have := g (true, .pointer (some ⟨hb, 2, none⟩)) rfl
        simp only at this
        rw [t, this]
        simp
      by_cases k1 : d = 44
      · subst k1
        obtain ⟨v, t, g⟩ := M.get 1 44 (by kernel_rfl)
        have := g (true, .int .i64 T) rfl
        simp only at this
        rw [t, this]
        simp
      by_cases k2 : d = 45
      · subst k2
        obtain ⟨v, t, g⟩ := M.get 2 45 (by kernel_rfl)
        have := g (true, .bool (decide (T < 3))) rfl
        simp only at this
        rw [t, this]
        simp
      by_cases k3 : d = 46
      · subst k3
        obtain ⟨v, t, g⟩ := M.get 3 46 (by kernel_rfl)
        have := g (true, .bool (decide (T < 3))) rfl
        simp only at this
        rw [t, this]
        simp
      by_cases k4 : d = 47
      · subst k4
        obtain ⟨v, t, g⟩ := M.get 4 47 (by kernel_rfl)
        have := g ((true && ((decide (T < 3)) == true)), .pointer (some ⟨hb, 7, none⟩)) rfl
        simp only at this
        rw [t, this]
        simp
      by_cases k5 : d = 48
      · subst k5
        obtain ⟨v, t, g⟩ := M.get 5 48 (by kernel_rfl)
        have := g ((true && ((decide (T < 3)) == true)), .int .i64 A) rfl
        simp only at this
        rw [t, this]
        simp
      by_cases k6 : d = 49
      · subst k6
        obtain ⟨v, t, g⟩ := M.get 6 49 (by kernel_rfl)
        have := g ((true && ((decide (T < 3)) == true)), .bool (decide (A > 0))) rfl
        simp only at this
        rw [t, this]
        simp
      by_cases k7 : d = 50
      · subst k7
        obtain ⟨v, t, g⟩ := M.get 7 50 (by kernel_rfl)
        have := g ((true && ((decide (T < 3)) == true)), .bool pb) rfl
        simp only at this
        rw [t, this]
        simp
      by_cases k8 : d = 51
      · subst k8
        obtain ⟨v, t, g⟩ := M.get 8 51 (by kernel_rfl)
        have := g ((true && ((decide (T < 3)) == true)), .bool (decide (A > 0) == pb)) rfl
        simp only at this
        rw [t, this]
        simp
      by_cases k9 : d = 52
      · subst k9
        obtain ⟨v, t, g⟩ := M.get 9 52 (by kernel_rfl)
        have := g (true, .bool (decide (T < 3) && (decide (A > 0) == pb))) rfl
        simp only at this
        rw [t, this]
        simp
      by_cases k10 : d = 53
      · subst k10
        obtain ⟨v, t, g⟩ := M.get 10 53 (by kernel_rfl)
        have := g (true, .bool (decide (T < 3) && (decide (A > 0) == pb))) rfl
        simp only at this
        rw [t, this]
        simp
      by_cases k11 : d = 54
      · subst k11
        obtain ⟨v, t, g⟩ := M.get 11 54 (by kernel_rfl)
        have := g ((true && ((decide (T < 3) && (decide (A > 0) == pb)) == true)), .pointer (some ⟨hb, 8, none⟩)) rfl
        simp only at this
        rw [t, this]
        simp
      by_cases k12 : d = 55
      · subst k12
        obtain ⟨v, t, g⟩ := M.get 12 55 (by kernel_rfl)
        have := g ((true && ((decide (T < 3) && (decide (A > 0) == pb)) == true)), .int .i64 B) rfl
        simp only at this
        rw [t, this]
        simp
      by_cases k13 : d = 56
      · subst k13
        obtain ⟨v, t, g⟩ := M.get 13 56 (by kernel_rfl)
        have := g ((true && ((decide (T < 3) && (decide (A > 0) == pb)) == true)), .bool (decide (B > 0))) rfl
        simp only at this
        rw [t, this]
        simp
      by_cases k14 : d = 57
      · subst k14
        obtain ⟨v, t, g⟩ := M.get 14 57 (by kernel_rfl)
        have := g ((true && ((decide (T < 3) && (decide (A > 0) == pb)) == true)), .bool bb) rfl
        simp only at this
        rw [t, this]
        simp
      by_cases k15 : d = 58
      · subst k15
        obtain ⟨v, t, g⟩ := M.get 15 58 (by kernel_rfl)
        have := g ((true && ((decide (T < 3) && (decide (A > 0) == pb)) == true)), .bool (decide (B > 0) == bb)) rfl
        simp only at this
        rw [t, this]
        simp
      by_cases k16 : d = 59
      · subst k16
        obtain ⟨v, t, g⟩ := M.get 16 59 (by kernel_rfl)
        have := g (true, .bool ((decide (T < 3) && (decide (A > 0) == pb)) && (decide (B > 0) == bb))) rfl
        simp only at this
        rw [t, this]
        simp
      by_cases k17 : d = 14
      · subst k17
        obtain ⟨v, t, g⟩ := M.get 17 14 (by kernel_rfl)
        have := g (true, .bool ((decide (T < 3) && (decide (A > 0) == pb)) && (decide (B > 0) == bb))) rfl
        simp only at this
        rw [t, this]
        simp
      have ho : outB l9_ops d = true := by
        simp [outB, l9_ops, l9_o0, l9_o1, l9_o2, l9_o3, l9_o4, l9_o5, l9_o6, l9_o7, l9_o8, l9_o9, l9_o10, l9_o11, l9_o12, l9_o13, l9_o14, l9_o15, l9_o16, l9_o17, Ne.symm k0, Ne.symm k1, Ne.symm k2, Ne.symm k3, Ne.symm k4, Ne.symm k5, Ne.symm k6, Ne.symm k7, Ne.symm k8, Ne.symm k9, Ne.symm k10, Ne.symm k11, Ne.symm k12, Ne.symm k13, Ne.symm k14, Ne.symm k15, Ne.symm k16, Ne.symm k17]
      rw [M.out d ho]
      rw [if_neg (Ne.symm k17), if_neg (Ne.symm k16), if_neg (Ne.symm k15), if_neg (Ne.symm k14), if_neg (Ne.symm k13), if_neg (Ne.symm k12), if_neg (Ne.symm k11), if_neg (Ne.symm k10), if_neg (Ne.symm k9), if_neg (Ne.symm k8), if_neg (Ne.symm k7), if_neg (Ne.symm k6), if_neg (Ne.symm k5), if_neg (Ne.symm k4), if_neg (Ne.symm k3), if_neg (Ne.symm k2), if_neg (Ne.symm k1), if_neg (Ne.symm k0)]
    rw [e]
    exact hK wz _ _ _ _ _ _ _ _ _ _ M.inv

def l10_o0 : Oper := { dst := some 60, op := Op.move (Operand.tmp 3), type := 4, pos := "more.go:64", after := #[], guard := none }
def l10_o1 : Oper := { dst := some 61, op := Op.move (Operand.tmp 60), type := 4, pos := "more.go:64", after := #[{ on := 0, ground := Ground.data }], guard := none }
def l10_o2 : Oper := { dst := some 62, op := Op.fieldAddr 26 (Operand.tmp 11) 2, type := 0, pos := "more.go:64", after := #[{ on := 1, ground := Ground.guard }], guard := some (1, true) }
def l10_o3 : Oper := { dst := some 63, op := Op.load 3 (Operand.tmp 62), type := 3, pos := "more.go:64", after := #[{ on := 2, ground := Ground.data }, { on := 1, ground := Ground.guard }], guard := some (1, true) }
def l10_o4 : Oper := { dst := some 64, op := Op.binOp BinOp.eql 3 (Operand.tmp 63) (Operand.const (Value.int IntKind.i64 0)) 3, type := 4, pos := "more.go:64", after := #[{ on := 3, ground := Ground.data }, { on := 1, ground := Ground.guard }], guard := some (1, true) }
def l10_o5 : Oper := { dst := some 65, op := Op.pick (Operand.tmp 61) (Operand.tmp 64) (Operand.const (Value.bool false)), type := 4, pos := "more.go:64", after := #[{ on := 1, ground := Ground.data }, { on := 4, ground := Ground.data }], guard := none }
def l10_o6 : Oper := { dst := some 15, op := Op.assign (Operand.tmp 65), type := 4, pos := "more.go:64", after := #[{ on := 5, ground := Ground.data }, { on := 1, ground := Ground.chain }, { on := 0, ground := Ground.phase }, { on := 1, ground := Ground.phase }, { on := 2, ground := Ground.phase }, { on := 3, ground := Ground.phase }, { on := 4, ground := Ground.phase }, { on := 5, ground := Ground.phase }], guard := none }
def l10_ops : Array Oper := #[l10_o0, l10_o1, l10_o2, l10_o3, l10_o4, l10_o5, l10_o6]
def l10_V (hb : Nat) (T A B : Int) (wg : Bool) (x4 : Bool) (x5 : Bool) : List (Bool × Value) := [(true, .bool wg), (true, .bool wg), ((true && (wg == true)), .pointer (some ⟨hb, 2, none⟩)), ((true && (wg == true)), .int .i64 T), ((true && (wg == true)), .bool x4), (true, .bool x5), (true, .bool x5)]
section
set_option maxRecDepth 100000
set_option maxHeartbeats 1000000
variable {hb : Nat} {T A B : Int} {wg : Bool} {x4 : Bool} {x5 : Bool} {Q : Exit → Act → World → Prop} {a0 : Act} {W0 : World}
theorem l10_s0 (A3 : a0.tmps[3]? = some (.bool wg)) : StepOk Tryz.prog l10_ops Q a0 (qI W0) (qV (l10_V hb T A B wg x4 x5)) 0 := by
  refine stepP l10_o0 (by kernel_rfl) rfl rfl ?_
  intro a w ho hI hp hB K hK
  have t3 := (ho 3 (by kernel_rfl)).trans A3
  have e3 := eval_slot t3
  clear ho hp
  unfold l10_o0
  go_simp
  exact hK _ _ hI rfl
theorem l10_s1 : StepOk Tryz.prog l10_ops Q a0 (qI W0) (qV (l10_V hb T A B wg x4 x5)) 1 := by
  refine stepP l10_o1 (by kernel_rfl) rfl rfl ?_
  intro a w ho hI hp hB K hK
  have t60 : a.tmps[60]? = some (.bool wg) := qt (hp 0 60 (by kernel_rfl)) _ rfl rfl
  have e60 := eval_slot t60
  clear ho hp
  unfold l10_o1
  go_simp
  exact hK _ _ hI rfl
theorem l10_s2 (A11 : a0.tmps[11]? = some (.pointer (some ⟨hb, 0, none⟩))) : StepOk Tryz.prog l10_ops Q a0 (qI W0) (qV (l10_V hb T A B wg x4 x5)) 2 := by
  refine stepG l10_o2 1 61 (by kernel_rfl) rfl (by kernel_rfl) (by kernel_rfl) rfl rfl ?_
  intro a w ho hI hp hB K hK
  have t11 := (ho 11 (by kernel_rfl)).trans A11
  have e11 := eval_slot t11
  clear ho hp
  unfold l10_o2
  go_simp
  exact hK _ _ hI rfl
theorem l10_s3 (X : W0.heap[hb]? = some (.cells #[.int .i64 0, .int .i64 4, .int .i64 T, .int .i64 0, .int .i64 0, .int .i64 0, .bool false, .int .i64 A, .int .i64 B, .slice none 0 0, .slice none 0 0, .int .i64 0, .int .i64 0, .slice none 0 0, .slice none 0 0, .bool false, .slice none 0 0, .int .i64 26, .bool false, .int .i64 0, .int .i64 0] 26 (0, 0))) : StepOk Tryz.prog l10_ops Q a0 (qI W0) (qV (l10_V hb T A B wg x4 x5)) 3 := by
  refine stepG l10_o3 1 61 (by kernel_rfl) rfl (by kernel_rfl) (by kernel_rfl) rfl rfl ?_
  intro a w ho hI hp hB K hK
  have t62 : a.tmps[62]? = some (.pointer (some ⟨hb, 2, none⟩)) := qt (hp 2 62 (by kernel_rfl)) _ rfl hB
  have e62 := eval_slot t62
  clear ho hp
  have c0 := qcell hI X 2 (.int .i64 T) rfl
  unfold l10_o3
  go_simp
  exact hK _ _ hI rfl
theorem l10_s4 (hx : x4 = (T == 0)) : StepOk Tryz.prog l10_ops Q a0 (qI W0) (qV (l10_V hb T A B wg x4 x5)) 4 := by
  refine stepG l10_o4 1 61 (by kernel_rfl) rfl (by kernel_rfl) (by kernel_rfl) rfl rfl ?_
  intro a w ho hI hp hB K hK
  have t63 : a.tmps[63]? = some (.int .i64 T) := qt (hp 3 63 (by kernel_rfl)) _ rfl hB
  have e63 := eval_slot t63
  clear ho hp
  unfold l10_o4
  go_simp
  exact hK _ _ hI (congrArg (Value.bool) hx.symm)
theorem l10_s5 (hx : x5 = (wg && x4)) : StepOk Tryz.prog l10_ops Q a0 (qI W0) (qV (l10_V hb T A B wg x4 x5)) 5 := by
  refine stepP l10_o5 (by kernel_rfl) rfl rfl ?_
  intro a w ho hI hp hB K hK
  have t61 : a.tmps[61]? = some (.bool wg) := qt (hp 1 61 (by kernel_rfl)) _ rfl rfl
  have e61 := eval_slot t61
  clear ho
  cases hq : wg with
  | false =>
    have hz := hx.trans (by rw [hq]; rfl : _ = false)
    clear hp
    rw [hq] at e61
    unfold l10_o5
    go_simp
    exact hK _ _ hI (congrArg Value.bool hz.symm)
  | true =>
    have hz := hx.trans (by rw [hq]; rfl : _ = x4)
    have t64 : a.tmps[64]? = some (.bool x4) := qt (hp 4 64 (by kernel_rfl)) _ rfl (by rw [hq]; rfl)
    have e64 := eval_slot t64
    clear hp
    rw [hq] at e61
    unfold l10_o5
    go_simp
    exact hK _ _ hI (congrArg Value.bool hz.symm)
theorem l10_s6 : StepOk Tryz.prog l10_ops Q a0 (qI W0) (qV (l10_V hb T A B wg x4 x5)) 6 := by
  refine stepP l10_o6 (by kernel_rfl) rfl rfl ?_
  intro a w ho hI hp hB K hK
  have t65 : a.tmps[65]? = some (.bool x5) := qt (hp 5 65 (by kernel_rfl)) _ rfl rfl
  have e65 := eval_slot t65
  clear ho hp
  unfold l10_o6
  go_simp
  exact hK _ _ hI rfl
end
set_option maxRecDepth 100000 in
set_option maxHeartbeats 4000000 in
theorem l10_reg {Q : Exit → Act → World → Prop} {a : Act} {w : World} (hb : Nat) (T A B : Int) (wg : Bool) (X : w.heap[hb]? = some (.cells #[.int .i64 0, .int .i64 4, .int .i64 T, .int .i64 0, .int .i64 0, .int .i64 0, .bool false, .int .i64 A, .int .i64 B, .slice none 0 0, .slice none 0 0, .int .i64 0, .int .i64 0, .slice none 0 0, .slice none 0 0, .bool false, .slice none 0 0, .int .i64 26, .bool false, .int .i64 0, .int .i64 0] 26 (0, 0))) (hn : a.tmps.size = 101) (e3 : a.tmps[3]? = some (.bool wg)) (e11 : a.tmps[11]? = some (.pointer (some ⟨hb, 0, none⟩)))
    (hK : ∀ (w' : World) (u2 u3 u4 : Value), Below w.heap.size w w' → Q .normal (Act.put (Act.put (Act.put (Act.put (Act.put (Act.put (Act.put a (some 60) (.bool wg)) (some 61) (.bool wg)) (some 62) (u2)) (some 63) (u3)) (some 64) (u4)) (some 65) (.bool (wg && (T == 0)))) (some 15) (.bool (wg && (T == 0)))) w') : (Code.region 10 l10_ops false).wp Tryz.prog Q a w := by
  refine wp_region_row (ops := l10_ops) (qI w) (qV (l10_V hb T A B wg (T == 0) (wg && (T == 0)))) (by rw [hn]; kernel_rfl) ((Below.refl _ _)) (fun i hi => ?_) (fun b wz M => ?_)
  · match i, hi with | 0, _ => exact l10_s0 e3 | 1, _ => exact l10_s1 | 2, _ => exact l10_s2 e11 | 3, _ => exact l10_s3 X | 4, _ => exact l10_s4 rfl | 5, _ => exact l10_s5 rfl | 6, _ => exact l10_s6 | k + 7, h => exact absurd h (by simp [l10_ops])
  · have e : b = (Act.put (Act.put (Act.put (Act.put (Act.put (Act.put (Act.put a (some 60) (.bool wg)) (some 61) (.bool wg)) (some 62) (if (true && (wg == true)) = true then .pointer (some ⟨hb, 2, none⟩) else undef)) (some 63) (if (true && (wg == true)) = true then .int .i64 T else undef)) (some 64) (if (true && (wg == true)) = true then .bool (T == 0) else undef)) (some 65) (.bool (wg && (T == 0)))) (some 15) (.bool (wg && (T == 0)))) := by
      refine act_ext (by rw [M.defers]; simp only [put_defers]) (fun d => ?_)
      simp only [put_at, put_size, hn]
      by_cases k0 : d = 60
      · subst k0
        obtain ⟨v, t, g⟩ := M.get 0 60 (by kernel_rfl)
        have := g (true, .bool wg) rfl
        simp only at this
        rw [t, this]
        simp
      by_cases k1 : d = 61
      · subst k1
        obtain ⟨v, t, g⟩ := M.get 1 61 (by kernel_rfl)
        have := g (true, .bool wg) rfl
        simp only at this
        rw [t, this]
        simp
      by_cases k2 : d = 62
      · subst k2
        obtain ⟨v, t, g⟩ := M.get 2 62 (by kernel_rfl)
        have := g ((true && (wg == true)), .pointer (some ⟨hb, 2, none⟩)) rfl
        simp only at this
        rw [t, this]
        simp
      by_cases k3 : d = 63
      · subst k3
        obtain ⟨v, t, g⟩ := M.get 3 63 (by kernel_rfl)
        have := g ((true && (wg == true)), .int .i64 T) rfl
        simp only at this
        rw [t, this]
        simp
      by_cases k4 : d = 64
      · subst k4
        obtain ⟨v, t, g⟩ := M.get 4 64 (by kernel_rfl)
        have := g ((true && (wg == true)), .bool (T == 0)) rfl
        simp only at this
        rw [t, this]
        simp
      by_cases k5 : d = 65
      · subst k5
        obtain ⟨v, t, g⟩ := M.get 5 65 (by kernel_rfl)
        have := g (true, .bool (wg && (T == 0))) rfl
        simp only at this
        rw [t, this]
        simp
      by_cases k6 : d = 15
      · subst k6
        obtain ⟨v, t, g⟩ := M.get 6 15 (by kernel_rfl)
        have := g (true, .bool (wg && (T == 0))) rfl
        simp only at this
        rw [t, this]
        simp
      have ho : outB l10_ops d = true := by
        simp [outB, l10_ops, l10_o0, l10_o1, l10_o2, l10_o3, l10_o4, l10_o5, l10_o6, Ne.symm k0, Ne.symm k1, Ne.symm k2, Ne.symm k3, Ne.symm k4, Ne.symm k5, Ne.symm k6]
      rw [M.out d ho]
      rw [if_neg (Ne.symm k6), if_neg (Ne.symm k5), if_neg (Ne.symm k4), if_neg (Ne.symm k3), if_neg (Ne.symm k2), if_neg (Ne.symm k1), if_neg (Ne.symm k0)]
    rw [e]
    exact hK wz _ _ _ M.inv

def l17_o0 : Oper := { dst := some 89, op := Op.move (Operand.tmp 16), type := 4, pos := "more.go:70", after := #[], guard := none }
def l17_o1 : Oper := { dst := some 90, op := Op.move (Operand.tmp 14), type := 4, pos := "more.go:70", after := #[], guard := none }
def l17_o2 : Oper := { dst := some 91, op := Op.move (Operand.tmp 90), type := 4, pos := "more.go:70", after := #[{ on := 1, ground := Ground.data }], guard := none }
def l17_o3 : Oper := { dst := some 92, op := Op.move (Operand.tmp 15), type := 4, pos := "more.go:70", after := #[{ on := 2, ground := Ground.guard }], guard := some (2, true) }
def l17_o4 : Oper := { dst := some 93, op := Op.unOp UnOp.not 4 (Operand.tmp 92), type := 4, pos := "more.go:70", after := #[{ on := 3, ground := Ground.data }, { on := 2, ground := Ground.guard }], guard := some (2, true) }
def l17_o5 : Oper := { dst := some 94, op := Op.pick (Operand.tmp 91) (Operand.tmp 93) (Operand.const (Value.bool false)), type := 4, pos := "more.go:70", after := #[{ on := 2, ground := Ground.data }, { on := 4, ground := Ground.data }], guard := none }
def l17_o6 : Oper := { dst := some 95, op := Op.binOp BinOp.eql 4 (Operand.tmp 89) (Operand.tmp 94) 4, type := 4, pos := "more.go:70", after := #[{ on := 0, ground := Ground.data }, { on := 5, ground := Ground.data }], guard := none }
def l17_o7 : Oper := { dst := some 96, op := Op.move (Operand.tmp 95), type := 4, pos := "more.go:70", after := #[{ on := 6, ground := Ground.data }, { on := 2, ground := Ground.chain }], guard := none }
def l17_o8 : Oper := { dst := some 97, op := Op.move (Operand.tmp 18), type := 4, pos := "more.go:70", after := #[{ on := 7, ground := Ground.guard }], guard := some (7, true) }
def l17_o9 : Oper := { dst := some 98, op := Op.move (Operand.tmp 14), type := 4, pos := "more.go:70", after := #[{ on := 7, ground := Ground.guard }], guard := some (7, true) }
def l17_o10 : Oper := { dst := some 99, op := Op.binOp BinOp.eql 4 (Operand.tmp 97) (Operand.tmp 98) 4, type := 4, pos := "more.go:70", after := #[{ on := 8, ground := Ground.data }, { on := 9, ground := Ground.data }, { on := 7, ground := Ground.guard }], guard := some (7, true) }
def l17_o11 : Oper := { dst := some 100, op := Op.pick (Operand.tmp 96) (Operand.tmp 99) (Operand.const (Value.bool false)), type := 4, pos := "more.go:70", after := #[{ on := 7, ground := Ground.data }, { on := 10, ground := Ground.data }], guard := none }
def l17_o12 : Oper := { dst := some 8, op := Op.assign (Operand.tmp 100), type := 4, pos := "more.go:70", after := #[{ on := 11, ground := Ground.data }, { on := 7, ground := Ground.chain }, { on := 0, ground := Ground.phase }, { on := 1, ground := Ground.phase }, { on := 2, ground := Ground.phase }, { on := 3, ground := Ground.phase }, { on := 4, ground := Ground.phase }, { on := 5, ground := Ground.phase }, { on := 6, ground := Ground.phase }, { on := 7, ground := Ground.phase }, { on := 8, ground := Ground.phase }, { on := 9, ground := Ground.phase }, { on := 10, ground := Ground.phase }, { on := 11, ground := Ground.phase }], guard := none }
def l17_ops : Array Oper := #[l17_o0, l17_o1, l17_o2, l17_o3, l17_o4, l17_o5, l17_o6, l17_o7, l17_o8, l17_o9, l17_o10, l17_o11, l17_o12]
def l17_V (fine need m1 m2 : Bool) (x4 : Bool) (x5 : Bool) (x6 : Bool) (x10 : Bool) (x11 : Bool) : List (Bool × Value) := [(true, .bool m1), (true, .bool fine), (true, .bool fine), ((true && (fine == true)), .bool need), ((true && (fine == true)), .bool x4), (true, .bool x5), (true, .bool x6), (true, .bool x6), ((true && (x6 == true)), .bool m2), ((true && (x6 == true)), .bool fine), ((true && (x6 == true)), .bool x10), (true, .bool x11), (true, .bool x11)]
section
set_option maxRecDepth 100000
set_option maxHeartbeats 1000000
variable {fine need m1 m2 : Bool} {x4 : Bool} {x5 : Bool} {x6 : Bool} {x10 : Bool} {x11 : Bool} {Q : Exit → Act → World → Prop} {a0 : Act} {W0 : World}
theorem l17_s0 (A16 : a0.tmps[16]? = some (.bool m1)) : StepOk Tryz.prog l17_ops Q a0 (qI W0) (qV (l17_V fine need m1 m2 x4 x5 x6 x10 x11)) 0 := by
  refine stepP l17_o0 (by kernel_rfl) rfl rfl ?_
  intro a w ho hI hp hB K hK
  have t16 := (ho 16 (by kernel_rfl)).trans A16
  have e16 := eval_slot t16
  clear ho hp
  unfold l17_o0
  go_simp
  exact hK _ _ hI rfl
theorem l17_s1 (A14 : a0.tmps[14]? = some (.bool fine)) : StepOk Tryz.prog l17_ops Q a0 (qI W0) (qV (l17_V fine need m1 m2 x4 x5 x6 x10 x11)) 1 := by
  refine stepP l17_o1 (by kernel_rfl) rfl rfl ?_
  intro a w ho hI hp hB K hK
  have t14 := (ho 14 (by kernel_rfl)).trans A14
  have e14 := eval_slot t14
  clear ho hp
  unfold l17_o1
  go_simp
  exact hK _ _ hI rfl
theorem l17_s2 : StepOk Tryz.prog l17_ops Q a0 (qI W0) (qV (l17_V fine need m1 m2 x4 x5 x6 x10 x11)) 2 := by
  refine stepP l17_o2 (by kernel_rfl) rfl rfl ?_
  intro a w ho hI hp hB K hK
  have t90 : a.tmps[90]? = some (.bool fine) := qt (hp 1 90 (by kernel_rfl)) _ rfl rfl
  have e90 := eval_slot t90
  clear ho hp
  unfold l17_o2
  go_simp
  exact hK _ _ hI rfl
theorem l17_s3 (A15 : a0.tmps[15]? = some (.bool need)) : StepOk Tryz.prog l17_ops Q a0 (qI W0) (qV (l17_V fine need m1 m2 x4 x5 x6 x10 x11)) 3 := by
  refine stepG l17_o3 2 91 (by kernel_rfl) rfl (by kernel_rfl) (by kernel_rfl) rfl rfl ?_
  intro a w ho hI hp hB K hK
  have t15 := (ho 15 (by kernel_rfl)).trans A15
  have e15 := eval_slot t15
  clear ho hp
  unfold l17_o3
  go_simp
  exact hK _ _ hI rfl
theorem l17_s4 (hx : x4 = (!need)) : StepOk Tryz.prog l17_ops Q a0 (qI W0) (qV (l17_V fine need m1 m2 x4 x5 x6 x10 x11)) 4 := by
  refine stepG l17_o4 2 91 (by kernel_rfl) rfl (by kernel_rfl) (by kernel_rfl) rfl rfl ?_
  intro a w ho hI hp hB K hK
  have t92 : a.tmps[92]? = some (.bool need) := qt (hp 3 92 (by kernel_rfl)) _ rfl hB
  have e92 := eval_slot t92
  clear ho hp
  unfold l17_o4
  go_simp
  exact hK _ _ hI (congrArg (Value.bool) hx.symm)
theorem l17_s5 (hx : x5 = (fine && x4)) : StepOk Tryz.prog l17_ops Q a0 (qI W0) (qV (l17_V fine need m1 m2 x4 x5 x6 x10 x11)) 5 := by
  refine stepP l17_o5 (by kernel_rfl) rfl rfl ?_
  intro a w ho hI hp hB K hK
  have t91 : a.tmps[91]? = some (.bool fine) := qt (hp 2 91 (by kernel_rfl)) _ rfl rfl
  have e91 := eval_slot t91
  clear ho
  cases hq : fine with
  | false =>
    have hz := hx.trans (by rw [hq]; rfl : _ = false)
    clear hp
    rw [hq] at e91
    unfold l17_o5
    go_simp
    exact hK _ _ hI (congrArg Value.bool hz.symm)
  | true =>
    have hz := hx.trans (by rw [hq]; rfl : _ = x4)
    have t93 : a.tmps[93]? = some (.bool x4) := qt (hp 4 93 (by kernel_rfl)) _ rfl (by rw [hq]; rfl)
    have e93 := eval_slot t93
    clear hp
    rw [hq] at e91
    unfold l17_o5
    go_simp
    exact hK _ _ hI (congrArg Value.bool hz.symm)
theorem l17_s6 (hx : x6 = (m1 == x5)) : StepOk Tryz.prog l17_ops Q a0 (qI W0) (qV (l17_V fine need m1 m2 x4 x5 x6 x10 x11)) 6 := by
  refine stepP l17_o6 (by kernel_rfl) rfl rfl ?_
  intro a w ho hI hp hB K hK
  have t89 : a.tmps[89]? = some (.bool m1) := qt (hp 0 89 (by kernel_rfl)) _ rfl rfl
  have e89 := eval_slot t89
  have t94 : a.tmps[94]? = some (.bool x5) := qt (hp 5 94 (by kernel_rfl)) _ rfl rfl
  have e94 := eval_slot t94
  clear ho hp
  unfold l17_o6
  go_simp
  exact hK _ _ hI (congrArg (Value.bool) hx.symm)
theorem l17_s7 : StepOk Tryz.prog l17_ops Q a0 (qI W0) (qV (l17_V fine need m1 m2 x4 x5 x6 x10 x11)) 7 := by
  refine stepP l17_o7 (by kernel_rfl) rfl rfl ?_
  intro a w ho hI hp hB K hK
  have t95 : a.tmps[95]? = some (.bool x6) := qt (hp 6 95 (by kernel_rfl)) _ rfl rfl
  have e95 := eval_slot t95
  clear ho hp
  unfold l17_o7
  go_simp
  exact hK _ _ hI rfl
theorem l17_s8 (A18 : a0.tmps[18]? = some (.bool m2)) : StepOk Tryz.prog l17_ops Q a0 (qI W0) (qV (l17_V fine need m1 m2 x4 x5 x6 x10 x11)) 8 := by
  refine stepG l17_o8 7 96 (by kernel_rfl) rfl (by kernel_rfl) (by kernel_rfl) rfl rfl ?_
  intro a w ho hI hp hB K hK
  have t18 := (ho 18 (by kernel_rfl)).trans A18
  have e18 := eval_slot t18
  clear ho hp
  unfold l17_o8
  go_simp
  exact hK _ _ hI rfl
theorem l17_s9 (A14 : a0.tmps[14]? = some (.bool fine)) : StepOk Tryz.prog l17_ops Q a0 (qI W0) (qV (l17_V fine need m1 m2 x4 x5 x6 x10 x11)) 9 := by
  refine stepG l17_o9 7 96 (by kernel_rfl) rfl (by kernel_rfl) (by kernel_rfl) rfl rfl ?_
  intro a w ho hI hp hB K hK
  have t14 := (ho 14 (by kernel_rfl)).trans A14
  have e14 := eval_slot t14
  clear ho hp
  unfold l17_o9
  go_simp
  exact hK _ _ hI rfl
theorem l17_s10 (hx : x10 = (m2 == fine)) : StepOk Tryz.prog l17_ops Q a0 (qI W0) (qV (l17_V fine need m1 m2 x4 x5 x6 x10 x11)) 10 := by
  refine stepG l17_o10 7 96 (by kernel_rfl) rfl (by kernel_rfl) (by kernel_rfl) rfl rfl ?_
  intro a w ho hI hp hB K hK
  have t97 : a.tmps[97]? = some (.bool m2) := qt (hp 8 97 (by kernel_rfl)) _ rfl hB
  have e97 := eval_slot t97
  have t98 : a.tmps[98]? = some (.bool fine) := qt (hp 9 98 (by kernel_rfl)) _ rfl hB
  have e98 := eval_slot t98
  clear ho hp
  unfold l17_o10
  go_simp
  exact hK _ _ hI (congrArg (Value.bool) hx.symm)
theorem l17_s11 (hx : x11 = (x6 && x10)) : StepOk Tryz.prog l17_ops Q a0 (qI W0) (qV (l17_V fine need m1 m2 x4 x5 x6 x10 x11)) 11 := by
  refine stepP l17_o11 (by kernel_rfl) rfl rfl ?_
  intro a w ho hI hp hB K hK
  have t96 : a.tmps[96]? = some (.bool x6) := qt (hp 7 96 (by kernel_rfl)) _ rfl rfl
  have e96 := eval_slot t96
  clear ho
  cases hq : x6 with
  | false =>
    have hz := hx.trans (by rw [hq]; rfl : _ = false)
    clear hp
    rw [hq] at e96
    unfold l17_o11
    go_simp
    exact hK _ _ hI (congrArg Value.bool hz.symm)
  | true =>
    have hz := hx.trans (by rw [hq]; rfl : _ = x10)
    have t99 : a.tmps[99]? = some (.bool x10) := qt (hp 10 99 (by kernel_rfl)) _ rfl (by rw [hq]; rfl)
    have e99 := eval_slot t99
    clear hp
    rw [hq] at e96
    unfold l17_o11
    go_simp
    exact hK _ _ hI (congrArg Value.bool hz.symm)
theorem l17_s12 : StepOk Tryz.prog l17_ops Q a0 (qI W0) (qV (l17_V fine need m1 m2 x4 x5 x6 x10 x11)) 12 := by
  refine stepP l17_o12 (by kernel_rfl) rfl rfl ?_
  intro a w ho hI hp hB K hK
  have t100 : a.tmps[100]? = some (.bool x11) := qt (hp 11 100 (by kernel_rfl)) _ rfl rfl
  have e100 := eval_slot t100
  clear ho hp
  unfold l17_o12
  go_simp
  exact hK _ _ hI rfl
end
set_option maxRecDepth 100000 in
set_option maxHeartbeats 4000000 in
theorem l17_reg {Q : Exit → Act → World → Prop} {a : Act} {w : World} (fine need m1 m2 : Bool) (hn : a.tmps.size = 101) (e14 : a.tmps[14]? = some (.bool fine)) (e15 : a.tmps[15]? = some (.bool need)) (e16 : a.tmps[16]? = some (.bool m1)) (e18 : a.tmps[18]? = some (.bool m2))
    (hK : ∀ (w' : World) (u3 u4 u8 u9 u10 : Value), Below w.heap.size w w' → Q .normal (Act.put (Act.put (Act.put (Act.put (Act.put (Act.put (Act.put (Act.put (Act.put (Act.put (Act.put (Act.put (Act.put a (some 89) (.bool m1)) (some 90) (.bool fine)) (some 91) (.bool fine)) (some 92) (u3)) (some 93) (u4)) (some 94) (.bool (fine && (!need)))) (some 95) (.bool (m1 == (fine && (!need))))) (some 96) (.bool (m1 == (fine && (!need))))) (some 97) (u8)) (some 98) (u9)) (some 99) (u10)) (some 100) (.bool ((m1 == (fine && (!need))) && (m2 == fine)))) (some 8) (.bool ((m1 == (fine && (!need))) && (m2 == fine)))) w') : (Code.region 17 l17_ops false).wp Tryz.prog Q a w := by
  refine wp_region_row (ops := l17_ops) (qI w) (qV (l17_V fine need m1 m2 (!need) (fine && (!need)) (m1 == (fine && (!need))) (m2 == fine) ((m1 == (fine && (!need))) && (m2 == fine)))) (by rw [hn]; kernel_rfl) ((Below.refl _ _)) (fun i hi => ?_) (fun b wz M => ?_)
  · match i, hi with | 0, _ => exact l17_s0 e16 | 1, _ => exact l17_s1 e14 | 2, _ => exact l17_s2 | 3, _ => exact l17_s3 e15 | 4, _ => exact l17_s4 rfl | 5, _ => exact l17_s5 rfl | 6, _ => exact l17_s6 rfl | 7, _ => exact l17_s7 | 8, _ => exact l17_s8 e18 | 9, _ => exact l17_s9 e14 | 10, _ => exact l17_s10 rfl | 11, _ => exact l17_s11 rfl | 12, _ => exact l17_s12 | k + 13, h => exact absurd h (by simp [l17_ops])
  · have e : b = (Act.put (Act.put (Act.put (Act.put (Act.put (Act.put (Act.put (Act.put (Act.put (Act.put (Act.put (Act.put (Act.put a (some 89) (.bool m1)) (some 90) (.bool fine)) (some 91) (.bool fine)) (some 92) (if (true && (fine == true)) = true then .bool need else undef)) (some 93) (if (true && (fine == true)) = true then .bool (!need) else undef)) (some 94) (.bool (fine && (!need)))) (some 95) (.bool (m1 == (fine && (!need))))) (some 96) (.bool (m1 == (fine && (!need))))) (some 97) (if (true && ((m1 == (fine && (!need))) == true)) = true then .bool m2 else undef)) (some 98) (if (true && ((m1 == (fine && (!need))) == true)) = true then .bool fine else undef)) (some 99) (if (true && ((m1 == (fine && (!need))) == true)) = true then .bool (m2 == fine) else undef)) (some 100) (.bool ((m1 == (fine && (!need))) && (m2 == fine)))) (some 8) (.bool ((m1 == (fine && (!need))) && (m2 == fine)))) := by
      refine act_ext (by rw [M.defers]; simp only [put_defers]) (fun d => ?_)
      simp only [put_at, put_size, hn]
      by_cases k0 : d = 89
      · subst k0
        obtain ⟨v, t, g⟩ := M.get 0 89 (by kernel_rfl)
        have := g (true, .bool m1) rfl
        simp only at this
        rw [t, this]
        simp
      by_cases k1 : d = 90
      · subst k1
        obtain ⟨v, t, g⟩ := M.get 1 90 (by kernel_rfl)
        have := g (true, .bool fine) rfl
        simp only at this
        rw [t, this]
        simp
      by_cases k2 : d = 91
      · subst k2
        obtain ⟨v, t, g⟩ := M.get 2 91 (by kernel_rfl)
        have := g (true, .bool fine) rfl
        simp only at this
        rw [t, this]
        simp
      by_cases k3 : d = 92
      · subst k3
        obtain ⟨v, t, g⟩ := M.get 3 92 (by kernel_rfl)
        have := g ((true && (fine == true)), .bool need) rfl
        simp only at this
        rw [t, this]
        simp
      by_cases k4 : d = 93
      · subst k4
        obtain ⟨v, t, g⟩ := M.get 4 93 (by kernel_rfl)
        have := g ((true && (fine == true)), .bool (!need)) rfl
        simp only at this
        rw [t, this]
        simp
      by_cases k5 : d = 94
      · subst k5
        obtain ⟨v, t, g⟩ := M.get 5 94 (by kernel_rfl)
        have := g (true, .bool (fine && (!need))) rfl
        simp only at this
        rw [t, this]
        simp
      by_cases k6 : d = 95
      · subst k6
        obtain ⟨v, t, g⟩ := M.get 6 95 (by kernel_rfl)
        have := g (true, .bool (m1 == (fine && (!need)))) rfl
        simp only at this
        rw [t, this]
        simp
      by_cases k7 : d = 96
      · subst k7
        obtain ⟨v, t, g⟩ := M.get 7 96 (by kernel_rfl)
        have := g (true, .bool (m1 == (fine && (!need)))) rfl
        simp only at this
        rw [t, this]
        simp
      by_cases k8 : d = 97
      · subst k8
        obtain ⟨v, t, g⟩ := M.get 8 97 (by kernel_rfl)
        have := g ((true && ((m1 == (fine && (!need))) == true)), .bool m2) rfl
        simp only at this
        rw [t, this]
        simp
      by_cases k9 : d = 98
      · subst k9
        obtain ⟨v, t, g⟩ := M.get 9 98 (by kernel_rfl)
        have := g ((true && ((m1 == (fine && (!need))) == true)), .bool fine) rfl
        simp only at this
        rw [t, this]
        simp
      by_cases k10 : d = 99
      · subst k10
        obtain ⟨v, t, g⟩ := M.get 10 99 (by kernel_rfl)
        have := g ((true && ((m1 == (fine && (!need))) == true)), .bool (m2 == fine)) rfl
        simp only at this
        rw [t, this]
        simp
      by_cases k11 : d = 100
      · subst k11
        obtain ⟨v, t, g⟩ := M.get 11 100 (by kernel_rfl)
        have := g (true, .bool ((m1 == (fine && (!need))) && (m2 == fine))) rfl
        simp only at this
        rw [t, this]
        simp
      by_cases k12 : d = 8
      · subst k12
        obtain ⟨v, t, g⟩ := M.get 12 8 (by kernel_rfl)
        have := g (true, .bool ((m1 == (fine && (!need))) && (m2 == fine))) rfl
        simp only at this
        rw [t, this]
        simp
      have ho : outB l17_ops d = true := by
        simp [outB, l17_ops, l17_o0, l17_o1, l17_o2, l17_o3, l17_o4, l17_o5, l17_o6, l17_o7, l17_o8, l17_o9, l17_o10, l17_o11, l17_o12, Ne.symm k0, Ne.symm k1, Ne.symm k2, Ne.symm k3, Ne.symm k4, Ne.symm k5, Ne.symm k6, Ne.symm k7, Ne.symm k8, Ne.symm k9, Ne.symm k10, Ne.symm k11, Ne.symm k12]
      rw [M.out d ho]
      rw [if_neg (Ne.symm k12), if_neg (Ne.symm k11), if_neg (Ne.symm k10), if_neg (Ne.symm k9), if_neg (Ne.symm k8), if_neg (Ne.symm k7), if_neg (Ne.symm k6), if_neg (Ne.symm k5), if_neg (Ne.symm k4), if_neg (Ne.symm k3), if_neg (Ne.symm k2), if_neg (Ne.symm k1), if_neg (Ne.symm k0)]
    rw [e]
    exact hK wz _ _ _ _ _ M.inv

end Go.Proofs.YthcbgijmnonckaaGreat
