/- Layer 4: the region of the walk over a header that asks whether it weighs, its order drawn. -/
import Derived.Test.YthcbgijmnonckaaGreatJM
import Derived.Test.YthcbgijmnonckaaGreatJA
namespace Go.Proofs.YthcbgijmnonckaaGreat
open Go.RowKit Zo Zp
set_option linter.unusedVariables false

def wg_o0 : Oper := { dst := some 68, op := Op.move (Operand.tmp 0), type := 89, pos := "walk.go:149", after := #[], guard := none }
def wg_o1 : Oper := { dst := some 69, op := Op.nilCheck (Operand.tmp 68), type := 0, pos := "walk.go:149", after := #[{ on := 0, ground := Ground.data }], guard := none }
def wg_o2 : Oper := { dst := some 70, op := Op.fieldAddr 95 (Operand.tmp 69) 0, type := 0, pos := "walk.go:149", after := #[{ on := 1, ground := Ground.data }], guard := none }
def wg_o3 : Oper := { dst := some 71, op := Op.load 87 (Operand.tmp 70), type := 87, pos := "walk.go:149", after := #[{ on := 2, ground := Ground.data }], guard := none }
def wg_o4 : Oper := { dst := some 72, op := Op.move (Operand.tmp 1), type := 97, pos := "walk.go:149", after := #[], guard := none }
def wg_o5 : Oper := { dst := some 73, op := Op.nilCheck (Operand.tmp 72), type := 0, pos := "walk.go:149", after := #[{ on := 4, ground := Ground.data }], guard := none }
def wg_o6 : Oper := { dst := some 74, op := Op.load 26 (Operand.tmp 73), type := 26, pos := "walk.go:149", after := #[{ on := 5, ground := Ground.data }], guard := none }
def wg_o7 : Oper := { dst := some 75, op := Op.call { callee := Callee.value (Operand.func 86), args := #[Operand.tmp 71, Operand.tmp 74], argTypes := #[87, 26] }, type := 4, pos := "walk.go:149", after := #[{ on := 3, ground := Ground.data }, { on := 6, ground := Ground.data }], guard := none }
def wg_ops : Array Oper := #[wg_o0, wg_o1, wg_o2, wg_o3, wg_o4, wg_o5, wg_o6, wg_o7]
def wg_V (hb : Nat) (C : Ctx) (c : Int) (h : HeadN) (A : Adr) (x7 : Bool) : List (Bool × Value) := [(true, .pointer (some ⟨C.kb, 0, none⟩)), (true, .pointer (some ⟨C.kb, 0, none⟩)), (true, .pointer (some ⟨C.kb, 0, none⟩)), (true, .agg #[.int .i64 C.s.wide, .int .i64 C.s.high, .int .i64 C.s.fbits, .int .i64 C.s.ptype, .int .i64 C.s.pbits, .int .i64 C.s.nonref, .slice C.sa C.s.cycle.length C.scap, .int .i64 C.s.refs, .int .i64 C.s.delay, .bool C.p.cabac, .bool C.p.weighted, .int .i64 C.p.bipred, .int .i64 C.p.qp, .int .i64 C.p.chroma, .bool C.p.constrained, .bool C.p.deblock, .int .i64 C.p.act0, .int .i64 C.p.act1, .int .i64 C.ref, .bool C.key]), (true, .pointer (some ⟨hb, 0, none⟩)), (true, .pointer (some ⟨hb, 0, none⟩)), (true, .agg #[.int .i64 h.first, .int .i64 h.count, .int .i64 h.type, .int .i64 h.fnum, .int .i64 h.id, .int .i64 h.poc, .bool h.spatial, .int .i64 h.act0, .int .i64 h.act1, .slice A.m0 h.mods0.length A.m0c, .slice A.m1 h.mods1.length A.m1c, .int .i64 h.log, .int .i64 h.logc, .slice A.q0 h.w0.length A.q0c, .slice A.q1 h.w1.length A.q1c, .bool h.longkey, .slice A.os h.ops.length A.osc, .int .i64 h.qp, .bool h.off, .int .i64 h.a, .int .i64 h.b]), (true, .bool x7)]
section
set_option maxRecDepth 100000
set_option maxHeartbeats 1000000
variable {hb : Nat} {C : Ctx} {c : Int} {h : HeadN} {A : Adr} {x7 : Bool} {Q : Exit → Act → World → Prop} {a0 : Act} {W0 : World}
theorem wg_s0 (A0 : a0.tmps[0]? = some (.pointer (some ⟨C.kb, 0, none⟩))) : StepOk Tryz.prog wg_ops Q a0 (qI W0) (qV (wg_V hb C c h A x7)) 0 := by
  refine stepP wg_o0 (by kernel_rfl) rfl rfl ?_
  intro a w ho hI hp hB K hK
  have t0 := (ho 0 (by kernel_rfl)).trans A0
  have e0 := eval_slot t0
  clear ho hp
  unfold wg_o0
  go_simp
  exact hK _ _ hI rfl
theorem wg_s1 : StepOk Tryz.prog wg_ops Q a0 (qI W0) (qV (wg_V hb C c h A x7)) 1 := by
  refine stepP wg_o1 (by kernel_rfl) rfl rfl ?_
  intro a w ho hI hp hB K hK
  have t68 : a.tmps[68]? = some (.pointer (some ⟨C.kb, 0, none⟩)) := qt (hp 0 68 (by kernel_rfl)) _ rfl rfl
  have e68 := eval_slot t68
  clear ho hp
  unfold wg_o1
  go_simp
  exact hK _ _ hI rfl
theorem wg_s2 : StepOk Tryz.prog wg_ops Q a0 (qI W0) (qV (wg_V hb C c h A x7)) 2 := by
  refine stepP wg_o2 (by kernel_rfl) rfl rfl ?_
  intro a w ho hI hp hB K hK
  have t69 : a.tmps[69]? = some (.pointer (some ⟨C.kb, 0, none⟩)) := qt (hp 1 69 (by kernel_rfl)) _ rfl rfl
  have e69 := eval_slot t69
  clear ho hp
  unfold wg_o2
  go_simp
  exact hK _ _ hI rfl
theorem wg_s3 (X : W0.heap[C.kb]? = some (.cells #[.int .i64 C.s.wide, .int .i64 C.s.high, .int .i64 C.s.fbits, .int .i64 C.s.ptype, .int .i64 C.s.pbits, .int .i64 C.s.nonref, .slice C.sa C.s.cycle.length C.scap, .int .i64 C.s.refs, .int .i64 C.s.delay, .bool C.p.cabac, .bool C.p.weighted, .int .i64 C.p.bipred, .int .i64 C.p.qp, .int .i64 C.p.chroma, .bool C.p.constrained, .bool C.p.deblock, .int .i64 C.p.act0, .int .i64 C.p.act1, .int .i64 C.ref, .bool C.key, C.wv, .int .i64 c] 95 (0, 0))) : StepOk Tryz.prog wg_ops Q a0 (qI W0) (qV (wg_V hb C c h A x7)) 3 := by
  refine stepP wg_o3 (by kernel_rfl) rfl rfl ?_
  intro a w ho hI hp hB K hK
  have t70 : a.tmps[70]? = some (.pointer (some ⟨C.kb, 0, none⟩)) := qt (hp 2 70 (by kernel_rfl)) _ rfl rfl
  have e70 := eval_slot t70
  clear ho hp
  refine wp_load_mid (P := Tryz.prog) 87 (.tmp 70) rfl C.kb 0 e70 [.int .i64 C.s.wide, .int .i64 C.s.high, .int .i64 C.s.fbits, .int .i64 C.s.ptype, .int .i64 C.s.pbits, .int .i64 C.s.nonref, .slice C.sa C.s.cycle.length C.scap, .int .i64 C.s.refs, .int .i64 C.s.delay, .bool C.p.cabac, .bool C.p.weighted, .int .i64 C.p.bipred, .int .i64 C.p.qp, .int .i64 C.p.chroma, .bool C.p.constrained, .bool C.p.deblock, .int .i64 C.p.act0, .int .i64 C.p.act1, .int .i64 C.ref, .bool C.key] _ (fun j v hv => qcell hI X (0 + j) v (by rw [Nat.zero_add]; exact unit_at (c := c) hv)) Tryz.underlying87 rfl (by kernel_rfl) ?_
  exact hK _ _ hI rfl
theorem wg_s4 (A1 : a0.tmps[1]? = some (.pointer (some ⟨hb, 0, none⟩))) : StepOk Tryz.prog wg_ops Q a0 (qI W0) (qV (wg_V hb C c h A x7)) 4 := by
  refine stepP wg_o4 (by kernel_rfl) rfl rfl ?_
  intro a w ho hI hp hB K hK
  have t1 := (ho 1 (by kernel_rfl)).trans A1
  have e1 := eval_slot t1
  clear ho hp
  unfold wg_o4
  go_simp
  exact hK _ _ hI rfl
theorem wg_s5 : StepOk Tryz.prog wg_ops Q a0 (qI W0) (qV (wg_V hb C c h A x7)) 5 := by
  refine stepP wg_o5 (by kernel_rfl) rfl rfl ?_
  intro a w ho hI hp hB K hK
  have t72 : a.tmps[72]? = some (.pointer (some ⟨hb, 0, none⟩)) := qt (hp 4 72 (by kernel_rfl)) _ rfl rfl
  have e72 := eval_slot t72
  clear ho hp
  unfold wg_o5
  go_simp
  exact hK _ _ hI rfl
theorem wg_s6 (Y : W0.heap[hb]? = some (.cells #[.int .i64 h.first, .int .i64 h.count, .int .i64 h.type, .int .i64 h.fnum, .int .i64 h.id, .int .i64 h.poc, .bool h.spatial, .int .i64 h.act0, .int .i64 h.act1, .slice A.m0 h.mods0.length A.m0c, .slice A.m1 h.mods1.length A.m1c, .int .i64 h.log, .int .i64 h.logc, .slice A.q0 h.w0.length A.q0c, .slice A.q1 h.w1.length A.q1c, .bool h.longkey, .slice A.os h.ops.length A.osc, .int .i64 h.qp, .bool h.off, .int .i64 h.a, .int .i64 h.b] 26 (0, 0))) : StepOk Tryz.prog wg_ops Q a0 (qI W0) (qV (wg_V hb C c h A x7)) 6 := by
  refine stepP wg_o6 (by kernel_rfl) rfl rfl ?_
  intro a w ho hI hp hB K hK
  have t73 : a.tmps[73]? = some (.pointer (some ⟨hb, 0, none⟩)) := qt (hp 5 73 (by kernel_rfl)) _ rfl rfl
  have e73 := eval_slot t73
  clear ho hp
  refine wp_load_mid (P := Tryz.prog) 26 (.tmp 73) rfl hb 0 e73 [.int .i64 h.first, .int .i64 h.count, .int .i64 h.type, .int .i64 h.fnum, .int .i64 h.id, .int .i64 h.poc, .bool h.spatial, .int .i64 h.act0, .int .i64 h.act1, .slice A.m0 h.mods0.length A.m0c, .slice A.m1 h.mods1.length A.m1c, .int .i64 h.log, .int .i64 h.logc, .slice A.q0 h.w0.length A.q0c, .slice A.q1 h.w1.length A.q1c, .bool h.longkey, .slice A.os h.ops.length A.osc, .int .i64 h.qp, .bool h.off, .int .i64 h.a, .int .i64 h.b] _ (fun j v hv => qcell hI Y (0 + j) v (by rw [Nat.zero_add]; simpa using hv)) Tryz.underlying26 rfl (by kernel_rfl) ?_
  exact hK _ _ hI rfl
theorem wg_s7 (hx : x7 = (weighsN h.type C.p)) : StepOk Tryz.prog wg_ops Q a0 (qI W0) (qV (wg_V hb C c h A x7)) 7 := by
  refine stepP wg_o7 (by kernel_rfl) rfl rfl ?_
  intro a w ho hI hp hB K hK
  have t71 : a.tmps[71]? = some (.agg #[.int .i64 C.s.wide, .int .i64 C.s.high, .int .i64 C.s.fbits, .int .i64 C.s.ptype, .int .i64 C.s.pbits, .int .i64 C.s.nonref, .slice C.sa C.s.cycle.length C.scap, .int .i64 C.s.refs, .int .i64 C.s.delay, .bool C.p.cabac, .bool C.p.weighted, .int .i64 C.p.bipred, .int .i64 C.p.qp, .int .i64 C.p.chroma, .bool C.p.constrained, .bool C.p.deblock, .int .i64 C.p.act0, .int .i64 C.p.act1, .int .i64 C.ref, .bool C.key]) := qt (hp 3 71 (by kernel_rfl)) _ rfl rfl
  have e71 := eval_slot t71
  have t74 : a.tmps[74]? = some (.agg #[.int .i64 h.first, .int .i64 h.count, .int .i64 h.type, .int .i64 h.fnum, .int .i64 h.id, .int .i64 h.poc, .bool h.spatial, .int .i64 h.act0, .int .i64 h.act1, .slice A.m0 h.mods0.length A.m0c, .slice A.m1 h.mods1.length A.m1c, .int .i64 h.log, .int .i64 h.logc, .slice A.q0 h.w0.length A.q0c, .slice A.q1 h.w1.length A.q1c, .bool h.longkey, .slice A.os h.ops.length A.osc, .int .i64 h.qp, .bool h.off, .int .i64 h.a, .int .i64 h.b]) := qt (hp 6 74 (by kernel_rfl)) _ rfl rfl
  have e74 := eval_slot t74
  clear ho hp
  unfold wg_o7
  go_simp
  refine (weighs_any _ C.s C.sa C.scap C.p C.ref C.key h A.m0 A.m1 A.q0 A.q1 A.os A.m0c A.m1c A.q0c A.q1c A.osc).mono ?_
  rintro e w' ⟨rfl, b⟩
  exact hK _ _ (hI.step b) (congrArg (Value.bool) hx.symm)
end
theorem put_at (a : Act) (d : Nat) (v : Value) (k : Nat) : (a.put (some d) v).tmps[k]? = if d = k then (if k < a.tmps.size then some v else none) else a.tmps[k]? := by
  simp only [Act.put, Array.getElem?_setIfInBounds]
  split
  · rename_i e; subst e; rfl
  · rfl

theorem put_size (a : Act) (d : Option Nat) (v : Value) : (a.put d v).tmps.size = a.tmps.size := by
  cases d <;> simp [Act.put]

theorem put_defers (a : Act) (d : Option Nat) (v : Value) : (a.put d v).defers = a.defers := by
  cases d <;> rfl

theorem act_ext {a b : Act} (h : a.defers = b.defers) (k : ∀ d : Nat, a.tmps[d]? = b.tmps[d]?) : a = b := by
  obtain ⟨t, d⟩ := a
  obtain ⟨t2, d2⟩ := b
  have e : t = t2 := Array.ext_getElem? k
  subst e
  simp only at h
  subst h
  rfl

set_option maxRecDepth 100000 in
set_option maxHeartbeats 4000000 in
theorem weighs_reg {Q : Exit → Act → World → Prop} {a : Act} {w : World} (hb : Nat) (C : Ctx) (c : Int) (h : HeadN) (A : Adr) (X : w.heap[C.kb]? = some (.cells #[.int .i64 C.s.wide, .int .i64 C.s.high, .int .i64 C.s.fbits, .int .i64 C.s.ptype, .int .i64 C.s.pbits, .int .i64 C.s.nonref, .slice C.sa C.s.cycle.length C.scap, .int .i64 C.s.refs, .int .i64 C.s.delay, .bool C.p.cabac, .bool C.p.weighted, .int .i64 C.p.bipred, .int .i64 C.p.qp, .int .i64 C.p.chroma, .bool C.p.constrained, .bool C.p.deblock, .int .i64 C.p.act0, .int .i64 C.p.act1, .int .i64 C.ref, .bool C.key, C.wv, .int .i64 c] 95 (0, 0))) (Y : w.heap[hb]? = some (.cells #[.int .i64 h.first, .int .i64 h.count, .int .i64 h.type, .int .i64 h.fnum, .int .i64 h.id, .int .i64 h.poc, .bool h.spatial, .int .i64 h.act0, .int .i64 h.act1, .slice A.m0 h.mods0.length A.m0c, .slice A.m1 h.mods1.length A.m1c, .int .i64 h.log, .int .i64 h.logc, .slice A.q0 h.w0.length A.q0c, .slice A.q1 h.w1.length A.q1c, .bool h.longkey, .slice A.os h.ops.length A.osc, .int .i64 h.qp, .bool h.off, .int .i64 h.a, .int .i64 h.b] 26 (0, 0)))
    (hn : a.tmps.size = 96) (e0 : a.tmps[0]? = some (.pointer (some ⟨C.kb, 0, none⟩))) (e1 : a.tmps[1]? = some (.pointer (some ⟨hb, 0, none⟩)))
    (hK : ∀ w', Below w.heap.size w w' → Q .normal (Act.put (Act.put (Act.put (Act.put (Act.put (Act.put (Act.put (Act.put a (some 68) (.pointer (some ⟨C.kb, 0, none⟩))) (some 69) (.pointer (some ⟨C.kb, 0, none⟩))) (some 70) (.pointer (some ⟨C.kb, 0, none⟩))) (some 71) (.agg #[.int .i64 C.s.wide, .int .i64 C.s.high, .int .i64 C.s.fbits, .int .i64 C.s.ptype, .int .i64 C.s.pbits, .int .i64 C.s.nonref, .slice C.sa C.s.cycle.length C.scap, .int .i64 C.s.refs, .int .i64 C.s.delay, .bool C.p.cabac, .bool C.p.weighted, .int .i64 C.p.bipred, .int .i64 C.p.qp, .int .i64 C.p.chroma, .bool C.p.constrained, .bool C.p.deblock, .int .i64 C.p.act0, .int .i64 C.p.act1, .int .i64 C.ref, .bool C.key])) (some 72) (.pointer (some ⟨hb, 0, none⟩))) (some 73) (.pointer (some ⟨hb, 0, none⟩))) (some 74) (.agg #[.int .i64 h.first, .int .i64 h.count, .int .i64 h.type, .int .i64 h.fnum, .int .i64 h.id, .int .i64 h.poc, .bool h.spatial, .int .i64 h.act0, .int .i64 h.act1, .slice A.m0 h.mods0.length A.m0c, .slice A.m1 h.mods1.length A.m1c, .int .i64 h.log, .int .i64 h.logc, .slice A.q0 h.w0.length A.q0c, .slice A.q1 h.w1.length A.q1c, .bool h.longkey, .slice A.os h.ops.length A.osc, .int .i64 h.qp, .bool h.off, .int .i64 h.a, .int .i64 h.b])) (some 75) (.bool (weighsN h.type C.p))) w') : (Code.region 10 wg_ops true).wp Tryz.prog Q a w := by
  refine wp_region_midst (ops := wg_ops) (qI w) (qV (wg_V hb C c h A (weighsN h.type C.p))) (by kernel_rfl) (by rw [hn]; kernel_rfl) ((Below.refl _ _).drew) (fun i hi => ?_) (fun b wz M => ?_)
  · match i, hi with | 0, _ => exact wg_s0 e0 | 1, _ => exact wg_s1 | 2, _ => exact wg_s2 | 3, _ => exact wg_s3 X | 4, _ => exact wg_s4 e1 | 5, _ => exact wg_s5 | 6, _ => exact wg_s6 Y | 7, _ => exact wg_s7 rfl | k + 8, h => exact absurd h (by simp [wg_ops])
  · have e : b = (Act.put (Act.put (Act.put (Act.put (Act.put (Act.put (Act.put (Act.put a (some 68) (.pointer (some ⟨C.kb, 0, none⟩))) (some 69) (.pointer (some ⟨C.kb, 0, none⟩))) (some 70) (.pointer (some ⟨C.kb, 0, none⟩))) (some 71) (.agg #[.int .i64 C.s.wide, .int .i64 C.s.high, .int .i64 C.s.fbits, .int .i64 C.s.ptype, .int .i64 C.s.pbits, .int .i64 C.s.nonref, .slice C.sa C.s.cycle.length C.scap, .int .i64 C.s.refs, .int .i64 C.s.delay, .bool C.p.cabac, .bool C.p.weighted, .int .i64 C.p.bipred, .int .i64 C.p.qp, .int .i64 C.p.chroma, .bool C.p.constrained, .bool C.p.deblock, .int .i64 C.p.act0, .int .i64 C.p.act1, .int .i64 C.ref, .bool C.key])) (some 72) (.pointer (some ⟨hb, 0, none⟩))) (some 73) (.pointer (some ⟨hb, 0, none⟩))) (some 74) (.agg #[.int .i64 h.first, .int .i64 h.count, .int .i64 h.type, .int .i64 h.fnum, .int .i64 h.id, .int .i64 h.poc, .bool h.spatial, .int .i64 h.act0, .int .i64 h.act1, .slice A.m0 h.mods0.length A.m0c, .slice A.m1 h.mods1.length A.m1c, .int .i64 h.log, .int .i64 h.logc, .slice A.q0 h.w0.length A.q0c, .slice A.q1 h.w1.length A.q1c, .bool h.longkey, .slice A.os h.ops.length A.osc, .int .i64 h.qp, .bool h.off, .int .i64 h.a, .int .i64 h.b])) (some 75) (.bool (weighsN h.type C.p))) := by
      refine act_ext (by rw [M.defers]; simp only [put_defers]) (fun d => ?_)
      simp only [put_at, put_size, hn]
      by_cases k0 : d = 68
      · subst k0
        obtain ⟨v, t, g⟩ := M.get 0 68 (by kernel_rfl)
        have := g (true, .pointer (some ⟨C.kb, 0, none⟩)) rfl
        rw [if_pos rfl] at this
        rw [t, this]
        simp
      by_cases k1 : d = 69
      · subst k1
        obtain ⟨v, t, g⟩ := M.get 1 69 (by kernel_rfl)
        have := g (true, .pointer (some ⟨C.kb, 0, none⟩)) rfl
        rw [if_pos rfl] at this
        rw [t, this]
        simp
      by_cases k2 : d = 70
      · subst k2
        obtain ⟨v, t, g⟩ := M.get 2 70 (by kernel_rfl)
        have := g (true, .pointer (some ⟨C.kb, 0, none⟩)) rfl
        rw [if_pos rfl] at this
        rw [t, this]
        simp
      by_cases k3 : d = 71
      · subst k3
        obtain ⟨v, t, g⟩ := M.get 3 71 (by kernel_rfl)
        have := g (true, .agg #[.int .i64 C.s.wide, .int .i64 C.s.high, .int .i64 C.s.fbits, .int .i64 C.s.ptype, .int .i64 C.s.pbits, .int .i64 C.s.nonref, .slice C.sa C.s.cycle.length C.scap, .int .i64 C.s.refs, .int .i64 C.s.delay, .bool C.p.cabac, .bool C.p.weighted, .int .i64 C.p.bipred, .int .i64 C.p.qp, .int .i64 C.p.chroma, .bool C.p.constrained, .bool C.p.deblock, .int .i64 C.p.act0, .int .i64 C.p.act1, .int .i64 C.ref, .bool C.key]) rfl
        rw [if_pos rfl] at this
        rw [t, this]
        simp
      by_cases k4 : d = 72
      · subst k4
        obtain ⟨v, t, g⟩ := M.get 4 72 (by kernel_rfl)
        have := g (true, .pointer (some ⟨hb, 0, none⟩)) rfl
        rw [if_pos rfl] at this
        rw [t, this]
        simp
      by_cases k5 : d = 73
      · subst k5
        obtain ⟨v, t, g⟩ := M.get 5 73 (by kernel_rfl)
        have := g (true, .pointer (some ⟨hb, 0, none⟩)) rfl
        rw [if_pos rfl] at this
        rw [t, this]
        simp
      by_cases k6 : d = 74
      · subst k6
        obtain ⟨v, t, g⟩ := M.get 6 74 (by kernel_rfl)
        have := g (true, .agg #[.int .i64 h.first, .int .i64 h.count, .int .i64 h.type, .int .i64 h.fnum, .int .i64 h.id, .int .i64 h.poc, .bool h.spatial, .int .i64 h.act0, .int .i64 h.act1, .slice A.m0 h.mods0.length A.m0c, .slice A.m1 h.mods1.length A.m1c, .int .i64 h.log, .int .i64 h.logc, .slice A.q0 h.w0.length A.q0c, .slice A.q1 h.w1.length A.q1c, .bool h.longkey, .slice A.os h.ops.length A.osc, .int .i64 h.qp, .bool h.off, .int .i64 h.a, .int .i64 h.b]) rfl
        rw [if_pos rfl] at this
        rw [t, this]
        simp
      by_cases k7 : d = 75
      · subst k7
        obtain ⟨v, t, g⟩ := M.get 7 75 (by kernel_rfl)
        have := g (true, .bool (weighsN h.type C.p)) rfl
        rw [if_pos rfl] at this
        rw [t, this]
        simp
      have ho : outB wg_ops d = true := by
        simp [outB, wg_ops, wg_o0, wg_o1, wg_o2, wg_o3, wg_o4, wg_o5, wg_o6, wg_o7, Ne.symm k0, Ne.symm k1, Ne.symm k2, Ne.symm k3, Ne.symm k4, Ne.symm k5, Ne.symm k6, Ne.symm k7]
      rw [M.out d ho]
      rw [if_neg (Ne.symm k7), if_neg (Ne.symm k6), if_neg (Ne.symm k5), if_neg (Ne.symm k4), if_neg (Ne.symm k3), if_neg (Ne.symm k2), if_neg (Ne.symm k1), if_neg (Ne.symm k0)]
    rw [e]
    exact hK wz M.inv
end Go.Proofs.YthcbgijmnonckaaGreat
/- Layer 4: which units there may be; boxes in a row; a region's slots laid out. -/
namespace Go.Proofs.YthcbgijmnonckaaGreat
open Go.RowKit Zo Zp
set_option linter.unusedVariables false

def mayStand (s : SpsN) (p : PpsN) (ref : Int) : Prop := s.may ∧ p.may ∧ inZ ref 0 3
instance (s : SpsN) (p : PpsN) (ref : Int) : Decidable (mayStand s p ref) := by unfold mayStand; infer_instance

theorem stands_is (w : World) (s : SpsN) (sa : Option Addr) (scap : Nat) (p : PpsN) (ref : Int) (key : Bool) (hs : IntRow w sa s.cycle) (hl : s.cycle.length ≤ 1000000000) :
    Calls Tryz.prog 39 #[.agg #[.int .i64 s.wide, .int .i64 s.high, .int .i64 s.fbits, .int .i64 s.ptype, .int .i64 s.pbits, .int .i64 s.nonref, .slice sa s.cycle.length scap, .int .i64 s.refs, .int .i64 s.delay, .bool p.cabac, .bool p.weighted, .int .i64 p.bipred, .int .i64 p.qp, .int .i64 p.chroma, .bool p.constrained, .bool p.deblock, .int .i64 p.act0, .int .i64 p.act1, .int .i64 ref, .bool key]] w fun e w' => e = .returned (.bool (decide (mayStand s p ref))) ∧ Below w.heap.size w w' := by
  refine (stands_any w s sa scap p ref key (decide s.may) (decide p.may) (fun wr B => maySpsOk s sa scap wr (hs.below B (Nat.le_refl _)) hl) (fun wr B => mayPpsOk p wr)).mono ?_
  rintro e w' ⟨rfl, b⟩
  refine ⟨ret_bool ?_, b⟩
  unfold mayStand inB inZ
  rw [Bool.eq_iff_iff]
  simp only [Bool.and_eq_true, decide_eq_true_eq]
  exact decide_eq_true_iff.symm

theorem headMay_stands {h : HeadN} {s : SpsN} {p : PpsN} {ref : Int} {key : Bool} (hm : headMay h s p ref key) : mayStand s p ref := ⟨hm.1, hm.2.1, hm.2.2.1⟩

/-- The program's may, where a unit stands. -/
theorem mayS_any (w : World) (s : SpsN) (sa : Option Addr) (scap : Nat) (p : PpsN) (ref : Int) (key : Bool) (h : HeadN) (m0 m1 q0 q1 os : Option Addr) (m0c m1c q0c q1c osc : Nat) (hst : mayStand s p ref) (R : HeadRows w h m0 m1 q0 q1 os) :
    Calls Tryz.prog 40 #[.agg #[.int .i64 s.wide, .int .i64 s.high, .int .i64 s.fbits, .int .i64 s.ptype, .int .i64 s.pbits, .int .i64 s.nonref, .slice sa s.cycle.length scap, .int .i64 s.refs, .int .i64 s.delay, .bool p.cabac, .bool p.weighted, .int .i64 p.bipred, .int .i64 p.qp, .int .i64 p.chroma, .bool p.constrained, .bool p.deblock, .int .i64 p.act0, .int .i64 p.act1, .int .i64 ref, .bool key], .agg #[.int .i64 h.first, .int .i64 h.count, .int .i64 h.type, .int .i64 h.fnum, .int .i64 h.id, .int .i64 h.poc, .bool h.spatial, .int .i64 h.act0, .int .i64 h.act1, .slice m0 h.mods0.length m0c, .slice m1 h.mods1.length m1c, .int .i64 h.log, .int .i64 h.logc, .slice q0 h.w0.length q0c, .slice q1 h.w1.length q1c, .bool h.longkey, .slice os h.ops.length osc, .int .i64 h.qp, .bool h.off, .int .i64 h.a, .int .i64 h.b]] w fun e w' => e = .returned (.bool (decide (headMay h s p ref key))) ∧ Below w.heap.size w w' :=
  may_any w s sa scap p ref key h m0 m1 q0 q1 os m0c m1c q0c q1c osc hst.1 hst.2.1 hst.2.2 R

/-- Three boxes in a row. -/
theorem boxes3 (w : World) (c1 c2 c3 : Array Value) (t1 t2 t3 : TypeId) : (((w.alloc (.cells c1 t1)).alloc (.cells c2 t2)).alloc (.cells c3 t3)).heap[w.heap.size]? = some (.cells c1 t1 (0, 0)) ∧
    (((w.alloc (.cells c1 t1)).alloc (.cells c2 t2)).alloc (.cells c3 t3)).heap[w.heap.size + 1]? = some (.cells c2 t2 (0, 0)) ∧ (((w.alloc (.cells c1 t1)).alloc (.cells c2 t2)).alloc (.cells c3 t3)).heap[w.heap.size + 1 + 1]? = some (.cells c3 t3 (0, 0)) ∧
    Below w.heap.size w (((w.alloc (.cells c1 t1)).alloc (.cells c2 t2)).alloc (.cells c3 t3)) ∧ (((w.alloc (.cells c1 t1)).alloc (.cells c2 t2)).alloc (.cells c3 t3)).heap.size = w.heap.size + 1 + 1 + 1 := by
  obtain ⟨r1, r2, _⟩ := two_boxes w c1 c2 t1 t2
  have r3 := heap_alloc_last ((w.alloc (.cells c1 t1)).alloc (.cells c2 t2)) (.cells c3 t3)
  rw [show ((w.alloc (.cells c1 t1)).alloc (.cells c2 t2)).heap.size = w.heap.size + 1 + 1 from by simp] at r3
  refine ⟨(heap_alloc_other (by simp; omega)).trans r1, (heap_alloc_other (by simp)).trans r2, r3, ?_, by simp⟩
  exact (((Below.refl w.heap.size w).alloc (Nat.le_refl _) _).alloc (by simp) _).alloc (by simp; omega) _

/-- One more box. -/
theorem box_more {w : World} {k : Nat} {cs : Array Value} {t : TypeId} (h : w.heap[k]? = some (.cells cs t (0, 0))) (o : Obj) : (w.alloc o).heap[k]? = some (.cells cs t (0, 0)) := (heap_alloc_other (row_lt h)).trans h
end Go.Proofs.YthcbgijmnonckaaGreat
