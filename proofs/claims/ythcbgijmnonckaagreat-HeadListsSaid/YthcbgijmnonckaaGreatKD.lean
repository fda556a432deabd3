/- Layer 4: the law's own test that a program answers at all: its region that reads what was written, its order drawn. -/
import Derived.Test.YthcbgijmnonckaaGreatKC
namespace Go.Proofs.YthcbgijmnonckaaGreat
open Go.RowKit Zo Zp
set_option linter.unusedVariables false
set_option linter.unusedSimpArgs false

def aw_o0 : Oper := { dst := some 22, op := Op.move (Operand.tmp 4), type := 33, pos := "law.go:24", after := #[], guard := none }
def aw_o1 : Oper := { dst := some 23, op := Op.call { callee := Callee.value (Operand.func 20), args := #[Operand.tmp 22], argTypes := #[33] }, type := 9, pos := "law.go:24", after := #[{ on := 0, ground := Ground.data }], guard := none }
def aw_o2 : Oper := { dst := some 24, op := Op.call { callee := Callee.value (Operand.func 24), args := #[Operand.tmp 23], argTypes := #[9] }, type := 50, pos := "law.go:24", after := #[{ on := 1, ground := Ground.data }, { on := 1, ground := Ground.chain }], guard := none }
def aw_o3 : Oper := { dst := some 25, op := Op.load 29 (Operand.tmp 1), type := 29, pos := "law.go:24", after := #[], guard := none }
def aw_o4 : Oper := { dst := some 26, op := Op.load 31 (Operand.tmp 2), type := 31, pos := "law.go:24", after := #[], guard := none }
def aw_o5 : Oper := { dst := some 27, op := Op.call { callee := Callee.value (Operand.func 28), args := #[Operand.tmp 24, Operand.tmp 25, Operand.tmp 26, Operand.const (Value.int IntKind.i64 1), Operand.const (Value.bool true)], argTypes := #[50, 29, 31, 3, 4] }, type := 60, pos := "law.go:24", after := #[{ on := 2, ground := Ground.data }, { on := 3, ground := Ground.data }, { on := 4, ground := Ground.data }, { on := 2, ground := Ground.chain }], guard := none }
def aw_o6 : Oper := { dst := some 21, op := Op.move (Operand.tmp 27), type := 60, pos := "law.go:24", after := #[{ on := 5, ground := Ground.data }], guard := none }
def aw_o7 : Oper := { dst := some 28, op := Op.extract (Operand.tmp 21) 0, type := 26, pos := "law.go:24", after := #[{ on := 6, ground := Ground.data }], guard := none }
def aw_o8 : Oper := { dst := some 29, op := Op.extract (Operand.tmp 21) 1, type := 35, pos := "law.go:24", after := #[{ on := 6, ground := Ground.data }, { on := 10, ground := Ground.gcOnly Departure.lateStores }], guard := none }
def aw_o9 : Oper := { dst := some 6, op := Op.alloc 26, type := 0, pos := "law.go:24", after := #[], guard := none }
def aw_o10 : Oper := { dst := none, op := Op.store 26 (Operand.tmp 6) (Operand.tmp 28), type := 0, pos := "law.go:24", after := #[{ on := 9, ground := Ground.data }, { on := 7, ground := Ground.data }, { on := 5, ground := Ground.chain }, { on := 0, ground := Ground.phase }, { on := 1, ground := Ground.phase }, { on := 2, ground := Ground.phase }, { on := 3, ground := Ground.phase }, { on := 4, ground := Ground.phase }, { on := 5, ground := Ground.phase }, { on := 6, ground := Ground.phase }, { on := 7, ground := Ground.phase }, { on := 8, ground := Ground.textOnly Departure.lateStores }, { on := 9, ground := Ground.phase }], guard := none }
def aw_o11 : Oper := { dst := some 7, op := Op.assign (Operand.tmp 29), type := 35, pos := "law.go:24", after := #[{ on := 8, ground := Ground.data }, { on := 10, ground := Ground.chain }, { on := 0, ground := Ground.phase }, { on := 1, ground := Ground.phase }, { on := 2, ground := Ground.phase }, { on := 3, ground := Ground.phase }, { on := 4, ground := Ground.phase }, { on := 5, ground := Ground.phase }, { on := 6, ground := Ground.phase }, { on := 7, ground := Ground.phase }, { on := 8, ground := Ground.phase }, { on := 9, ground := Ground.phase }, { on := 10, ground := Ground.phase }], guard := none }
def aw_ops : Array Oper := #[aw_o0, aw_o1, aw_o2, aw_o3, aw_o4, aw_o5, aw_o6, aw_o7, aw_o8, aw_o9, aw_o10, aw_o11]

/-- What was laid aside: the Reader, the box of the answer, where its lists lie. -/
structure AwG where
  rb : Nat
  xb : Nat
  A : Adr

def zHC : Array Value := #[.int .i64 0, .int .i64 0, .int .i64 0, .int .i64 0, .int .i64 0, .int .i64 0, .bool false, .int .i64 0, .int .i64 0, .slice none 0 0, .slice none 0 0, .int .i64 0, .int .i64 0, .slice none 0 0, .slice none 0 0, .bool false, .slice none 0 0, .int .i64 0, .bool false, .int .i64 0, .int .i64 0]

structure AwI (B wb : Nat) (bits : List Bool) (t : ByteArray) (W0 : World) (g : AwG) (L : Array Bool) (w : World) : Prop where
  below : Below B W0 w
  wr : ∃ wo, Wr w B wb wo bits
  rd : L.getD 2 false = true → L.getD 5 false = false → Rd w B g.rb t 0
  x0 : L.getD 9 false = true → L.getD 10 false = false → w.heap[g.xb]? = some (.cells zHC 26 (0, 0)) ∧ B ≤ g.xb
  x1 : L.getD 9 false = true → L.getD 10 false = true → w.heap[g.xb]? = some (.cells (headCells (tinyH 26) g.A) 26 (0, 0)) ∧ B ≤ g.xb
  l6 : L.getD 6 false = true → L.getD 5 false = true
  l7 : L.getD 7 false = true → L.getD 5 false = true
  l10 : L.getD 10 false = true → L.getD 5 false = true ∧ L.getD 9 false = true

def awV (wb : Nat) (t : ByteArray) (g : AwG) (L : Array Bool) (j : Nat) (w : World) (v : Value) : Prop := match j with
  | 0 => v = .pointer (some ⟨wb, 0, none⟩)
  | 1 => v = .string t
  | 2 => v = .pointer (some ⟨g.rb, 0, none⟩)
  | 3 => v = .agg tinySC
  | 4 => v = .agg tinyPC
  | 5 => v = .tuple #[.agg (headCells (tinyH 26) g.A), .int .i64 0]
  | 6 => v = .tuple #[.agg (headCells (tinyH 26) g.A), .int .i64 0]
  | 7 => v = .agg (headCells (tinyH 26) g.A)
  | 8 => v = .int .i64 0
  | 9 => v = .pointer (some ⟨g.xb, 0, none⟩)
  | 11 => v = .int .i64 0
  | _ => True

section
variable {B wb : Nat} {bits : List Bool} {t : ByteArray} {W0 : World} {g : AwG} {L : Array Bool} {w w' : World}

/-- An operation that is none of those that count. -/
theorem AwI.other (h : AwI B wb bits t W0 g L w) {i : Nat} (h2 : i ≠ 2) (h5 : i ≠ 5) (h6 : i ≠ 6) (h7 : i ≠ 7) (h9 : i ≠ 9) (h10 : i ≠ 10) : AwI B wb bits t W0 g (L.setIfInBounds i true) w := by
  obtain ⟨a, b, c, d, e, f, k, l⟩ := h
  exact ⟨a, b, by rw [getD_set_other h2, getD_set_other h5]; exact c, by rw [getD_set_other h9, getD_set_other h10]; exact d, by rw [getD_set_other h9, getD_set_other h10]; exact e, by rw [getD_set_other h6, getD_set_other h5]; exact f, by rw [getD_set_other h7, getD_set_other h5]; exact k, by rw [getD_set_other h10, getD_set_other h5, getD_set_other h9]; exact l⟩

/-- The world moves on, and nothing of this. -/
theorem AwI.world (h : AwI B wb bits t W0 g L w) (b : Below B w w') (hw : ∀ wo, Wr w B wb wo bits → ∃ wo', Wr w' B wb wo' bits) (hr : Rd w B g.rb t 0 → Rd w' B g.rb t 0) (hx : ∀ cs, w.heap[g.xb]? = some (.cells cs 26 (0, 0)) → w'.heap[g.xb]? = some (.cells cs 26 (0, 0))) : AwI B wb bits t W0 g L w' := by
  obtain ⟨a, ⟨wo, b0⟩, c, d, e, f, k, l⟩ := h
  exact ⟨a.trans b, hw wo b0, fun x y => hr (c x y), fun x y => ⟨hx _ (d x y).1, (d x y).2⟩, fun x y => ⟨hx _ (e x y).1, (e x y).2⟩, f, k, l⟩

theorem awV_same (L' : Array Bool) (w' : World) (j : Nat) (u : Value) (h : awV wb t g L j w u) : awV wb t g L' j w' u := h

theorem Wr.head_ne {o : Option Nat} (h : Wr w B wb o bits) {k : Nat} {cs : Array Value} (hk : w.heap[k]? = some (.cells cs 26 (0, 0))) : ¬ wsel wb o k := by
  obtain ⟨⟨c0, h0⟩, _, ho⟩ := h.row
  rintro (e | e)
  · rw [e, h0] at hk; simp at hk
  · obtain ⟨_, c1, h1⟩ := ho k e
    rw [h1] at hk; simp at hk

theorem Rd.head_ne {rb p : Nat} (h : Rd w B rb t p) {k : Nat} {cs : Array Value} (hk : w.heap[k]? = some (.cells cs 26 (0, 0))) : k ≠ rb := by
  intro e
  obtain ⟨_, _, hr, _⟩ := h
  rw [e, hr] at hk
  simp at hk

theorem Rd.plain_ne {rb p : Nat} (h : Rd w B rb t p) {o : Option Nat} (hw : Wr w B wb o bits) {k : Nat} (hk : wsel wb o k) : ¬ (k = rb ∨ ¬ Plain B w k) := by
  obtain ⟨⟨c0, h0⟩, _, ho⟩ := hw.row
  obtain ⟨_, _, hr, _⟩ := h
  rintro (e | e)
  · rcases hk with rfl | e2
    · rw [e, hr] at h0; simp at h0
    · obtain ⟨_, c1, h1⟩ := ho k e2
      rw [e, hr] at h1; simp at h1
  · refine e (.inr ?_)
    rcases hk with rfl | e2
    · exact ⟨_, _, h0⟩
    · obtain ⟨_, c1, h1⟩ := ho k e2
      exact ⟨_, _, h1⟩
end

section
variable {B wb sb pb : Nat} {bits : List Bool} {t : ByteArray} {W0 : World} {Q : Exit → Act → World → Prop} {a0 : Act}

set_option maxRecDepth 100000 in
set_option maxHeartbeats 1000000 in
theorem aw_s0 (e4 : a0.tmps[4]? = some (.pointer (some ⟨wb, 0, none⟩))) : StepL Tryz.prog aw_ops Q a0 (AwI B wb bits t W0) (awV wb t) 0 := by
  intro g L a w hs hi hout hI hdep o ho K hK
  obtain rfl : o = aw_o0 := Option.some.inj (ho.symm.trans (by kernel_rfl))
  clear ho
  have hlt : 0 < L.size := by rw [hs]; decide
  rw [if_pos (show Region.wanted aw_o0 _ = true from rfl)]
  have t4 := (hout 4 (by kernel_rfl)).trans e4
  have e4' := eval_slot t4
  unfold aw_o0
  go_simp
  exact hK g _ _ (hI.other (by decide) (by decide) (by decide) (by decide) (by decide) (by decide)) (fun j u _ hv => hv) rfl

set_option maxRecDepth 100000 in
set_option maxHeartbeats 1000000 in
theorem aw_s1 (ht : t = bstr (packB bits)) (hb : bits.length ≤ 100000) : StepL Tryz.prog aw_ops Q a0 (AwI B wb bits t W0) (awV wb t) 1 := by
  intro g L a w hs hi hout hI hdep o ho K hK
  obtain rfl : o = aw_o1 := Option.some.inj (ho.symm.trans (by kernel_rfl))
  clear ho
  have hlt : 1 < L.size := by rw [hs]; decide
  obtain ⟨l0, v22, t22, f0⟩ := hdep 0 22 (by kernel_rfl)
  have e22 := eval_slot t22
  rw [show v22 = _ from f0] at e22 t22
  rw [if_pos (show Region.wanted aw_o1 _ = true from rfl)]
  obtain ⟨wo, hw⟩ := hI.wr
  unfold aw_o1
  go_simp
  refine (bytes_any w B wb wo bits hw (by omega)).mono ?_
  rintro e w' ⟨rfl, p1⟩
  obtain ⟨wo', p2, p3, p4⟩ := id p1
  refine hK g _ _ (AwI.world (hI.other (by decide) (by decide) (by decide) (by decide) (by decide) (by decide)) (p1.below hw) (fun _ _ => ⟨wo', p2⟩) (fun hr => hr.beside hw p1) (fun cs hx => (p3.block _ (row_lt hx) (hw.head_ne hx)).trans hx)) (fun j u _ hv => hv) (by rw [← ht]; rfl)

set_option maxRecDepth 100000 in
set_option maxHeartbeats 1000000 in
theorem aw_s2 (hs2 : t.size ≤ 1000000) (hBW : B ≤ W0.heap.size) : StepL Tryz.prog aw_ops Q a0 (AwI B wb bits t W0) (awV wb t) 2 := by
  intro g L a w hs hi hout hI hdep o ho K hK
  obtain rfl : o = aw_o2 := Option.some.inj (ho.symm.trans (by kernel_rfl))
  clear ho
  have hlt : 2 < L.size := by rw [hs]; decide
  obtain ⟨l1, v23, t23, f1⟩ := hdep 1 23 (by kernel_rfl)
  have e23 := eval_slot t23
  rw [show v23 = _ from f1] at e23 t23
  rw [if_pos (show Region.wanted aw_o2 _ = true from rfl)]
  unfold aw_o2
  go_simp
  refine (open_any t w B (Nat.le_trans hBW hI.below.size) (by omega)).mono ?_
  rintro e w' ⟨rfl, h1, f1, _⟩
  have I1 : AwI B wb bits t W0 g L w' := hI.world (f1.below (Nat.le_trans hBW hI.below.size) (fun _ e => e.elim)) (fun wo h => ⟨wo, h.fr f1 (fun _ _ e => e)⟩) (fun h => h.fr f1 (fun e => e)) (fun cs h => (f1.block _ (row_lt h) (fun e => e)).trans h)
  obtain ⟨a1, b1, c1, d1, e1, f2, k1, l1⟩ := I1
  refine hK ⟨w.heap.size, g.xb, g.A⟩ _ _ ⟨a1, b1, fun _ _ => h1, by rw [getD_set_other (by decide), getD_set_other (by decide)]; exact d1, by rw [getD_set_other (by decide), getD_set_other (by decide)]; exact e1, by rw [getD_set_other (by decide), getD_set_other (by decide)]; exact f2, by rw [getD_set_other (by decide), getD_set_other (by decide)]; exact k1, by rw [getD_set_other (by decide), getD_set_other (by decide), getD_set_other (by decide)]; exact l1⟩ (fun j u hj hv => ?_) rfl
  by_cases h2 : j = 2
  · rw [h2, hi] at hj; cases hj
  · rcases (show j = 0 ∨ j = 1 ∨ j = 3 ∨ j = 4 ∨ j = 5 ∨ j = 6 ∨ j = 7 ∨ j = 8 ∨ j = 9 ∨ j = 10 ∨ j = 11 ∨ 12 ≤ j by omega) with rfl | rfl | rfl | rfl | rfl | rfl | rfl | rfl | rfl | rfl | rfl | h12
    all_goals first | exact hv | (obtain ⟨k, rfl⟩ := Nat.le.dest h12; rw [Nat.add_comm]; trivial)

set_option maxRecDepth 100000 in
set_option maxHeartbeats 1000000 in
theorem aw_s3 (e1 : a0.tmps[1]? = some (.pointer (some ⟨sb, 0, none⟩))) (hr : W0.heap[sb]? = some (.cells tinySC 29 (0, 0))) (hlb : sb < B) : StepL Tryz.prog aw_ops Q a0 (AwI B wb bits t W0) (awV wb t) 3 := by
  intro g L a w hs hi hout hI hdep o ho K hK
  obtain rfl : o = aw_o3 := Option.some.inj (ho.symm.trans (by kernel_rfl))
  clear ho
  have hlt : 3 < L.size := by rw [hs]; decide
  rw [if_pos (show Region.wanted aw_o3 _ = true from rfl)]
  have t1 := (hout 1 (by kernel_rfl)).trans e1
  have hrow := (hI.below.block sb hlb).trans hr
  refine wp_load_row (P := Tryz.prog) 29 (.tmp 1) rfl sb (eval_slot t1) 29 tinySC (0, 0) _ hrow Tryz.underlying29 rfl (by kernel_rfl) ?_
  exact hK g _ _ (hI.other (by decide) (by decide) (by decide) (by decide) (by decide) (by decide)) (fun j u _ hv => hv) rfl

set_option maxRecDepth 100000 in
set_option maxHeartbeats 1000000 in
theorem aw_s4 (e2 : a0.tmps[2]? = some (.pointer (some ⟨pb, 0, none⟩))) (hr : W0.heap[pb]? = some (.cells tinyPC 31 (0, 0))) (hlb : pb < B) : StepL Tryz.prog aw_ops Q a0 (AwI B wb bits t W0) (awV wb t) 4 := by
  intro g L a w hs hi hout hI hdep o ho K hK
  obtain rfl : o = aw_o4 := Option.some.inj (ho.symm.trans (by kernel_rfl))
  clear ho
  have hlt : 4 < L.size := by rw [hs]; decide
  rw [if_pos (show Region.wanted aw_o4 _ = true from rfl)]
  have t1 := (hout 2 (by kernel_rfl)).trans e2
  have hrow := (hI.below.block pb hlb).trans hr
  refine wp_load_row (P := Tryz.prog) 31 (.tmp 2) rfl pb (eval_slot t1) 31 tinyPC (0, 0) _ hrow Tryz.underlying31 rfl (by kernel_rfl) ?_
  exact hK g _ _ (hI.other (by decide) (by decide) (by decide) (by decide) (by decide) (by decide)) (fun j u _ hv => hv) rfl

set_option maxRecDepth 100000 in
set_option maxHeartbeats 1000000 in
theorem aw_s5 (HG : ∀ (w : World) (rb : Nat), Below B W0 w → Rd w B rb t 0 → Calls Tryz.prog 28 #[.pointer (some ⟨rb, 0, none⟩), .agg tinySC, .agg tinyPC, .int .i64 1, .bool true] w fun e w' => ∃ A, e = .returned (.tuple #[.agg (headCells (tinyH 26) A), .int .i64 0]) ∧ Fr (fun k => k = rb ∨ ¬ Plain B w k) w w') : StepL Tryz.prog aw_ops Q a0 (AwI B wb bits t W0) (awV wb t) 5 := by
  intro g L a w hs hi hout hI hdep o ho K hK
  obtain rfl : o = aw_o5 := Option.some.inj (ho.symm.trans (by kernel_rfl))
  clear ho
  have hlt : 5 < L.size := by rw [hs]; decide
  obtain ⟨l2, v24, t24, f2⟩ := hdep 2 24 (by kernel_rfl)
  have e24 := eval_slot t24
  rw [show v24 = _ from f2] at e24 t24
  obtain ⟨l3, v25, t25, f3⟩ := hdep 3 25 (by kernel_rfl)
  have e25 := eval_slot t25
  rw [show v25 = _ from f3] at e25 t25
  obtain ⟨l4, v26, t26, f4⟩ := hdep 4 26 (by kernel_rfl)
  have e26 := eval_slot t26
  rw [show v26 = _ from f4] at e26 t26
  rw [if_pos (show Region.wanted aw_o5 _ = true from rfl)]
  have hrd := hI.rd l2 hi
  unfold aw_o5
  go_simp
  refine (HG w g.rb hI.below hrd).mono ?_
  rintro e w' ⟨A, rfl, f1⟩
  have hrb : B ≤ g.rb := hrd.block.2.1
  have bl : Below B w w' := ⟨f1.os, f1.tape, f1.output, f1.size, fun k hk => by
    by_cases hkw : k < w.heap.size
    · exact f1.block k hkw (by rintro (e | e); omega; exact e (.inl hk))
    · have := hI.below.size
      have h2 := hI.wr
      obtain ⟨wo, hw⟩ := h2
      have := hw.lt
      omega⟩
  have xk : ∀ cs, w.heap[g.xb]? = some (.cells cs 26 (0, 0)) → w'.heap[g.xb]? = some (.cells cs 26 (0, 0)) := fun cs hx => (f1.block _ (row_lt hx) (by
    rintro (e | e)
    · exact hrd.head_ne hx e
    · exact e (.inr ⟨_, _, hx⟩))).trans hx
  obtain ⟨a1, ⟨wo, b1⟩, c1, d1, e1, f2, k1, l1⟩ := hI
  have n6 : L.getD 6 false = true → False := fun e => by have := f2 e; rw [hi] at this; cases this
  have n7 : L.getD 7 false = true → False := fun e => by have := k1 e; rw [hi] at this; cases this
  have n10 : L.getD 10 false = true → False := fun e => by have := (l1 e).1; rw [hi] at this; cases this
  refine hK ⟨g.rb, g.xb, A⟩ _ _ ⟨a1.trans bl, ⟨wo, b1.fr f1 (fun k hk => hrd.plain_ne b1 hk)⟩, fun _ e => (by rw [getD_set_same hlt] at e; cases e), by rw [getD_set_other (by decide), getD_set_other (by decide)]; exact fun x y => ⟨xk _ (d1 x y).1, (d1 x y).2⟩, by rw [getD_set_other (by decide), getD_set_other (by decide)]; exact fun x y => (n10 y).elim, fun _ => getD_set_same hlt, fun _ => getD_set_same hlt, fun y => ⟨getD_set_same hlt, (by rw [getD_set_other (by decide)] at y ⊢; exact (l1 y).2)⟩⟩ (fun j u hj hv => ?_) rfl
  rcases (show j = 0 ∨ j = 1 ∨ j = 2 ∨ j = 3 ∨ j = 4 ∨ j = 5 ∨ j = 6 ∨ j = 7 ∨ j = 8 ∨ j = 9 ∨ j = 10 ∨ j = 11 ∨ 12 ≤ j by omega) with rfl | rfl | rfl | rfl | rfl | rfl | rfl | rfl | rfl | rfl | rfl | rfl | h12
  all_goals first | exact hv | (rw [hi] at hj; cases hj) | exact (n6 hj).elim | exact (n7 hj).elim | (obtain ⟨k, rfl⟩ := Nat.le.dest h12; rw [Nat.add_comm]; trivial)

set_option maxRecDepth 100000 in
set_option maxHeartbeats 1000000 in
theorem aw_s6  : StepL Tryz.prog aw_ops Q a0 (AwI B wb bits t W0) (awV wb t) 6 := by
  intro g L a w hs hi hout hI hdep o ho K hK
  obtain rfl : o = aw_o6 := Option.some.inj (ho.symm.trans (by kernel_rfl))
  clear ho
  have hlt : 6 < L.size := by rw [hs]; decide
  obtain ⟨l5, v27, t27, f5⟩ := hdep 5 27 (by kernel_rfl)
  have e27 := eval_slot t27
  rw [show v27 = _ from f5] at e27 t27
  rw [if_pos (show Region.wanted aw_o6 _ = true from rfl)]
  unfold aw_o6
  go_simp
  obtain ⟨a1, b1, c1, d1, x1, f2, k1, l1'⟩ := hI
  exact hK g _ _ ⟨a1, b1, (by rw [getD_set_other (by decide), getD_set_other (by decide)]; exact c1), (by rw [getD_set_other (by decide), getD_set_other (by decide)]; exact d1), (by rw [getD_set_other (by decide), getD_set_other (by decide)]; exact x1), fun _ => (by rw [getD_set_other (by decide)]; exact l5), (by rw [getD_set_other (by decide), getD_set_other (by decide)]; exact k1), (by rw [getD_set_other (by decide), getD_set_other (by decide), getD_set_other (by decide)]; exact l1')⟩ (fun j u _ hv => hv) rfl

set_option maxRecDepth 100000 in
set_option maxHeartbeats 1000000 in
theorem aw_s7  : StepL Tryz.prog aw_ops Q a0 (AwI B wb bits t W0) (awV wb t) 7 := by
  intro g L a w hs hi hout hI hdep o ho K hK
  obtain rfl : o = aw_o7 := Option.some.inj (ho.symm.trans (by kernel_rfl))
  clear ho
  have hlt : 7 < L.size := by rw [hs]; decide
  obtain ⟨l6, v21, t21, f6⟩ := hdep 6 21 (by kernel_rfl)
  have e21 := eval_slot t21
  rw [show v21 = _ from f6] at e21 t21
  rw [if_pos (show Region.wanted aw_o7 _ = true from rfl)]
  unfold aw_o7
  go_simp
  obtain ⟨a1, b1, c1, d1, x1, f2, k1, l1'⟩ := hI
  exact hK g _ _ ⟨a1, b1, (by rw [getD_set_other (by decide), getD_set_other (by decide)]; exact c1), (by rw [getD_set_other (by decide), getD_set_other (by decide)]; exact d1), (by rw [getD_set_other (by decide), getD_set_other (by decide)]; exact x1), (by rw [getD_set_other (by decide), getD_set_other (by decide)]; exact f2), fun _ => (by rw [getD_set_other (by decide)]; exact f2 l6), (by rw [getD_set_other (by decide), getD_set_other (by decide), getD_set_other (by decide)]; exact l1')⟩ (fun j u _ hv => hv) rfl

set_option maxRecDepth 100000 in
set_option maxHeartbeats 1000000 in
theorem aw_s8  : StepL Tryz.prog aw_ops Q a0 (AwI B wb bits t W0) (awV wb t) 8 := by
  intro g L a w hs hi hout hI hdep o ho K hK
  obtain rfl : o = aw_o8 := Option.some.inj (ho.symm.trans (by kernel_rfl))
  clear ho
  have hlt : 8 < L.size := by rw [hs]; decide
  obtain ⟨l6, v21, t21, f6⟩ := hdep 6 21 (by kernel_rfl)
  have e21 := eval_slot t21
  rw [show v21 = _ from f6] at e21 t21
  rw [if_pos (show Region.wanted aw_o8 _ = true from rfl)]
  unfold aw_o8
  go_simp
  exact hK g _ _ (hI.other (by decide) (by decide) (by decide) (by decide) (by decide) (by decide)) (fun j u _ hv => hv) rfl

set_option maxRecDepth 100000 in
set_option maxHeartbeats 1000000 in
theorem aw_s9 (hBW : B ≤ W0.heap.size) : StepL Tryz.prog aw_ops Q a0 (AwI B wb bits t W0) (awV wb t) 9 := by
  intro g L a w hs hi hout hI hdep o ho K hK
  obtain rfl : o = aw_o9 := Option.some.inj (ho.symm.trans (by kernel_rfl))
  clear ho
  have hlt : 9 < L.size := by rw [hs]; decide
  rw [if_pos (show Region.wanted aw_o9 _ = true from rfl)]
  unfold aw_o9
  go_simp
  have hz := heap_alloc_last w (.cells zHC 26)
  obtain ⟨a1, ⟨wo, b1⟩, c1, d1, x1, f2, k1, l1'⟩ := hI
  have f1 : Fr (fun _ => False) w (w.alloc (.cells zHC 26)) := (Fr.refl _ _).alloc _
  have hs2 : B ≤ w.heap.size := Nat.le_trans hBW a1.size
  refine hK ⟨g.rb, w.heap.size, g.A⟩ _ _ ⟨a1.trans (f1.below hs2 (fun _ e => e.elim)), ⟨wo, b1.fr f1 (fun _ _ e => e)⟩, (by rw [getD_set_other (by decide), getD_set_other (by decide)]; exact fun x y => (c1 x y).fr f1 (fun e => e)), fun _ _ => ⟨hz, hs2⟩, fun _ y => ?_, (by rw [getD_set_other (by decide), getD_set_other (by decide)]; exact f2), (by rw [getD_set_other (by decide), getD_set_other (by decide)]; exact k1), fun y => (by rw [getD_set_other (by decide)] at y ⊢; exact ⟨(l1' y).1, getD_set_same hlt⟩)⟩ (fun j u hj hv => ?_) rfl
  · rw [getD_set_other (by decide)] at y
    have := (l1' y).2
    rw [hi] at this
    cases this
  · rcases (show j = 0 ∨ j = 1 ∨ j = 2 ∨ j = 3 ∨ j = 4 ∨ j = 5 ∨ j = 6 ∨ j = 7 ∨ j = 8 ∨ j = 9 ∨ j = 10 ∨ j = 11 ∨ 12 ≤ j by omega) with rfl | rfl | rfl | rfl | rfl | rfl | rfl | rfl | rfl | rfl | rfl | rfl | h12
    all_goals first | exact hv | (rw [hi] at hj; cases hj) | (obtain ⟨k, rfl⟩ := Nat.le.dest h12; rw [Nat.add_comm]; trivial)

set_option maxRecDepth 100000 in
set_option maxHeartbeats 1000000 in
theorem aw_s10  : StepL Tryz.prog aw_ops Q a0 (AwI B wb bits t W0) (awV wb t) 10 := by
  intro g L a w hs hi hout hI hdep o ho K hK
  obtain rfl : o = aw_o10 := Option.some.inj (ho.symm.trans (by kernel_rfl))
  clear ho
  have hlt : 10 < L.size := by rw [hs]; decide
  obtain ⟨l9, v6, t6, f9⟩ := hdep 9 6 (by kernel_rfl)
  have e6 := eval_slot t6
  rw [show v6 = _ from f9] at e6 t6
  obtain ⟨l7, v28, t28, f7⟩ := hdep 7 28 (by kernel_rfl)
  have e28 := eval_slot t28
  rw [show v28 = _ from f7] at e28 t28
  obtain ⟨l5, v27, t27, f5⟩ := hdep 5 27 (by kernel_rfl)
  have e27 := eval_slot t27
  rw [show v27 = _ from f5] at e27 t27
  rw [if_pos (show Region.wanted aw_o10 _ = true from rfl)]
  have hx := hI.x0 l9 hi
  have ag := eval_slot t6
  refine wp_store_row (P := Tryz.prog) 26 (.tmp 6) (.tmp 28) rfl g.xb (headCells (tinyH 26) g.A) e6 e28 26 zHC hx.1 (by kernel_rfl) rfl (by simp [headCells, Value.oneCell']) ?_
  have hy := setRow_heap w g.xb zHC (headCells (tinyH 26) g.A) 26 _ hx.1
  have f1 := setRow_fr w g.xb (headCells (tinyH 26) g.A)
  obtain ⟨a1, ⟨wo, b1⟩, c1, d1, x1, f2, k1, l1'⟩ := hI
  refine hK g _ _ ⟨a1.trans (f1.below (Nat.le_trans hx.2 (Nat.le_of_lt (row_lt hx.1))) (fun k e => by rw [e]; exact hx.2)), ⟨wo, b1.fr f1 (fun k hk e => b1.head_ne hx.1 (e ▸ hk))⟩, (by rw [getD_set_other (by decide), getD_set_other (by decide)]; exact fun x y => (c1 x y).fr f1 (fun e => (c1 x y).head_ne hx.1 e.symm)), fun _ e => (by rw [getD_set_same hlt] at e; cases e), fun _ _ => ⟨hy, hx.2⟩, (by rw [getD_set_other (by decide), getD_set_other (by decide)]; exact f2), (by rw [getD_set_other (by decide), getD_set_other (by decide)]; exact k1), fun _ => ⟨(by rw [getD_set_other (by decide)]; exact l5), (by rw [getD_set_other (by decide)]; exact l9)⟩⟩ (fun j u _ hv => hv) trivial

set_option maxRecDepth 100000 in
set_option maxHeartbeats 1000000 in
theorem aw_s11  : StepL Tryz.prog aw_ops Q a0 (AwI B wb bits t W0) (awV wb t) 11 := by
  intro g L a w hs hi hout hI hdep o ho K hK
  obtain rfl : o = aw_o11 := Option.some.inj (ho.symm.trans (by kernel_rfl))
  clear ho
  have hlt : 11 < L.size := by rw [hs]; decide
  obtain ⟨l8, v29, t29, f8⟩ := hdep 8 29 (by kernel_rfl)
  have e29 := eval_slot t29
  rw [show v29 = _ from f8] at e29 t29
  rw [if_pos (show Region.wanted aw_o11 _ = true from rfl)]
  unfold aw_o11
  go_simp
  exact hK g _ _ (hI.other (by decide) (by decide) (by decide) (by decide) (by decide) (by decide)) (fun j u _ hv => hv) rfl

end
end Go.Proofs.YthcbgijmnonckaaGreat
