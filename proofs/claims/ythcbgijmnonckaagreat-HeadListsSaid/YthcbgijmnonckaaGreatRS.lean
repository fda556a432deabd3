/- Layer 3: the program's own ranges: which parameters of a sequence may be. -/
import Derived.Test.YthcbgijmnonckaaGreatQZ
import Derived.Test.YthcbgijmnonckaaGreatA
import Derived.Deep.RegionHeld3
import Derived.Orders
import Derived.WalkKit
namespace Go.Proofs.YthcbgijmnonckaaGreat
open Go.RowKit Zo Zp

theorem row_of_ints {w : World} {g : Nat} {l : List Int} (h : w.heap[g]? = some (.cells (iv l).toArray 3 (0, 0))) : IntRow w (some ⟨g, 0, none⟩) l := by
  intro _
  refine ⟨g, 0, rfl, row_lt h, fun i hi => ?_⟩
  rw [cell_of_row _ _ _ _ _ _ h, Nat.zero_add]
  simp [iv, hi]

/-- What fitsPocType tells. -/
def fitB (ptype pbits nonref : Int) (cycle : List Int) (delay : Int) : Bool := ((ptype == 0) || (pbits == 4)) && (((ptype == 1) || ((nonref == 0) && ((cycle.length : Int) == 0))) && ((ptype != 2) || (delay == 0)))

theorem may_prog (wide high fbits ptype pbits nonref : Int) (cycle : List Int) (refs delay : Int) :
    (inAll [wide, high] 1 8 && (inAll [fbits, pbits] 4 8 && (inAll [ptype] 0 2 && (inAll [(cycle.length : Int)] 0 4 && (inAll [nonref] (-1000) 1000 && (inAll cycle (-1000) 1000 && (inAll [refs] 1 8 && (inAll [delay] 0 refs && fitB ptype pbits nonref cycle delay)))))))) = decide (SpsN.may ⟨wide, high, fbits, ptype, pbits, nonref, cycle, refs, delay⟩) := by
  rw [← may_all, Bool.eq_iff_iff]
  simp only [may1, mayC, may2, may3, fitB, inAll, inB, List.all_cons, List.all_nil, Bool.and_true, Bool.and_eq_true, Bool.or_eq_true, decide_eq_true_eq, List.all_eq_true, beq_iff_eq, bne_iff_ne, ne_eq]
  constructor
  · rintro ⟨⟨h1, h2⟩, ⟨h3, h4⟩, h5, h6, h7, h8, h9, h10, h11, h12, h13⟩
    exact ⟨⟨⟨⟨⟨⟨⟨⟨⟨h1, h2⟩, h3⟩, h4⟩, h5⟩, h7⟩, h6.2⟩, h8⟩, h12, h11⟩, ⟨h9, h10⟩, h13⟩
  · rintro ⟨⟨⟨⟨⟨⟨⟨⟨⟨h1, h2⟩, h3⟩, h4⟩, h5⟩, h7⟩, h6⟩, h8⟩, h12, h11⟩, ⟨h9, h10⟩, h13⟩
    exact ⟨⟨h1, h2⟩, ⟨h3, h4⟩, h5, ⟨by omega, h6⟩, h7, h8, h9, h10, h11, h12, h13⟩

set_option linter.unusedVariables false
set_option maxRecDepth 100000 in
set_option maxHeartbeats 16000000 in
theorem fits_any (w : World) (s : SpsN) (a : Option Addr) (cap : Nat) :
    Calls Tryz.prog 123 #[spsV s a cap] w fun e w' => e = .returned (.bool (fitB s.ptype s.pbits s.nonref s.cycle s.delay)) ∧ Below w.heap.size w w' := by
  obtain ⟨wide, high, fbits, ptype, pbits, nonref, cycle, refs, delay⟩ := s
  unfold spsV fitB
  simp only
  have hb : Below w.heap.size w (w.alloc (.cells #[.int .i64 wide, .int .i64 high, .int .i64 fbits, .int .i64 ptype, .int .i64 pbits, .int .i64 nonref, .slice a cycle.length cap, .int .i64 refs, .int .i64 delay] 29)) := (Below.refl _ _).alloc (Nat.le_refl _) _
  have HB := Lib.hid hb
  clear hb
  rcases (show ptype = 0 ∨ ptype = 1 ∨ ptype = 2 ∨ (ptype ≠ 0 ∧ ptype ≠ 1 ∧ ptype ≠ 2) by omega) with rfl | rfl | rfl | ⟨e0, e1, e2⟩ <;> cases h2 : (pbits == 4) <;> cases h4 : (nonref == 0) <;> cases h5 : ((cycle.length : Int) == 0) <;> cases h7 : (delay == 0)
  all_goals
    try have z1 : (ptype == 0) = false := by simpa using e0
    try have z2 : (ptype == 1) = false := by simpa using e1
    try have z3 : (ptype == 2) = false := by simpa using e2
    try have z4 : (ptype != 0) = true := by simpa using e0
    try have z5 : (ptype != 1) = true := by simpa using e1
    try have z6 : (ptype != 2) = true := by simpa using e2
    try clear e0 e1 e2
    have g2 : (pbits != 4) = !(pbits == 4) := rfl
    have g4 : (nonref != 0) = !(nonref == 0) := rfl
    have g5 : ((cycle.length : Int) != 0) = !((cycle.length : Int) == 0) := rfl
    rw [h2] at g2
    rw [h4] at g4
    rw [h5] at g5
    simp only [Bool.not_true, Bool.not_false] at g2 g4 g5
    go_enter Tryz.func123, Tryz.ntmps123
    go_wp2
    go_ret
    exact ⟨ret_bool (by simp [*]), HB.out⟩

theorem Kp.lt {w : World} {kb : Nat} (h : Kp w kb) : kb < w.heap.size := by rcases h with h | h <;> exact row_lt h
theorem Kp.keep {S : Nat → Prop} {w w' : World} {kb : Nat} (h : Kp w kb) (f : Fr S w w') (hs : ¬ S kb) : Kp w' kb := by
  rcases h with h | h
  · exact .inl ((f.block kb (row_lt h) hs).trans h)
  · exact .inr ((f.block kb (row_lt h) hs).trans h)

/-- A call that asks a keeper: its box, its keeper. -/
def Ms (W : World) (bx kb : Nat) (T : TypeId) (cs : Array Value) (wr : World) : Prop := wr.heap[bx]? = some (.cells cs T (0, 0)) ∧ Kp wr kb ∧ Fr (fun k => k = kb) W wr ∧ bx ≠ kb

section
variable {W wr w' : World} {bx kb : Nat} {T : TypeId} {cs : Array Value}
theorem Ms.box (h : Ms W bx kb T cs wr) (i : Nat) (u : Value) (hu : cs[i]? = some u) : wr.cell? ⟨bx, i, none⟩ = some u := by
  rw [cell_of_row wr _ i _ _ _ h.1, hu]
theorem Ms.ask (h : Ms W bx kb T cs wr) (p : Kp w' kb) (f : Fr (fun k => k = kb) wr w') : Ms W bx kb T cs w' :=
  ⟨(f.block _ (row_lt h.1) h.2.2.2).trans h.1, p, h.2.2.1.trans f (fun _ _ e => e), h.2.2.2⟩
theorem Ms.below (h : Ms W bx kb T cs wr) (f : Below wr.heap.size wr w') : Ms W bx kb T cs w' :=
  ⟨(f.block _ (row_lt h.1)).trans h.1, h.2.1.keep (Fr.of_below (S := fun _ => False) f) (fun e => e), h.2.2.1.trans (Fr.of_below (S := fun k => k = kb) f) (fun _ _ e => e), h.2.2.2⟩
theorem Ms.alloc (h : Ms W bx kb T cs wr) (o : Obj) : Ms W bx kb T cs (wr.alloc o) := h.below ((Below.refl _ _).alloc (Nat.le_refl _) o)
theorem Ms.drew (h : Ms W bx kb T cs wr) : Ms W bx kb T cs wr.drew := ⟨h.1, h.2.1, h.2.2.1.drew, h.2.2.2⟩
theorem Ms.row (h : Ms W bx kb T cs wr) {a : Option Addr} {l : List Int} (hi : IntRow W a l) (hn : l ≠ [] → ∀ g, a = some g → g.block ≠ kb) : IntRow wr a l := by
  intro hl
  obtain ⟨b, o, ha, hb, hc⟩ := hi hl
  refine ⟨b, o, ha, Nat.lt_of_lt_of_le hb h.2.2.1.size, fun i hi' => ?_⟩
  have := h.2.2.1.block b hb (hn hl _ ha)
  simp only [World.cell?] at hc ⊢
  rw [this]
  exact hc i hi'
end

theorem holds_is {l : List Int} {lo hi : Int} {b : Bool} (hb : inAll l lo hi = b) (hl : l.length ≤ 1000000000) (wr : World) (a : Option Addr) (cap : Nat) (h : IntRow wr a l) :
    Calls Tryz.prog 100 #[.agg #[.int .i64 lo, .int .i64 hi], .slice a l.length cap] wr fun e w' => e = .returned (.bool b) ∧ Below wr.heap.size wr w' := by
  rw [← hb]
  exact holds_any wr lo hi l a cap h hl

theorem ms_of_0 {W : World} {bx kb : Nat} {T : TypeId} {cs : Array Value} (wr : World) (h : Ms W bx kb T cs wr) :
    Calls Tryz.prog 99 #[.pointer (some ⟨kb, 0, none⟩), .int .i64 0] wr fun e w' => e = .returned (.agg #[.int .i64 1, .int .i64 8]) ∧ Ms W bx kb T cs w' ∧ Fr (fun k => k = kb) wr w' :=
  (of_0 wr kb h.2.1).mono fun e w' ⟨he, p, f⟩ => ⟨he, h.ask p f, f⟩

theorem ms_of_1 {W : World} {bx kb : Nat} {T : TypeId} {cs : Array Value} (wr : World) (h : Ms W bx kb T cs wr) :
    Calls Tryz.prog 99 #[.pointer (some ⟨kb, 0, none⟩), .int .i64 1] wr fun e w' => e = .returned (.agg #[.int .i64 4, .int .i64 8]) ∧ Ms W bx kb T cs w' ∧ Fr (fun k => k = kb) wr w' :=
  (of_1 wr kb h.2.1).mono fun e w' ⟨he, p, f⟩ => ⟨he, h.ask p f, f⟩

theorem ms_of_2 {W : World} {bx kb : Nat} {T : TypeId} {cs : Array Value} (wr : World) (h : Ms W bx kb T cs wr) :
    Calls Tryz.prog 99 #[.pointer (some ⟨kb, 0, none⟩), .int .i64 2] wr fun e w' => e = .returned (.agg #[.int .i64 0, .int .i64 2]) ∧ Ms W bx kb T cs w' ∧ Fr (fun k => k = kb) wr w' :=
  (of_2 wr kb h.2.1).mono fun e w' ⟨he, p, f⟩ => ⟨he, h.ask p f, f⟩

theorem ms_of_3 {W : World} {bx kb : Nat} {T : TypeId} {cs : Array Value} (wr : World) (h : Ms W bx kb T cs wr) :
    Calls Tryz.prog 99 #[.pointer (some ⟨kb, 0, none⟩), .int .i64 3] wr fun e w' => e = .returned (.agg #[.int .i64 0, .int .i64 4]) ∧ Ms W bx kb T cs w' ∧ Fr (fun k => k = kb) wr w' :=
  (of_3 wr kb h.2.1).mono fun e w' ⟨he, p, f⟩ => ⟨he, h.ask p f, f⟩

theorem ms_of_4 {W : World} {bx kb : Nat} {T : TypeId} {cs : Array Value} (wr : World) (h : Ms W bx kb T cs wr) :
    Calls Tryz.prog 99 #[.pointer (some ⟨kb, 0, none⟩), .int .i64 4] wr fun e w' => e = .returned (.agg #[.int .i64 (-1000), .int .i64 1000]) ∧ Ms W bx kb T cs w' ∧ Fr (fun k => k = kb) wr w' :=
  (of_4 wr kb h.2.1).mono fun e w' ⟨he, p, f⟩ => ⟨he, h.ask p f, f⟩

theorem ms_of_5 {W : World} {bx kb : Nat} {T : TypeId} {cs : Array Value} (wr : World) (h : Ms W bx kb T cs wr) :
    Calls Tryz.prog 99 #[.pointer (some ⟨kb, 0, none⟩), .int .i64 5] wr fun e w' => e = .returned (.agg #[.int .i64 1, .int .i64 8]) ∧ Ms W bx kb T cs w' ∧ Fr (fun k => k = kb) wr w' :=
  (of_5 wr kb h.2.1).mono fun e w' ⟨he, p, f⟩ => ⟨he, h.ask p f, f⟩

theorem ms_of_6 {W : World} {bx kb : Nat} {T : TypeId} {cs : Array Value} (wr : World) (h : Ms W bx kb T cs wr) :
    Calls Tryz.prog 99 #[.pointer (some ⟨kb, 0, none⟩), .int .i64 6] wr fun e w' => e = .returned (.agg #[.int .i64 0, .int .i64 2]) ∧ Ms W bx kb T cs w' ∧ Fr (fun k => k = kb) wr w' :=
  (of_6 wr kb h.2.1).mono fun e w' ⟨he, p, f⟩ => ⟨he, h.ask p f, f⟩

theorem ms_of_7 {W : World} {bx kb : Nat} {T : TypeId} {cs : Array Value} (wr : World) (h : Ms W bx kb T cs wr) :
    Calls Tryz.prog 99 #[.pointer (some ⟨kb, 0, none⟩), .int .i64 7] wr fun e w' => e = .returned (.agg #[.int .i64 0, .int .i64 51]) ∧ Ms W bx kb T cs w' ∧ Fr (fun k => k = kb) wr w' :=
  (of_7 wr kb h.2.1).mono fun e w' ⟨he, p, f⟩ => ⟨he, h.ask p f, f⟩

theorem ms_of_8 {W : World} {bx kb : Nat} {T : TypeId} {cs : Array Value} (wr : World) (h : Ms W bx kb T cs wr) :
    Calls Tryz.prog 99 #[.pointer (some ⟨kb, 0, none⟩), .int .i64 8] wr fun e w' => e = .returned (.agg #[.int .i64 (-12), .int .i64 12]) ∧ Ms W bx kb T cs w' ∧ Fr (fun k => k = kb) wr w' :=
  (of_8 wr kb h.2.1).mono fun e w' ⟨he, p, f⟩ => ⟨he, h.ask p f, f⟩
end Go.Proofs.YthcbgijmnonckaaGreat
/- A region whose order of evaluation is drawn, told by what each of its operations yields, whenever it comes: one proof for each operation, none for an order. No program is named here. -/
namespace Zo
open Go Go.RowKit

section
variable {P : Program} {ops : Array Oper} {Q : Exit → Act → World → Prop}

/-- Operation i waits for operation j, whose value lies in slot d. -/
def depB (ops : Array Oper) (i j d : Nat) : Bool :=
  match ops[i]?, ops[j]? with
  | some o, some oj => o.after.any (fun e => Region.binds .any e && e.on == j) && oj.dst == some d
  | _, _ => false

/-- No operation yields into slot d. -/
def outB (ops : Array Oper) (d : Nat) : Bool := ops.all fun o => o.dst != some d

/-- Each operation waits for earlier ones alone; no two yield into one slot; the slots are there. -/
def tidyB (ops : Array Oper) (n : Nat) : Bool :=
  (List.range ops.size).all fun i =>
    match ops[i]? with
    | some o => o.after.all (fun e => decide (e.on < i)) && (match o.dst with
        | some d => decide (d < n) && (List.range ops.size).all fun j => i == j || ((ops[j]?).bind (·.dst)) != some d
        | none => true)
    | none => true

/-- What is known while the region runs. -/
structure Midst (ops : Array Oper) (a0 : Act) (I : World → Prop) (V : Nat → World → Value → Prop) (listed : Array Bool) (a : Act) (w : World) : Prop where
  size : listed.size = ops.size
  inv : I w
  defers : a.defers = a0.defers
  len : a.tmps.size = a0.tmps.size
  out : ∀ d, outB ops d = true → a.tmps[d]? = a0.tmps[d]?
  val : ∀ j d, ((ops[j]?).bind (·.dst)) = some d → listed.getD j false = true → ∃ v, a.tmps[d]? = some v ∧ V j w v

/-- What is to be shown of operation i. -/
def StepOk (P : Program) (ops : Array Oper) (Q : Exit → Act → World → Prop) (a0 : Act) (I : World → Prop) (V : Nat → World → Value → Prop) (i : Nat) : Prop :=
  ∀ (a : Act) (w : World), (∀ d, outB ops d = true → a.tmps[d]? = a0.tmps[d]?) → I w → (∀ j d, depB ops i j d = true → ∃ v, a.tmps[d]? = some v ∧ V j w v) →
    ∀ o, ops[i]? = some o → ∀ K : Act → World → Prop, (∀ v w', I w' → (∀ j u, V j w u → V j w' u) → V i w' v → K (a.put o.dst v) w') →
      if Region.wanted o (yielded ops a.tmps) = true then o.wp P a w K Q else K (a.put o.dst undef) w

theorem yielded_is {a : Act} {j d : Nat} {b : Bool} (h : ((ops[j]?).bind (·.dst)) = some d) (hv : a.tmps[d]? = some (.bool b)) : yielded ops a.tmps j = some b := by
  unfold yielded
  rw [h]
  simp [hv]

theorem getD_false {l : Array Bool} {i : Nat} (h : l.getD i true = false) : i < l.size ∧ l.getD i false = false := by
  by_cases hi : i < l.size
  · refine ⟨hi, ?_⟩
    simp [hi] at h ⊢
    exact h
  · simp [Array.getD, hi] at h

theorem getD_set_same {l : Array Bool} {i : Nat} (h : i < l.size) : (l.setIfInBounds i true).getD i false = true := by
  simp [Array.getD, h]

theorem getD_set_other {l : Array Bool} {i j : Nat} (h : i ≠ j) : (l.setIfInBounds i true).getD j false = l.getD j false := by
  simp only [Array.getD_eq_getD_getElem?, Array.getElem?_setIfInBounds]
  rw [if_neg h]

theorem ready_one {listed : Array Bool} (hs : listed.size = ops.size) (ht : ∀ (i : Nat) (o : Oper), ops[i]? = some o → ∀ e ∈ o.after, e.on < i) (hr : Region.ready .any ops listed = []) : ∀ i, i < ops.size → listed.getD i false = true := by
  intro i
  induction i using Nat.strongRecOn with
  | ind i ih =>
    intro hi
    cases hl : listed.getD i false with
    | true => rfl
    | false =>
      have hm : i ∈ Region.ready .any ops listed := by
        refine mem_ready.2 ⟨?_, ops[i], by simp [hi], fun e he _ => ?_⟩
        · have : i < listed.size := by omega
          simp [this] at hl ⊢
          exact hl
        · have h1 := ht i ops[i] (by simp [hi]) e he
          exact ih e.on h1 (by omega)
      rw [hr] at hm
      cases hm

theorem count_set (l : Array Bool) (i : Nat) (h : i < l.size) (hf : l.getD i false = false) : (l.setIfInBounds i true).toList.count false + 1 = l.toList.count false := by
  rw [Array.toList_setIfInBounds]
  have hi : i < l.toList.length := by simpa using h
  have hg : l.toList[i] = false := by simp [h] at hf; simpa using hf
  have hm : 0 < l.toList.count false := List.count_pos_iff.2 (by rw [← hg]; exact List.getElem_mem hi)
  rw [List.count_set hi, hg]
  simp only [beq_self_eq_true, if_true]
  have e : ((true == false) = true) = False := by simp
  simp only [e, if_false]
  omega

theorem midst_any {a0 : Act} {I : World → Prop} {V : Nat → World → Value → Prop} (htidy : tidyB ops a0.tmps.size = true)
    (hstep : ∀ i, i < ops.size → StepOk P ops Q a0 I V i)
    (hdone : ∀ a w, Midst ops a0 I V (Array.replicate ops.size true) a w → Q .normal a w) :
    ∀ (fuel : Nat) (listed : Array Bool) (a : Act) (w : World), listed.toList.count false ≤ fuel → Midst ops a0 I V listed a w → wpAny P .any ops Q fuel listed a w := by
  have ht0 := List.all_eq_true.1 htidy
  have ht : ∀ i o, ops[i]? = some o → (∀ e ∈ o.after, e.on < i) ∧ ∀ d, o.dst = some d → d < a0.tmps.size ∧ ∀ j, j < ops.size → i ≠ j → ((ops[j]?).bind (·.dst)) ≠ some d := by
    intro i o ho
    have hi : i < ops.size := (Array.getElem?_eq_some_iff.1 ho).1
    have := ht0 i (List.mem_range.2 hi)
    rw [ho] at this
    simp only [Bool.and_eq_true] at this
    refine ⟨fun e he => ?_, fun d hd => ?_⟩
    · have h1 := Array.all_eq_true_iff_forall_mem.1 this.1 e he
      simpa using h1
    · have h2 := this.2
      rw [hd] at h2
      simp only [Bool.and_eq_true, decide_eq_true_eq, List.all_eq_true, List.mem_range, Bool.or_eq_true, beq_iff_eq, bne_iff_ne] at h2
      exact ⟨h2.1, fun j hj hne => (h2.2 j hj).resolve_left hne⟩
  have done : ∀ listed a w, Midst ops a0 I V listed a w → Region.ready .any ops listed = [] → Q .normal a w := by
    intro listed a w h hr
    refine hdone a w ⟨by simp, h.inv, h.defers, h.len, h.out, fun j d hj _ => h.val j d hj ?_⟩
    have hj' : j < ops.size := by
      cases ho : ops[j]? with
      | none => rw [ho] at hj; cases hj
      | some o => exact (Array.getElem?_eq_some_iff.1 ho).1
    exact ready_one h.size (fun i o ho => (ht i o ho).1) hr j hj'
  intro fuel
  induction fuel with
  | zero =>
    intro listed a w hc h
    have hr : Region.ready .any ops listed = [] := by
      rw [List.eq_nil_iff_forall_not_mem]
      intro i hi
      obtain ⟨h1, _⟩ := mem_ready.1 hi
      obtain ⟨h2, h3⟩ := getD_false h1
      have := count_set listed i h2 h3
      omega
    exact ⟨hr, done listed a w h hr⟩
  | succ fuel ih =>
    intro listed a w hc h
    refine ⟨done listed a w h, fun i hi => ?_⟩
    obtain ⟨h1, o, ho, hall⟩ := mem_ready.1 hi
    obtain ⟨h2, h3⟩ := getD_false h1
    have hin : i < ops.size := (Array.getElem?_eq_some_iff.1 ho).1
    have hK : ∀ v w', I w' → (∀ j u, V j w u → V j w' u) → V i w' v → wpAny P .any ops Q fuel (listed.setIfInBounds i true) (a.put o.dst v) w' := by
      intro v w' hI' hV' hv
      refine ih _ _ _ (by have := count_set listed i h2 h3; omega) ⟨by simpa using h.size, hI', ?_, ?_, fun d hd => ?_, fun j d hj hlj => ?_⟩
      · rw [← h.defers]; cases o.dst <;> rfl
      · rw [← h.len]; cases o.dst <;> simp [Act.put]
      · have hne : o.dst ≠ some d := by
          have := Array.all_eq_true_iff_forall_mem.1 hd o (Array.mem_of_getElem? ho)
          simpa using this
        rw [← h.out d hd]
        cases hx : o.dst with
        | none => rfl
        | some x =>
          rw [hx] at hne
          simp only [Act.put, Array.getElem?_setIfInBounds]
          rw [if_neg (fun e => hne (by rw [e]))]
      · by_cases hij : i = j
        · subst hij
          rw [ho] at hj
          have hj' : o.dst = some d := hj
          have hlt := ((ht i o ho).2 d hj').1
          refine ⟨v, ?_, hv⟩
          rw [hj']
          simp only [Act.put, Array.getElem?_setIfInBounds, if_true]
          rw [if_pos (by rw [h.len]; exact hlt)]
        · rw [getD_set_other hij] at hlj
          obtain ⟨u, hu, hVu⟩ := h.val j d hj hlj
          refine ⟨u, ?_, hV' j u hVu⟩
          have hjs : j < ops.size := by
            cases hoj : ops[j]? with
            | none => rw [hoj] at hj; cases hj
            | some oj => exact (Array.getElem?_eq_some_iff.1 hoj).1
          cases hx : o.dst with
          | none => exact hu
          | some x =>
            have hne := ((ht i o ho).2 x hx).2 j hjs hij
            simp only [Act.put, Array.getElem?_setIfInBounds]
            rw [if_neg (fun e => hne (by rw [hj, e]))]
            exact hu
    have hs := hstep i hin a w h.out h.inv (fun j d hdep => by
      unfold depB at hdep
      rw [ho] at hdep
      cases hoj : ops[j]? with
      | none => rw [hoj] at hdep; cases hdep
      | some oj =>
        rw [hoj] at hdep
        simp only [Bool.and_eq_true, Array.any_eq_true, beq_iff_eq] at hdep
        obtain ⟨⟨k, hk, hb, he⟩, hd⟩ := hdep
        refine h.val j d (by rw [hoj]; exact hd) ?_
        rw [← he]
        exact hall _ (Array.getElem_mem hk) hb) o ho _ hK
    unfold wpOp
    rw [ho]
    simp only
    split
    · rename_i hw
      rw [if_pos hw] at hs
      exact .inl hs
    · rename_i hw
      rw [if_neg hw] at hs
      exact hs

/-- The law: a region whose order is drawn. -/
theorem wp_region_midst {id : Nat} {a0 : Act} {w0 : World} (I : World → Prop) (V : Nat → World → Value → Prop) (hm : P.follows .mixedOrders = true) (htidy : tidyB ops a0.tmps.size = true) (hI : I w0.drew)
    (hstep : ∀ i, i < ops.size → StepOk P ops Q a0 I V i)
    (hdone : ∀ a w, Midst ops a0 I V (Array.replicate ops.size true) a w → Q .normal a w) : (Code.region id ops true).wp P Q a0 w0 := by
  refine wp_region_any hm (midst_any htidy hstep hdone _ _ _ _ (by simp) ⟨by simp, hI, rfl, rfl, fun _ _ => rfl, fun j d _ hl => ?_⟩)
  simp [Array.getD] at hl

theorem Midst.get {a0 : Act} {I : World → Prop} {V : Nat → World → Value → Prop} {a : Act} {w : World} (h : Midst ops a0 I V (Array.replicate ops.size true) a w) (j d : Nat) (hj : ((ops[j]?).bind (·.dst)) = some d) : ∃ v, a.tmps[d]? = some v ∧ V j w v := by
  refine h.val j d hj ?_
  have hj' : j < ops.size := by
    cases ho : ops[j]? with
    | none => rw [ho] at hj; cases hj
    | some o => exact (Array.getElem?_eq_some_iff.1 ho).1
  simp [Array.getD, hj']

theorem eval_slot {a : Act} {d : Nat} {v : Value} (h : a.tmps[d]? = some v) : a.eval (.tmp d) = v := by
  unfold Act.eval
  simp [h]
end
end Zo
/- Layer 3: a region that asks a keeper, told operation by operation. -/
namespace Go.Proofs.YthcbgijmnonckaaGreat
open Go.RowKit Zo Zp

/-- What an operation's slot holds, if its condition holds. -/
inductive Vs where
  | is (c : Bool) (x : Value)
  | row (c : Bool) (l : List Int)
  | any

def Vs.ok (kb : Nat) (w : World) (v : Value) : Vs → Prop
  | .is c x => c = true → v = x
  | .row c l => c = true → ∃ g, v = .slice (some ⟨g, 0, none⟩) l.length l.length ∧ w.heap[g]? = some (.cells (iv l).toArray 3 (0, 0)) ∧ g ≠ kb
  | .any => True

theorem Vs.ok_fr {kb : Nat} {w w' : World} (f : Fr (fun k => k = kb) w w') {v : Value} {s : Vs} (h : s.ok kb w v) : s.ok kb w' v := by
  cases s with
  | is c x => exact h
  | row c l =>
    intro hc
    obtain ⟨g, h1, h2, h3⟩ := h hc
    exact ⟨g, h1, (f.block g (row_lt h2) h3).trans h2, h3⟩
  | any => trivial

def specV (kb : Nat) (l : List Vs) (i : Nat) (w : World) (v : Value) : Prop := (l.getD i .any).ok kb w v

theorem specV_fr {kb : Nat} {l : List Vs} {w w' : World} (f : Fr (fun k => k = kb) w w') (j : Nat) (u : Value) (h : specV kb l j w u) : specV kb l j w' u := Vs.ok_fr f h

/-- Ms without the call's own world's frame. -/
theorem Ms.fr {W wr w' : World} {bx kb : Nat} {T : TypeId} {cs : Array Value} (h : Ms W bx kb T cs wr) (f : Below wr.heap.size wr w') : Ms W bx kb T cs w' ∧ Fr (fun k => k = kb) wr w' := ⟨h.below f, Fr.of_below f⟩

end Go.Proofs.YthcbgijmnonckaaGreat
