/- A region whose order is drawn, told by what each operation yields, where that may hang on what has come up so far. No program is named here. -/
import Derived.Test.YthcbgijmnonckaaGreatRS
import Derived.Test.YthcbgijmnonckaaGreatKA
import Derived.Test.YthcbgijmnonckaaGreatQF
namespace Zo
open Go Go.RowKit

section
variable {P : Program} {ops : Array Oper} {Q : Exit → Act → World → Prop} {G : Type}

/-- Each operation waits for earlier ones alone, by what binds in every mode; no two yield into one slot; the slots are there. -/
def tidyB2 (ops : Array Oper) (n : Nat) : Bool :=
  (List.range ops.size).all fun i =>
    match ops[i]? with
    | some o => o.after.all (fun e => !Region.binds .any e || decide (e.on < i)) && (match o.dst with
        | some d => decide (d < n) && (List.range ops.size).all fun j => i == j || ((ops[j]?).bind (·.dst)) != some d
        | none => true)
    | none => true

/-- What is known while the region runs; L tells which operations have come up, g what was laid aside of them. -/
structure MidstL {G : Type} (ops : Array Oper) (a0 : Act) (I : G → Array Bool → World → Prop) (V : G → Array Bool → Nat → World → Value → Prop) (g : G) (L : Array Bool) (a : Act) (w : World) : Prop where
  size : L.size = ops.size
  inv : I g L w
  defers : a.defers = a0.defers
  len : a.tmps.size = a0.tmps.size
  out : ∀ d, outB ops d = true → a.tmps[d]? = a0.tmps[d]?
  val : ∀ j d, ((ops[j]?).bind (·.dst)) = some d → L.getD j false = true → ∃ v, a.tmps[d]? = some v ∧ V g L j w v

/-- What is to be shown of operation i. -/
def StepL {G : Type} (P : Program) (ops : Array Oper) (Q : Exit → Act → World → Prop) (a0 : Act) (I : G → Array Bool → World → Prop) (V : G → Array Bool → Nat → World → Value → Prop) (i : Nat) : Prop :=
  ∀ (g : G) (L : Array Bool) (a : Act) (w : World), L.size = ops.size → L.getD i false = false → (∀ d, outB ops d = true → a.tmps[d]? = a0.tmps[d]?) → I g L w → (∀ j d, depB ops i j d = true → L.getD j false = true ∧ ∃ v, a.tmps[d]? = some v ∧ V g L j w v) →
    ∀ o, ops[i]? = some o → ∀ K : Act → World → Prop, (∀ g' v w', I g' (L.setIfInBounds i true) w' → (∀ j u, L.getD j false = true → V g L j w u → V g' (L.setIfInBounds i true) j w' u) → V g' (L.setIfInBounds i true) i w' v → K (a.put o.dst v) w') →
      if Region.wanted o (yielded ops a.tmps) = true then o.wp P a w K Q else K (a.put o.dst undef) w

theorem ready_one2 {listed : Array Bool} (hs : listed.size = ops.size) (ht : ∀ (i : Nat) (o : Oper), ops[i]? = some o → ∀ e ∈ o.after, Region.binds .any e = true → e.on < i) (hr : Region.ready .any ops listed = []) : ∀ i, i < ops.size → listed.getD i false = true := by
  intro i
  induction i using Nat.strongRecOn with
  | ind i ih =>
    intro hi
    cases hl : listed.getD i false with
    | true => rfl
    | false =>
      have hm : i ∈ Region.ready .any ops listed := by
        refine mem_ready.2 ⟨?_, ops[i], by simp [hi], fun e he hb => ?_⟩
        · have : i < listed.size := by omega
          simp [this] at hl ⊢
          exact hl
        · have h1 := ht i ops[i] (by simp [hi]) e he hb
          exact ih e.on h1 (by omega)
      rw [hr] at hm
      cases hm

theorem midstL_any {a0 : Act} {I : G → Array Bool → World → Prop} {V : G → Array Bool → Nat → World → Value → Prop} (htidy : tidyB2 ops a0.tmps.size = true)
    (hstep : ∀ i, i < ops.size → StepL P ops Q a0 I V i)
    (hdone : ∀ g L a w, (∀ i, i < ops.size → L.getD i false = true) → MidstL ops a0 I V g L a w → Q .normal a w) :
    ∀ (fuel : Nat) (g : G) (listed : Array Bool) (a : Act) (w : World), listed.toList.count false ≤ fuel → MidstL ops a0 I V g listed a w → wpAny P .any ops Q fuel listed a w := by
  have ht0 := List.all_eq_true.1 htidy
  have ht : ∀ i o, ops[i]? = some o → (∀ e ∈ o.after, Region.binds .any e = true → e.on < i) ∧ ∀ d, o.dst = some d → d < a0.tmps.size ∧ ∀ j, j < ops.size → i ≠ j → ((ops[j]?).bind (·.dst)) ≠ some d := by
    intro i o ho
    have hi : i < ops.size := (Array.getElem?_eq_some_iff.1 ho).1
    have := ht0 i (List.mem_range.2 hi)
    rw [ho] at this
    simp only [Bool.and_eq_true] at this
    refine ⟨fun e he hb => ?_, fun d hd => ?_⟩
    · have h1 := Array.all_eq_true_iff_forall_mem.1 this.1 e he
      rw [hb] at h1
      simpa using h1
    · have h2 := this.2
      rw [hd] at h2
      simp only [Bool.and_eq_true, decide_eq_true_eq, List.all_eq_true, List.mem_range, Bool.or_eq_true, beq_iff_eq, bne_iff_ne] at h2
      exact ⟨h2.1, fun j hj hne => (h2.2 j hj).resolve_left hne⟩
  have done : ∀ g listed a w, MidstL ops a0 I V g listed a w → Region.ready .any ops listed = [] → Q .normal a w := by
    intro g listed a w h hr
    exact hdone g listed a w (fun i hi => ready_one2 h.size (fun i o ho => (ht i o ho).1) hr i hi) h
  intro fuel
  induction fuel with
  | zero =>
    intro g listed a w hc h
    have hr : Region.ready .any ops listed = [] := by
      rw [List.eq_nil_iff_forall_not_mem]
      intro i hi
      obtain ⟨h1, _⟩ := mem_ready.1 hi
      obtain ⟨h2, h3⟩ := getD_false h1
      have := count_set listed i h2 h3
      omega
    exact ⟨hr, done g listed a w h hr⟩
  | succ fuel ih =>
    intro g listed a w hc h
    refine ⟨done g listed a w h, fun i hi => ?_⟩
    obtain ⟨h1, o, ho, hall⟩ := mem_ready.1 hi
    obtain ⟨h2, h3⟩ := getD_false h1
    have hin : i < ops.size := (Array.getElem?_eq_some_iff.1 ho).1
    have hK : ∀ g' v w', I g' (listed.setIfInBounds i true) w' → (∀ j u, listed.getD j false = true → V g listed j w u → V g' (listed.setIfInBounds i true) j w' u) → V g' (listed.setIfInBounds i true) i w' v → wpAny P .any ops Q fuel (listed.setIfInBounds i true) (a.put o.dst v) w' := by
      intro g' v w' hI' hV' hv
      refine ih g' _ _ _ (by have := count_set listed i h2 h3; omega) ⟨by simpa using h.size, hI', ?_, ?_, fun d hd => ?_, fun j d hj hlj => ?_⟩
      · rw [← h.defers]; cases o.dst <;> rfl
      · rw [← h.len]; cases o.dst <;> simp [Act.put]
      · have hne : o.dst ≠ some d := by
          have := Array.all_eq_true_iff_forall_mem.1 hd o (Array.mem_of_getElem? ho)
          simpa using this
        rw [← h.out d hd]
        cases hx : o.dst with
        | none => rfl
        | some x =>
          rw [hx] at hne
          simp only [Act.put, Array.getElem?_setIfInBounds]
          rw [if_neg (fun e => hne (by rw [e]))]
      · by_cases hij : i = j
        · subst hij
          rw [ho] at hj
          have hj' : o.dst = some d := hj
          have hlt := ((ht i o ho).2 d hj').1
          refine ⟨v, ?_, hv⟩
          rw [hj']
          simp only [Act.put, Array.getElem?_setIfInBounds, if_true]
          rw [if_pos (by rw [h.len]; exact hlt)]
        · rw [getD_set_other hij] at hlj
          obtain ⟨u, hu, hVu⟩ := h.val j d hj hlj
          refine ⟨u, ?_, hV' j u hlj hVu⟩
          have hjs : j < ops.size := by
            cases hoj : ops[j]? with
            | none => rw [hoj] at hj; cases hj
            | some oj => exact (Array.getElem?_eq_some_iff.1 hoj).1
          cases hx : o.dst with
          | none => exact hu
          | some x =>
            have hne := ((ht i o ho).2 x hx).2 j hjs hij
            simp only [Act.put, Array.getElem?_setIfInBounds]
            rw [if_neg (fun e => hne (by rw [hj, e]))]
            exact hu
    have hs := hstep i hin g listed a w h.size h3 h.out h.inv (fun j d hdep => by
      unfold depB at hdep
      rw [ho] at hdep
      cases hoj : ops[j]? with
      | none => rw [hoj] at hdep; cases hdep
      | some oj =>
        rw [hoj] at hdep
        simp only [Bool.and_eq_true, Array.any_eq_true, beq_iff_eq] at hdep
        obtain ⟨⟨k, hk, hb, he⟩, hd⟩ := hdep
        have hlj : listed.getD j false = true := by
          rw [← he]
          exact hall _ (Array.getElem_mem hk) hb
        exact ⟨hlj, h.val j d (by rw [hoj]; exact hd) hlj⟩) o ho _ hK
    unfold wpOp
    rw [ho]
    simp only
    split
    · rename_i hw
      rw [if_pos hw] at hs
      exact .inl hs
    · rename_i hw
      rw [if_neg hw] at hs
      exact hs

/-- The law. -/
theorem wp_region_midstL {id : Nat} {a0 : Act} {w0 : World} (I : G → Array Bool → World → Prop) (V : G → Array Bool → Nat → World → Value → Prop) (hm : P.follows .mixedOrders = true) (htidy : tidyB2 ops a0.tmps.size = true) (g0 : G) (hI : I g0 (Array.replicate ops.size false) w0.drew)
    (hstep : ∀ i, i < ops.size → StepL P ops Q a0 I V i)
    (hdone : ∀ g L a w, (∀ i, i < ops.size → L.getD i false = true) → MidstL ops a0 I V g L a w → Q .normal a w) : (Code.region id ops true).wp P Q a0 w0 := by
  refine wp_region_any hm (midstL_any htidy hstep hdone _ g0 _ _ _ (by simp) ⟨by simp, hI, rfl, rfl, fun _ _ => rfl, fun j d _ hl => ?_⟩)
  simp [Array.getD] at hl

/-- What an operation yielded, at the end. -/
theorem MidstL.get {a0 : Act} {I : G → Array Bool → World → Prop} {V : G → Array Bool → Nat → World → Value → Prop} {g : G} {L : Array Bool} {a : Act} {w : World} (h : MidstL ops a0 I V g L a w) (hL : ∀ i, i < ops.size → L.getD i false = true) (j d : Nat) (hj : ((ops[j]?).bind (·.dst)) = some d) : ∃ v, a.tmps[d]? = some v ∧ V g L j w v := by
  refine h.val j d hj (hL j ?_)
  cases ho : ops[j]? with
  | none => rw [ho] at hj; cases hj
  | some o => exact (Array.getElem?_eq_some_iff.1 ho).1
end
end Zo
/- Layer 4: the law's smallest parameters and header. -/
namespace Go.Proofs.YthcbgijmnonckaaGreat
open Go.RowKit Zo Zp
set_option linter.unusedVariables false
set_option linter.unusedSimpArgs false

def tinyS : SpsN := ⟨2, 2, 4, 0, 4, 0, [], 2, 0⟩
def tinyP : PpsN := ⟨false, false, 0, 26, 0, false, false, 1, 1⟩
def tinyH (qp : Int) : HeadN := ⟨0, 4, 2, 0, 0, 0, false, 0, 0, [], [], 0, 0, [], [], false, [], qp, false, 0, 0⟩

def tinySC : Array Value := #[.int .i64 2, .int .i64 2, .int .i64 4, .int .i64 0, .int .i64 4, .int .i64 0, .slice none 0 0, .int .i64 2, .int .i64 0]
def tinyPC : Array Value := #[.bool false, .bool false, .int .i64 0, .int .i64 26, .int .i64 0, .bool false, .bool false, .int .i64 1, .int .i64 1]
def tinyHC (qp : Int) : Array Value := headCells (tinyH qp) zAdr

theorem tiny_may : headMay (tinyH 26) tinyS tinyP 1 true := by decide
theorem tiny_not : ¬ headMay (tinyH 52) tinyS tinyP 1 true := by decide

/-- A function's results: three structs that lie in boxes. -/
theorem results_three {P : Program} {fn : Func} {p q r : Tmp} {t1 t2 t3 : TypeId} (h : fn.results = #[.cell p t1, .cell q t2, .cell r t3]) (tmps : Array Value) (w : World) (g1 g2 g3 : Nat) (u1 u2 u3 : TypeId) (c1 c2 c3 : Array Value) (fr1 fr2 fr3 : Nat × Nat) (d1 d2 d3 : TypeDesc)
    (hp : tmps.getD p undef = .pointer (some ⟨g1, 0, none⟩)) (hq : tmps.getD q undef = .pointer (some ⟨g2, 0, none⟩)) (hr : tmps.getD r undef = .pointer (some ⟨g3, 0, none⟩))
    (k1 : w.heap[g1]? = some (.cells c1 u1 fr1)) (k2 : w.heap[g2]? = some (.cells c2 u2 fr2)) (k3 : w.heap[g3]? = some (.cells c3 u3 fr3))
    (l1 : P.underlying t1 = some d1) (l2 : P.underlying t2 = some d2) (l3 : P.underlying t3 = some d3)
    (m1 : (match d1 with | .struct _ | .array _ _ => true | _ => false) = true) (m2 : (match d2 with | .struct _ | .array _ _ => true | _ => false) = true) (m3 : (match d3 with | .struct _ | .array _ _ => true | _ => false) = true)
    (i1 : (P.info? t1).map (·.size) = some c1.size) (i2 : (P.info? t2).map (·.size) = some c2.size) (i3 : (P.info? t3).map (·.size) = some c3.size) :
    (results fn tmps).run P w = .ok (.tuple #[.agg c1, .agg c2, .agg c3]) w := by
  have hp' : tmps[p]?.getD undef = .pointer (some ⟨g1, 0, none⟩) := by simpa using hp
  have hq' : tmps[q]?.getD undef = .pointer (some ⟨g2, 0, none⟩) := by simpa using hq
  have hr' : tmps[r]?.getD undef = .pointer (some ⟨g3, 0, none⟩) := by simpa using hr
  simp [results, h, hp', hq', hr', asAddr, run_loadVar_row w g1 u1 t1 c1 fr1 d1 k1 l1 m1 i1, run_loadVar_row w g2 u2 t2 c2 fr2 d2 k2 l2 m2 i2, run_loadVar_row w g3 u3 t3 c3 fr3 d3 k3 l3 m3 i3]

set_option maxRecDepth 100000 in
set_option maxHeartbeats 4000000 in
theorem tiny_any (w : World) : Calls Tryz.prog 33 #[] w fun e w' => e = .returned (.tuple #[.agg tinySC, .agg tinyPC, .agg (tinyHC 26)]) ∧ Below w.heap.size w w' := by
  obtain ⟨r1, r2, r3, B3, z3⟩ := boxes3 w #[.int .i64 0, .int .i64 0, .int .i64 0, .int .i64 0, .int .i64 0, .int .i64 0, .slice none 0 0, .int .i64 0, .int .i64 0] #[.bool false, .bool false, .int .i64 0, .int .i64 0, .int .i64 0, .bool false, .bool false, .int .i64 0, .int .i64 0] #[.int .i64 0, .int .i64 0, .int .i64 0, .int .i64 0, .int .i64 0, .int .i64 0, .bool false, .int .i64 0, .int .i64 0, .slice none 0 0, .slice none 0 0, .int .i64 0, .int .i64 0, .slice none 0 0, .slice none 0 0, .bool false, .slice none 0 0, .int .i64 0, .bool false, .int .i64 0, .int .i64 0] 29 31 26
  have BB := Lib.hid B3
  have R1 := Lib.hid r1
  have R2 := Lib.hid r2
  have R3 := Lib.hid r3
  clear r1 r2 r3 B3 z3
  go_enter Tryz.func33, Tryz.ntmps33
  go_wp2_with (first
    | (refine wpList_store_whole rfl 29 (.tmp 0) (.tmp 3) rfl w.heap.size #[.int .i64 2, .int .i64 2, .int .i64 4, .int .i64 0, .int .i64 4, .int .i64 0, .slice none 0 0, .int .i64 2, .int .i64 0] ?_ ?_ 29 #[.int .i64 0, .int .i64 0, .int .i64 0, .int .i64 0, .int .i64 0, .int .i64 0, .slice none 0 0, .int .i64 0, .int .i64 0] R1.out ?_ ?_ ?_ ?_; rfl; rfl; kernel_rfl; rfl; (simp [Value.oneCell']); intro w4 h4 f4; have p4 := (f4.block _ (row_lt R2.out) (by omega)).trans R2.out; have q4 := (f4.block _ (row_lt R3.out) (by omega)).trans R3.out)
    | (refine wpList_store_whole rfl 31 (.tmp 1) (.tmp 4) rfl (w.heap.size + 1) #[.bool false, .bool false, .int .i64 0, .int .i64 26, .int .i64 0, .bool false, .bool false, .int .i64 1, .int .i64 1] ?_ ?_ 31 #[.bool false, .bool false, .int .i64 0, .int .i64 0, .int .i64 0, .bool false, .bool false, .int .i64 0, .int .i64 0] p4 ?_ ?_ ?_ ?_; rfl; rfl; kernel_rfl; rfl; (simp [Value.oneCell']); intro w5 h5 f5; have s5 := (f5.block _ (row_lt h4) (by omega)).trans h4; have q5 := (f5.block _ (row_lt q4) (by omega)).trans q4)
    | (refine wpList_store_whole rfl 26 (.tmp 2) (.tmp 5) rfl (w.heap.size + 1 + 1) #[.int .i64 0, .int .i64 4, .int .i64 2, .int .i64 0, .int .i64 0, .int .i64 0, .bool false, .int .i64 0, .int .i64 0, .slice none 0 0, .slice none 0 0, .int .i64 0, .int .i64 0, .slice none 0 0, .slice none 0 0, .bool false, .slice none 0 0, .int .i64 26, .bool false, .int .i64 0, .int .i64 0] ?_ ?_ 26 #[.int .i64 0, .int .i64 0, .int .i64 0, .int .i64 0, .int .i64 0, .int .i64 0, .bool false, .int .i64 0, .int .i64 0, .slice none 0 0, .slice none 0 0, .int .i64 0, .int .i64 0, .slice none 0 0, .slice none 0 0, .bool false, .slice none 0 0, .int .i64 0, .bool false, .int .i64 0, .int .i64 0] q5 ?_ ?_ ?_ ?_; rfl; rfl; kernel_rfl; rfl; (simp [Value.oneCell']); intro w6 h6 f6; have s6 := (f6.block _ (row_lt s5) (by omega)).trans s5; have p6 := (f6.block _ (row_lt h5) (by omega)).trans h5))
  refine bodyPost_ret (v := .tuple #[.agg tinySC, .agg tinyPC, .agg (tinyHC 26)]) (results_three rfl _ _ w.heap.size (w.heap.size + 1) (w.heap.size + 1 + 1) _ _ _ _ _ _ _ _ _ _ _ _ rfl rfl rfl s6 p6 h6 Tryz.underlying29 Tryz.underlying31 Tryz.underlying26 rfl rfl rfl (by kernel_rfl) (by kernel_rfl) (by kernel_rfl)) rfl ⟨rfl, ?_⟩
  exact ((BB.out.trans (Fr.below f4 BB.out.size (fun k e => by omega))).trans (Fr.below f5 (Nat.le_trans BB.out.size f4.size) (fun k e => by omega))).trans (Fr.below f6 (Nat.le_trans BB.out.size (Nat.le_trans f4.size f5.size)) (fun k e => by omega))

end Go.Proofs.YthcbgijmnonckaaGreat
