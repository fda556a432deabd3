/- A plain region told operation by operation, by what each of its operations yields: the law of the drawn one, in order. No program is named here. -/
import Derived.Test.YthcbgijmnonckaaGreatRS
namespace Zo
open Go Go.RowKit

section
variable {P : Program} {ops : Array Oper} {Q : Exit → Act → World → Prop}

theorem tidy_at {n : Nat} (htidy : tidyB ops n = true) : ∀ i o, ops[i]? = some o → (∀ e ∈ o.after, e.on < i) ∧ ∀ d, o.dst = some d → d < n ∧ ∀ j, j < ops.size → i ≠ j → ((ops[j]?).bind (·.dst)) ≠ some d := by
  have ht0 := List.all_eq_true.1 htidy
  intro i o ho
  have hi : i < ops.size := (Array.getElem?_eq_some_iff.1 ho).1
  have := ht0 i (List.mem_range.2 hi)
  rw [ho] at this
  simp only [Bool.and_eq_true] at this
  refine ⟨fun e he => ?_, fun d hd => ?_⟩
  · have h1 := Array.all_eq_true_iff_forall_mem.1 this.1 e he
    simpa using h1
  · have h2 := this.2
    rw [hd] at h2
    simp only [Bool.and_eq_true, decide_eq_true_eq, List.all_eq_true, List.mem_range, Bool.or_eq_true, beq_iff_eq, bne_iff_ne] at h2
    exact ⟨h2.1, fun j hj hne => (h2.2 j hj).resolve_left hne⟩

theorem Midst.next {a0 : Act} {I : World → Prop} {V : Nat → World → Value → Prop} (htidy : tidyB ops a0.tmps.size = true) {listed : Array Bool} {a : Act} {w : World} (h : Midst ops a0 I V listed a w) {i : Nat} {o : Oper} (ho : ops[i]? = some o)
    {v : Value} {w' : World} (hI' : I w') (hV' : ∀ j u, V j w u → V j w' u) (hv : V i w' v) : Midst ops a0 I V (listed.setIfInBounds i true) (a.put o.dst v) w' := by
  have ht := tidy_at htidy
  refine ⟨by simpa using h.size, hI', ?_, ?_, fun d hd => ?_, fun j d hj hlj => ?_⟩
  · rw [← h.defers]; cases o.dst <;> rfl
  · rw [← h.len]; cases o.dst <;> simp [Act.put]
  · have hne : o.dst ≠ some d := by
      have := Array.all_eq_true_iff_forall_mem.1 hd o (Array.mem_of_getElem? ho)
      simpa using this
    rw [← h.out d hd]
    cases hx : o.dst with
    | none => rfl
    | some x =>
      rw [hx] at hne
      simp only [Act.put, Array.getElem?_setIfInBounds]
      rw [if_neg (fun e => hne (by rw [e]))]
  · by_cases hij : i = j
    · subst hij
      rw [ho] at hj
      have hj' : o.dst = some d := hj
      have hlt := ((ht i o ho).2 d hj').1
      refine ⟨v, ?_, hv⟩
      rw [hj']
      simp only [Act.put, Array.getElem?_setIfInBounds, if_true]
      rw [if_pos (by rw [h.len]; exact hlt)]
    · rw [getD_set_other hij] at hlj
      obtain ⟨u, hu, hVu⟩ := h.val j d hj hlj
      refine ⟨u, ?_, hV' j u hVu⟩
      have hjs : j < ops.size := by
        cases hoj : ops[j]? with
        | none => rw [hoj] at hj; cases hj
        | some oj => exact (Array.getElem?_eq_some_iff.1 hoj).1
      cases hx : o.dst with
      | none => exact hu
      | some x =>
        have hne := ((ht i o ho).2 x hx).2 j hjs hij
        simp only [Act.put, Array.getElem?_setIfInBounds]
        rw [if_neg (fun e => hne (by rw [hj, e]))]
        exact hu

theorem row_any {a0 : Act} {I : World → Prop} {V : Nat → World → Value → Prop} (htidy : tidyB ops a0.tmps.size = true)
    (hstep : ∀ i, i < ops.size → StepOk P ops Q a0 I V i)
    (hdone : ∀ a w, Midst ops a0 I V (Array.replicate ops.size true) a w → Q .normal a w) :
    ∀ (n k : Nat), k + n = ops.size → ∀ (listed : Array Bool) (a : Act) (w : World), (∀ j, j < k → listed.getD j false = true) → Midst ops a0 I V listed a w → wpList P ops Q (ops.toList.drop k) a w := by
  have ht := tidy_at htidy
  intro n
  induction n with
  | zero =>
    intro k hk listed a w hl h
    rw [List.drop_eq_nil_of_le (by simp; omega)]
    refine hdone a w ⟨by simp, h.inv, h.defers, h.len, h.out, fun j d hj _ => h.val j d hj (hl j ?_)⟩
    cases ho : ops[j]? with
    | none => rw [ho] at hj; cases hj
    | some o => have := (Array.getElem?_eq_some_iff.1 ho).1; omega
  | succ n ih =>
    intro k hk listed a w hl h
    have hin : k < ops.size := by omega
    have ho : ops[k]? = some ops[k] := by simp [hin]
    have hlk : k < listed.size := by rw [h.size]; exact hin
    rw [List.drop_eq_getElem_cons (by simpa using hin)]
    have hK : ∀ v w', I w' → (∀ j u, V j w u → V j w' u) → V k w' v → wpList P ops Q (ops.toList.drop (k + 1)) (a.put ops[k].dst v) w' := by
      intro v w' hI' hV' hv
      refine ih (k + 1) (by omega) (listed.setIfInBounds k true) _ _ (fun j hj => ?_) (h.next htidy ho hI' hV' hv)
      by_cases e : k = j
      · subst e
        exact getD_set_same hlk
      · rw [getD_set_other e]
        exact hl j (by omega)
    have hs := hstep k hin a w h.out h.inv (fun j d hdep => by
      unfold depB at hdep
      rw [ho] at hdep
      cases hoj : ops[j]? with
      | none => rw [hoj] at hdep; cases hdep
      | some oj =>
        rw [hoj] at hdep
        simp only [Bool.and_eq_true, Array.any_eq_true, beq_iff_eq] at hdep
        obtain ⟨⟨q, hq, hb, he⟩, hd⟩ := hdep
        refine h.val j d (by rw [hoj]; exact hd) (hl j ?_)
        rw [← he]
        exact (ht k _ ho).1 _ (Array.getElem_mem hq)) _ ho _ hK
    show if Region.wanted ops[k] (yielded ops a.tmps) = true then _ else _
    split
    · rename_i hw
      rw [if_pos hw] at hs
      exact .inl hs
    · rename_i hw
      rw [if_neg hw] at hs
      exact hs

/-- The law: a plain region. -/
theorem wp_region_row {id : Nat} {a0 : Act} {w0 : World} (I : World → Prop) (V : Nat → World → Value → Prop) (htidy : tidyB ops a0.tmps.size = true) (hI : I w0)
    (hstep : ∀ i, i < ops.size → StepOk P ops Q a0 I V i)
    (hdone : ∀ a w, Midst ops a0 I V (Array.replicate ops.size true) a w → Q .normal a w) : (Code.region id ops false).wp P Q a0 w0 := by
  refine wp_region_list ?_
  have := row_any htidy hstep hdone ops.size 0 (by omega) (Array.replicate ops.size false) a0 w0 (fun j hj => by omega) ⟨by simp, hI, rfl, rfl, fun _ _ => rfl, fun j d _ hl => ?_⟩
  · simpa using this
  · simp [Array.getD] at hl
end
end Zo
