/- Layer 4: the walk from bits to fields is the document's reading. -/
import Derived.Test.YthcbgijmnonckaaGreatJQ
import Derived.Test.YthcbgijmnonckaaGreatJU
import Derived.Test.YthcbgijmnonckaaGreatJO
namespace Go.Proofs.YthcbgijmnonckaaGreat
open Go.RowKit Zo Zp
set_option linter.unusedVariables false
set_option linter.unusedSimpArgs false

section
variable (f : Nat → Bool) (T : Nat)

theorem end_sim0 (P : PpsN) (h : HeadN) (p : Nat) (e0 : h.off = false) (e1 : h.a = 0) (e2 : h.b = 0) :
    (∃ v1 v2 v3 v4 q, fEnd (readF f T) P h ⟨0, p⟩ = ({ h with qp := v1, off := v2, a := v3, b := v4 }, ⟨0, q⟩) ∧ ∀ k, cEnd f T P p k = k v1 v2 v3 v4 q) ∨ ∃ c, (fEnd (readF f T) P h ⟨0, p⟩).2.c = c ∧ c ≠ 0 ∧ ∀ k, cEnd f T P p k = .error c := by
  cases hd0 : P.deblock with
  | true => exact end_sim f T P h p e0 e1 e2 hd0
  | false =>
    rcases (sim_ue f T h.qp p).cases with ⟨v1, q1, a1, b1⟩ | ⟨c, a, b, hc, hn⟩
    · refine .inl ⟨v1, false, 0, 0, q1, ?_, fun k => ?_⟩
      · simp only [fEnd, hd0, b1, Bool.false_eq_true, if_false]
        simp only [e0, e1, e2]
      · simp only [cEnd, hd0, Bool.false_and, rIf_false, a1, Zp.then_ok]
    · refine .inr ⟨c, ?_, hc, fun k => ?_⟩
      · simp only [fEnd, hd0, Bool.false_eq_true, if_false]
        exact b
      · simp only [cEnd, a, err_then]

theorem read_head (u : SpsN) (P : PpsN) (ref : Int) (key : Bool) (p : Nat) (hu : (0 ≤ u.fbits ∧ u.fbits ≤ 32) ∧ 0 ≤ u.pbits ∧ u.pbits ≤ 32) :
    (∃ h q, fHead (readF f T) u P ref key HeadN.zero ⟨0, p⟩ = (h, ⟨0, q⟩) ∧ rHead f T u P ref key p = .ok (h, q)) ∨ ∃ c, (fHead (readF f T) u P ref key HeadN.zero ⟨0, p⟩).2.c = c ∧ c ≠ 0 ∧ rHead f T u P ref key p = .error c := by
  rw [rHead_is]
  rcases begin_sim f T u key p hu with ⟨v1, v2, v3, v4, v5, v6, q1, f1, ⟨t0, t2⟩, g1⟩ | ⟨c, f1, hc, g1⟩
  rotate_left
  · refine .inr ⟨c, ?_, hc, g1 _⟩
    have hn : (fBegin (readF f T) u key HeadN.zero ⟨0, p⟩).2.c ≠ 0 := by rw [f1]; exact hc
    simp only [fHead, fLists_idle hn, fWeights_idle hn, fMarks_idle hn, fEnd_idle hn, ite_self]
    exact f1
  rw [g1]
  rcases lists_sim f T v1 (v2 + 1) v3 v4 v5 v6 q1 t0 t2 with ⟨sp, a0, a1, m0, m1, q2, f2, g2⟩ | ⟨c, f2, hc, g2⟩
  rotate_left
  · refine .inr ⟨c, ?_, hc, g2 _⟩
    have hn : (fLists (readF f T) ⟨v1, v2 + 1, v3, v4, v5, v6, false, 0, 0, [], [], 0, 0, [], [], false, [], 0, false, 0, 0⟩ ⟨0, q1⟩).2.c ≠ 0 := by rw [f2]; exact hc
    have hif : ∀ (b : Bool) (r : HeadN × Ws Nat), (if b = true then (r.1, r.2) else r) = r := fun b r => by cases b <;> rfl
    simp only [fHead, f1, fWeights_idle hn, hif, fMarks_idle hn, fEnd_idle hn]
    exact f2
  rw [g2]
  have hw : (∃ lg lc w0 w1 q, (if weighsN v3 P = true then fWeights (readF f T) ⟨v1, v2 + 1, v3, v4, v5, v6, sp, a0, a1, m0, m1, 0, 0, [], [], false, [], 0, false, 0, 0⟩ ⟨0, q2⟩ else (⟨v1, v2 + 1, v3, v4, v5, v6, sp, a0, a1, m0, m1, 0, 0, [], [], false, [], 0, false, 0, 0⟩, ⟨0, q2⟩)) = ((⟨v1, v2 + 1, v3, v4, v5, v6, sp, a0, a1, m0, m1, lg, lc, w0, w1, false, [], 0, false, 0, 0⟩ : HeadN), ⟨0, q⟩) ∧ ∀ k, cWeigh f T (weighsN v3 P) a0 a1 q2 k = k lg lc w0 w1 q)
      ∨ ∃ c, ((if weighsN v3 P = true then fWeights (readF f T) ⟨v1, v2 + 1, v3, v4, v5, v6, sp, a0, a1, m0, m1, 0, 0, [], [], false, [], 0, false, 0, 0⟩ ⟨0, q2⟩ else (⟨v1, v2 + 1, v3, v4, v5, v6, sp, a0, a1, m0, m1, 0, 0, [], [], false, [], 0, false, 0, 0⟩, ⟨0, q2⟩)) : HeadN × Ws Nat).2.c = c ∧ c ≠ 0 ∧ ∀ k, cWeigh f T (weighsN v3 P) a0 a1 q2 k = .error c := by
    cases weighsN v3 P with
    | false => exact .inl ⟨0, 0, [], [], q2, rfl, fun k => rfl⟩
    | true =>
      rcases weigh_sim f T ⟨v1, v2 + 1, v3, v4, v5, v6, sp, a0, a1, m0, m1, 0, 0, [], [], false, [], 0, false, 0, 0⟩ q2 rfl rfl with ⟨lg, lc, w0, w1, q, f3, g3⟩ | ⟨c, f3, hc, g3⟩
      · exact .inl ⟨lg, lc, w0, w1, q, f3, g3⟩
      · exact .inr ⟨c, f3, hc, g3⟩
  rcases hw with ⟨lg, lc, w0, w1, q3, f3, g3⟩ | ⟨c, f3, hc, g3⟩
  rotate_left
  · refine .inr ⟨c, ?_, hc, g3 _⟩
    simp only [fHead, f1, f2]
    generalize hr : (if weighsN v3 P = true then fWeights (readF f T) (⟨v1, v2 + 1, v3, v4, v5, v6, sp, a0, a1, m0, m1, 0, 0, [], [], false, [], 0, false, 0, 0⟩ : HeadN) ⟨0, q2⟩ else (⟨v1, v2 + 1, v3, v4, v5, v6, sp, a0, a1, m0, m1, 0, 0, [], [], false, [], 0, false, 0, 0⟩, ⟨0, q2⟩)) = r at *
    have hn : r.2.c ≠ 0 := by rw [f3]; exact hc
    rw [fMarks_idle hn, fEnd_idle hn]
    exact f3
  rw [g3]
  rcases marks_sim f T ref key ⟨v1, v2 + 1, v3, v4, v5, v6, sp, a0, a1, m0, m1, lg, lc, w0, w1, false, [], 0, false, 0, 0⟩ q3 rfl rfl with ⟨lk, os, q4, f4, g4⟩ | ⟨c, f4, hc, g4⟩
  rotate_left
  · refine .inr ⟨c, ?_, hc, g4 _⟩
    have hn : (fMarks (readF f T) ref key ⟨v1, v2 + 1, v3, v4, v5, v6, sp, a0, a1, m0, m1, lg, lc, w0, w1, false, [], 0, false, 0, 0⟩ ⟨0, q3⟩).2.c ≠ 0 := by rw [f4]; exact hc
    simp only [fHead, f1, f2]
    rw [f3]
    simp only [fEnd_idle hn]
    exact f4
  rw [g4]
  rcases end_sim0 f T P ⟨v1, v2 + 1, v3, v4, v5, v6, sp, a0, a1, m0, m1, lg, lc, w0, w1, lk, os, 0, false, 0, 0⟩ q4 rfl rfl rfl with ⟨qp, off, a, b, q5, f5, g5⟩ | ⟨c, f5, hc, g5⟩
  rotate_left
  · refine .inr ⟨c, ?_, hc, g5 _⟩
    simp only [fHead, f1, f2]
    rw [f3]
    simp only [f4]
    exact f5
  refine .inl ⟨⟨v1, v2 + 1, v3, v4, v5, v6, sp, a0, a1, m0, m1, lg, lc, w0, w1, lk, os, qp, off, a, b⟩, q5, ?_, ?_⟩
  · simp only [fHead, f1, f2]
    rw [f3]
    simp only [f4, f5]
  · rw [g5]
end
end Go.Proofs.YthcbgijmnonckaaGreat
/- Layer 4: how long the lists are of a header that was read; what Get tells. -/
namespace Go.Proofs.YthcbgijmnonckaaGreat
open Go.RowKit Zo Zp
set_option linter.unusedVariables false
set_option linter.unusedSimpArgs false

section
variable {σ : Type} {F : WayFns σ}
theorem fMany_len {α : Type} {item : α → Ws σ → α × Ws σ} : ∀ (l : List α) (s : Ws σ), (fMany item l s).1.length = l.length
  | [], s => rfl
  | x :: l, s => by simp only [fMany, List.length_cons]; rw [fMany_len l]

theorem fList_len {α : Type} {zero : α} {item : α → Ws σ → α × Ws σ} {n : Int} {s : Ws σ} (h : s.c = 0 → n ≤ 16) : (fList zero item n [] s).1.length ≤ 16 := by
  unfold fList
  split
  · rename_i e
    rw [fMany_len, enough_nil, List.length_replicate]
    have := h e
    omega
  · simp

theorem fCounted_len {α : Type} {zero : α} {item : α → Ws σ → α × Ws σ} {s : Ws σ} : (fCounted F zero item 16 [] s).1.length ≤ 16 := by
  unfold fCounted
  exact fList_len (fun e => of_decide_eq_true (fAsk_ok _ _ e).1)

theorem if_len {α : Type} {b : Bool} {r : List α × Ws σ} {s : Ws σ} (h : r.1.length ≤ 16) : (if b = true then r else ([], s)).1.length ≤ 16 := by
  cases b
  · simp
  · exact h

theorem lists_len (h : HeadN) (s : Ws σ) (e0 : h.mods0 = []) (e1 : h.mods1 = []) : (fLists F h s).1.mods0.length ≤ 16 ∧ (fLists F h s).1.mods1.length ≤ 16 ∧ ((fLists F h s).2.c = 0 → (fLists F h s).1.act0 ≤ 8 ∧ (fLists F h s).1.act1 ≤ 8) := by
  refine ⟨?_, ?_, fun e => ?_⟩
  · simp only [fLists, e0]
    exact if_len fCounted_len
  · simp only [fLists, e1]
    exact if_len fCounted_len
  · have e1 := if_mono fCounted_mono e
    have e2 := if_mono fCounted_mono e1
    have e3 := (fAsk_ok _ _ e2).1
    simp only [Bool.and_eq_true, decide_eq_true_eq] at e3
    exact e3

theorem weights_len (h : HeadN) (s : Ws σ) (e0 : h.w0 = []) (e1 : h.w1 = []) (ha : s.c = 0 → h.act0 ≤ 8 ∧ h.act1 ≤ 8) : (fWeights F h s).1.w0.length ≤ 16 ∧ (fWeights F h s).1.w1.length ≤ 16 := by
  have m1 : ∀ {x : Int} {t : Ws σ}, (fUe F x 0 t).2.c = 0 → t.c = 0 := fUe_mono
  refine ⟨?_, ?_⟩
  · simp only [fWeights, e0]
    refine fList_len (fun e => ?_)
    have := (ha (m1 (m1 e))).1
    omega
  · simp only [fWeights, e1]
    refine fList_len (fun e => ?_)
    have e2 : (fUe F h.logc 0 (fUe F h.log 0 s).2).2.c = 0 := Classical.byContradiction fun hn => by
      rw [fList_idle hn] at e
      exact hn e
    have := (ha (m1 (m1 e2))).2
    omega

theorem marks_len (ref : Int) (key : Bool) (h : HeadN) (s : Ws σ) (e0 : h.ops = []) : (fMarks F ref key h s).1.ops.length ≤ 16 := by
  simp only [fMarks, e0]
  exact if_len fCounted_len

structure HeadShort (h : HeadN) : Prop where
  l0 : h.mods0.length ≤ 16
  l1 : h.mods1.length ≤ 16
  l2 : h.w0.length ≤ 16
  l3 : h.w1.length ≤ 16
  l4 : h.ops.length ≤ 16

theorem head_short (u : SpsN) (p : PpsN) (ref : Int) (key : Bool) (s : Ws σ) : HeadShort (fHead F u p ref key HeadN.zero s).1 := by
  have l := lists_len (F := F) (fBegin F u key HeadN.zero s).1 (fBegin F u key HeadN.zero s).2 rfl rfl
  have w : ∀ b : Bool, (if b = true then fWeights F (fLists F (fBegin F u key HeadN.zero s).1 (fBegin F u key HeadN.zero s).2).1 (fLists F (fBegin F u key HeadN.zero s).1 (fBegin F u key HeadN.zero s).2).2 else fLists F (fBegin F u key HeadN.zero s).1 (fBegin F u key HeadN.zero s).2).1.w0.length ≤ 16 ∧
      (if b = true then fWeights F (fLists F (fBegin F u key HeadN.zero s).1 (fBegin F u key HeadN.zero s).2).1 (fLists F (fBegin F u key HeadN.zero s).1 (fBegin F u key HeadN.zero s).2).2 else fLists F (fBegin F u key HeadN.zero s).1 (fBegin F u key HeadN.zero s).2).1.w1.length ≤ 16 ∧
      (if b = true then fWeights F (fLists F (fBegin F u key HeadN.zero s).1 (fBegin F u key HeadN.zero s).2).1 (fLists F (fBegin F u key HeadN.zero s).1 (fBegin F u key HeadN.zero s).2).2 else fLists F (fBegin F u key HeadN.zero s).1 (fBegin F u key HeadN.zero s).2).1.mods0.length ≤ 16 ∧
      (if b = true then fWeights F (fLists F (fBegin F u key HeadN.zero s).1 (fBegin F u key HeadN.zero s).2).1 (fLists F (fBegin F u key HeadN.zero s).1 (fBegin F u key HeadN.zero s).2).2 else fLists F (fBegin F u key HeadN.zero s).1 (fBegin F u key HeadN.zero s).2).1.mods1.length ≤ 16 ∧
      (if b = true then fWeights F (fLists F (fBegin F u key HeadN.zero s).1 (fBegin F u key HeadN.zero s).2).1 (fLists F (fBegin F u key HeadN.zero s).1 (fBegin F u key HeadN.zero s).2).2 else fLists F (fBegin F u key HeadN.zero s).1 (fBegin F u key HeadN.zero s).2).1.ops = [] := by
    intro b
    cases b
    · exact ⟨by simp [fLists, fBegin, HeadN.zero], by simp [fLists, fBegin, HeadN.zero], l.1, l.2.1, rfl⟩
    · have g := weights_len (F := F) (fLists F (fBegin F u key HeadN.zero s).1 (fBegin F u key HeadN.zero s).2).1 (fLists F (fBegin F u key HeadN.zero s).1 (fBegin F u key HeadN.zero s).2).2 rfl rfl l.2.2
      exact ⟨g.1, g.2, l.1, l.2.1, rfl⟩
  have w := w (weighsN (fLists F (fBegin F u key HeadN.zero s).1 (fBegin F u key HeadN.zero s).2).1.type p)
  simp only [fHead]
  generalize (if weighsN (fLists F (fBegin F u key HeadN.zero s).1 (fBegin F u key HeadN.zero s).2).1.type p = true then fWeights F (fLists F (fBegin F u key HeadN.zero s).1 (fBegin F u key HeadN.zero s).2).1 (fLists F (fBegin F u key HeadN.zero s).1 (fBegin F u key HeadN.zero s).2).2 else fLists F (fBegin F u key HeadN.zero s).1 (fBegin F u key HeadN.zero s).2) = r at *
  have mo := marks_len (F := F) ref key r.1 r.2 w.2.2.2.2
  simp only [fEnd]
  split
  · exact ⟨w.2.2.1, w.2.2.2.1, w.1, w.2.1, mo⟩
  · exact ⟨w.2.2.1, w.2.2.2.1, w.1, w.2.1, mo⟩
end

/-- What Get tells, by what the walk has left. -/
theorem got_is (f : Nat → Bool) (T : Nat) (u : SpsN) (P : PpsN) (ref : Int) (key : Bool) (p : Nat) (hst : mayStand u P ref) (h' : HeadN) (c' : Int) (q : Nat) (hr : fHead (readF f T) u P ref key HeadN.zero ⟨0, p⟩ = (h', ⟨c', q⟩)) :
    gotHead f T u P ref key p = if (fAsk (decide (headMay h' u P ref key)) (⟨c', q⟩ : Ws Nat)).c = 0 then (h', 0, q) else (HeadN.zero, (fAsk (decide (headMay h' u P ref key)) (⟨c', q⟩ : Ws Nat)).c, p) := by
  obtain ⟨u1, u2, u3, u4, u5, u6, u7, u8, _⟩ := id hst.1
  have hb : (0 ≤ u.fbits ∧ u.fbits ≤ 32) ∧ 0 ≤ u.pbits ∧ u.pbits ≤ 32 := ⟨⟨by omega, by omega⟩, by omega, by omega⟩
  unfold gotHead
  rw [if_pos (show u.may ∧ P.may ∧ inZ ref 0 3 from hst)]
  rcases read_head f T u P ref key p hb with ⟨h, q2, e1, e2⟩ | ⟨c, e1, hc, e2⟩
  · rw [hr] at e1
    cases e1
    rw [e2]
    simp only
    by_cases hm : headMay h' u P ref key
    · rw [decide_eq_true hm, ask_yes', if_pos hm, if_pos rfl]
    · rw [decide_eq_false hm, ask_no, if_neg hm]
      rfl
  · rw [hr] at e1
    simp only at e1
    subst e1
    rw [e2, fAsk_idle (s := (⟨c', q⟩ : Ws Nat)) hc, if_neg hc]

/-- A function's results: a struct that lies in a box, and a number. -/
theorem results_two {P : Program} {fn : Func} {p q : Tmp} {ty : TypeId} (h : fn.results = #[.cell p ty, .tmp q]) (tmps : Array Value) (w : World) (g : Nat) (t : TypeId) (cs : Array Value) (fr : Nat × Nat) (d : TypeDesc)
    (hp : tmps.getD p undef = .pointer (some ⟨g, 0, none⟩)) (hg : w.heap[g]? = some (.cells cs t fr)) (hu : P.underlying ty = some d) (hd : (match d with | .struct _ | .array _ _ => true | _ => false) = true) (hi : (P.info? ty).map (·.size) = some cs.size) (v : Value) (hv : tmps.getD q undef = v) :
    (results fn tmps).run P w = .ok (.tuple #[.agg cs, v]) w := by
  have hp' : tmps[p]?.getD undef = .pointer (some ⟨g, 0, none⟩) := by simpa using hp
  have hv' : tmps[q]?.getD undef = v := by simpa using hv
  simp [results, h, hp', hv', asAddr, run_loadVar_row w g t ty cs fr d hg hu hd hi]

/-- What a call that reads may turn: the Reader, and blocks of which nothing is known. -/
def Plain (B : Nat) (w : World) (k : Nat) : Prop := k < B ∨ ∃ cs t, w.heap[k]? = some (.cells cs t (0, 0))

/-- Lists that an answer holds: made by the call. -/
structure RowNew {α : Type} (k : Nat) (cells : α → List Int) (W w : World) (a : Option Addr) (l : List α) : Prop where
  row : KRow k cells w a l
  new : ∀ x, l ≠ [] → a = some x → W.heap.size ≤ x.block ∧ ∃ cs t, w.heap[x.block]? = some (.cells cs t (0, 0))

structure HeadNew (W w : World) (h : HeadN) (A : Adr) : Prop where
  m0 : RowNew 2 modI W w A.m0 h.mods0
  m1 : RowNew 2 modI W w A.m1 h.mods1
  q0 : RowNew 6 weightI W w A.q0 h.w0
  q1 : RowNew 6 weightI W w A.q1 h.w1
  os : RowNew 3 opI W w A.os h.ops
  sh : HeadShort h

theorem RowNew.nil {α : Type} (k : Nat) (cells : α → List Int) (W w : World) (a : Option Addr) : RowNew (α := α) k cells W w a [] := ⟨KRow.nil _ _ _ _, fun _ h => absurd rfl h⟩

end Go.Proofs.YthcbgijmnonckaaGreat
