/- Layer 4: the walk, whichever way: what its pieces leave. -/
import Derived.Test.YthcbgijmnonckaaGreatJM
import Derived.Test.YthcbgijmnonckaaGreatJK
namespace Go.Proofs.YthcbgijmnonckaaGreat
open Go.RowKit Zo Zp
set_option linter.unusedVariables false
set_option linter.unusedSimpArgs false

section
variable {σ : Type} {C : Ctx} {F : WayFns σ} {fuel : σ → Nat} {way : World → σ → Prop}

theorem fUe_mono {x l : Int} {s : Ws σ} (e : (fUe F x l s).2.c = 0) : s.c = 0 := Classical.byContradiction fun h => h (by rw [fUe_idle h] at e; exact e)
theorem fCounted_mono {α : Type} {zero : α} {item : α → Ws σ → α × Ws σ} {m : Int} {l : List α} {s : Ws σ} (e : (fCounted F zero item m l s).2.c = 0) : s.c = 0 := Classical.byContradiction fun h => h (by rw [fCounted_idle h] at e; exact e)
theorem if_mono {α : Type} {b : Bool} {r : α × Ws σ} {x : α} {s : Ws σ} (h : r.2.c = 0 → s.c = 0) (e : (if b = true then r else (x, s)).2.c = 0) : s.c = 0 := by
  cases b
  · exact e
  · exact h e
theorem if_calm {α : Type} {b : Bool} {r : α × Ws σ} {x : α} {s : Ws σ} (h : r.1 = x) : (if b = true then r else (x, s)).1 = x := by
  cases b
  · rfl
  · exact h

theorem lists_shape (ok : WayOk C F fuel way) (h : HeadN) (s : Ws σ) : ∃ (sp : Bool) (a0 a1 : Int) (m0 m1 : List ModN) (t : Ws σ), fLists F h s = ({ h with spatial := sp, act0 := a0, act1 := a1, mods0 := m0, mods1 := m1 }, t) ∧ (t.c = 0 → a0 ≤ 8 ∧ a1 ≤ 8) ∧ (C.moves = false → a0 = h.act0 ∧ a1 = h.act1) := by
  refine ⟨_, _, _, _, _, _, rfl, fun e => ?_, fun hm => ⟨if_calm (fUe_calm ok hm _ _ _), if_calm (fUe_calm ok hm _ _ _)⟩⟩
  have e1 := if_mono fCounted_mono e
  have e2 := if_mono fCounted_mono e1
  have e3 := (fAsk_ok _ _ e2).1
  simp only [Bool.and_eq_true, decide_eq_true_eq] at e3
  exact e3

theorem weights_shape (h : HeadN) (s : Ws σ) : ∃ (lg lc : Int) (q0 q1 : List WeightN) (t : Ws σ), fWeights F h s = ({ h with log := lg, logc := lc, w0 := q0, w1 := q1 }, t) := ⟨_, _, _, _, _, rfl⟩
theorem marks_shape (ref : Int) (key : Bool) (h : HeadN) (s : Ws σ) : ∃ (lk : Bool) (os : List OpN) (t : Ws σ), fMarks F ref key h s = ({ h with longkey := lk, ops := os }, t) := ⟨_, _, _, rfl⟩
theorem edges_shape (h : HeadN) (s : Ws σ) : ∃ (f : Bool) (a b : Int) (t : Ws σ), fEdges F h s = ({ h with off := f, a := a, b := b }, t) := ⟨_, _, _, _, rfl⟩

/-- What a header must be for the walk to take it: its lists are few; they are empty where numbers move to them. -/
structure HeadIn (C : Ctx) (h : HeadN) : Prop where
  m0 : C.moves = true → h.mods0 = []
  m1 : C.moves = true → h.mods1 = []
  m2 : C.moves = true → h.w0 = []
  m3 : C.moves = true → h.w1 = []
  m4 : C.moves = true → h.ops = []
  l0 : h.mods0.length ≤ 16
  l1 : h.mods1.length ≤ 16
  l2 : h.w0.length ≤ 16
  l3 : h.w1.length ≤ 16
  l4 : h.ops.length ≤ 16
  kw : C.moves = false → weighsN h.type C.p = true → h.act0 ≤ h.w0.length ∧ h.act1 ≤ h.w1.length

end
end Go.Proofs.YthcbgijmnonckaaGreat
/- Layer 4: the walk, whichever way: lists of references of one type. -/
namespace Go.Proofs.YthcbgijmnonckaaGreat
open Go.RowKit Zo Zp
set_option linter.unusedVariables false
set_option linter.unusedSimpArgs false

section
variable {σ : Type} {C : Ctx} {F : WayFns σ} {fuel : σ → Nat} {way : World → σ → Prop}

set_option maxRecDepth 100000 in
set_option maxHeartbeats 20000000 in
theorem lists_B (ok : WayOk C F fuel way) (W w : World) (n : Nat) (s : Ws σ) (hb : Nat) (h : HeadN) (A : Adr) (hst : St C fuel way (n + 400) w s) (hat : At C W w hb h A) (m0 : C.moves = true → h.mods0 = []) (m1 : C.moves = true → h.mods1 = []) (l0 : h.mods0.length ≤ 16) (l1 : h.mods1.length ≤ 16) (hs0 : (h.type == 1) = true) (hf0 : oneFirst h.type = true) :
    Calls Tryz.prog 85 #[.pointer (some ⟨C.kb, 0, none⟩), .pointer (some ⟨hb, 0, none⟩)] w fun e w' =>
      e = .returned (.tuple #[]) ∧ St C fuel way n w' (fLists F h s).2 ∧ ∃ A', At C W w' hb (fLists F h s).1 A' := by
  obtain ⟨x_first, x_count, x_type, x_fnum, x_id, x_poc, x_spatial, x_act0, x_act1, x_mods0, x_mods1, x_log, x_logc, x_w0, x_w1, x_longkey, x_ops, x_qp, x_off, x_a, x_b⟩ := h
  have OK := Lib.hid ok
  have S0 := Lib.hid hst
  have A0 := Lib.hid hat
  obtain ⟨w0, hw0⟩ : ∃ x, x = w := ⟨_, rfl⟩
  subst hw0
  have M_mods0 : C.moves = true → x_mods0 = [] := m0
  have M_mods1 : C.moves = true → x_mods1 = [] := m1
  have L_mods0 : x_mods0.length ≤ 16 := l0
  have L_mods1 : x_mods1.length ≤ 16 := l1
  have hs : (x_type == 1) = true := hs0
  have hf : oneFirst x_type = true := hf0
  clear m0 m1 l0 l1 hs0 hf0
  clear ok hst hat

  obtain ⟨⟨v1, t1⟩, h1⟩ : ∃ r, fFlag F x_spatial s = r := ⟨_, rfl⟩
  obtain ⟨⟨v2, t2⟩, h2⟩ : ∃ r, fUe F x_act0 1 t1 = r := ⟨_, rfl⟩
  obtain ⟨⟨v3, t3⟩, h3⟩ : ∃ r, fUe F x_act1 1 t2 = r := ⟨_, rfl⟩
  obtain ⟨t4, h4⟩ : ∃ r, fAsk (decide (v2 ≤ 8) && decide (v3 ≤ 8)) t3 = r := ⟨_, rfl⟩
  obtain ⟨⟨v5, t5⟩, h5⟩ : ∃ r, fCounted F ModN.zero (fMod F) 16 x_mods0 t4 = r := ⟨_, rfl⟩
  obtain ⟨⟨v6, t6⟩, h6⟩ : ∃ r, fCounted F ModN.zero (fMod F) 16 x_mods1 t5 = r := ⟨_, rfl⟩
  have E : fLists F ⟨x_first, x_count, x_type, x_fnum, x_id, x_poc, x_spatial, x_act0, x_act1, x_mods0, x_mods1, x_log, x_logc, x_w0, x_w1, x_longkey, x_ops, x_qp, x_off, x_a, x_b⟩ s = ((⟨x_first, x_count, x_type, x_fnum, x_id, x_poc, v1, v2, v3, v5, v6, x_log, x_logc, x_w0, x_w1, x_longkey, x_ops, x_qp, x_off, x_a, x_b⟩ : HeadN), t6) := by
    simp only [fLists, hs, hf, if_true, if_false, Bool.false_eq_true, h1, h2, h3, h4, h5, h6]
  rw [E]
  have H1 := Lib.hid h1
  have H2 := Lib.hid h2
  have H3 := Lib.hid h3
  have H4 := Lib.hid h4
  have H5 := Lib.hid h5
  have H6 := Lib.hid h6
  clear E h1 h2 h3 h4 h5 h6
  go_enter Tryz.func85, Tryz.ntmps85
  go_wp2_with (first | (refine wpList_load_row rfl _ _ rfl hb rfl _ _ _ _ A0.out.row Tryz.underlying26 rfl (by kernel_rfl) ?_))
  refine (hasSecond_any w0 ⟨x_first, x_count, x_type, x_fnum, x_id, x_poc, x_spatial, x_act0, x_act1, x_mods0, x_mods1, x_log, x_logc, x_w0, x_w1, x_longkey, x_ops, x_qp, x_off, x_a, x_b⟩ A.m0 A.m1 A.q0 A.q1 A.os A.m0c A.m1c A.q0c A.q1c A.osc).mono ?_
  rintro e w1 ⟨he1, b1⟩
  have hf1 : e = .returned (.bool true) := he1.trans (congrArg (fun x => Ending.returned (.bool x)) hs)
  subst hf1
  have S1 := Lib.hid (S0.out.grow OK.out b1)
  have A1 := Lib.hid (A0.out.grow b1)
  clear he1 b1 S0 A0
  go_wp2_with fail
  refine (OK.out.flag _ (n + 399) s hb 6 x_spatial (S1.out.less (by omega)) (A1.out.cell 6 _ rfl)).mono ?_
  rintro e w2 ⟨rfl, s2, p2⟩
  rw [H1.out] at s2 p2
  have S2 := Lib.hid s2
  have A2 := Lib.hid (A1.out.set p2 ⟨x_first, x_count, x_type, x_fnum, x_id, x_poc, v1, x_act0, x_act1, x_mods0, x_mods1, x_log, x_logc, x_w0, x_w1, x_longkey, x_ops, x_qp, x_off, x_a, x_b⟩ rfl rfl rfl rfl rfl rfl)
  clear s2 p2 H1 S1 A1
  go_wp2_with (first | (refine wpList_load_row rfl _ _ rfl hb rfl _ _ _ _ A2.out.row Tryz.underlying26 rfl (by kernel_rfl) ?_))
  refine (hasFirst_any w2 ⟨x_first, x_count, x_type, x_fnum, x_id, x_poc, v1, x_act0, x_act1, x_mods0, x_mods1, x_log, x_logc, x_w0, x_w1, x_longkey, x_ops, x_qp, x_off, x_a, x_b⟩ A.m0 A.m1 A.q0 A.q1 A.os A.m0c A.m1c A.q0c A.q1c A.osc).mono ?_
  rintro e w3 ⟨he3, b3⟩
  have hf3 : e = .returned (.bool true) := he3.trans (congrArg (fun x => Ending.returned (.bool x)) hf)
  subst hf3
  have S3 := Lib.hid (S2.out.grow OK.out b3)
  have A3 := Lib.hid (A2.out.grow b3)
  clear he3 b3 S2 A2
  go_wp2_with fail
  refine (OK.out.ue _ (n + 398) t1 hb 7 x_act0 1 (S3.out.less (by omega)) (A3.out.cell 7 _ rfl) (by omega) (by omega)).mono ?_
  rintro e w4 ⟨rfl, s4, p4⟩
  rw [H2.out] at s4 p4
  have S4 := Lib.hid s4
  have A4 := Lib.hid (A3.out.set p4 ⟨x_first, x_count, x_type, x_fnum, x_id, x_poc, v1, v2, x_act1, x_mods0, x_mods1, x_log, x_logc, x_w0, x_w1, x_longkey, x_ops, x_qp, x_off, x_a, x_b⟩ rfl rfl rfl rfl rfl rfl)
  clear s4 p4 H2 S3 A3
  go_wp2_with (first | (refine wpList_load_row rfl _ _ rfl hb rfl _ _ _ _ A4.out.row Tryz.underlying26 rfl (by kernel_rfl) ?_))
  refine (hasSecond_any w4 ⟨x_first, x_count, x_type, x_fnum, x_id, x_poc, v1, v2, x_act1, x_mods0, x_mods1, x_log, x_logc, x_w0, x_w1, x_longkey, x_ops, x_qp, x_off, x_a, x_b⟩ A.m0 A.m1 A.q0 A.q1 A.os A.m0c A.m1c A.q0c A.q1c A.osc).mono ?_
  rintro e w5 ⟨he5, b5⟩
  have hf5 : e = .returned (.bool true) := he5.trans (congrArg (fun x => Ending.returned (.bool x)) hs)
  subst hf5
  have S5 := Lib.hid (S4.out.grow OK.out b5)
  have A5 := Lib.hid (A4.out.grow b5)
  clear he5 b5 S4 A4
  go_wp2_with fail
  refine (OK.out.ue _ (n + 397) t2 hb 8 x_act1 1 (S5.out.less (by omega)) (A5.out.cell 8 _ rfl) (by omega) (by omega)).mono ?_
  rintro e w6 ⟨rfl, s6, p6⟩
  rw [H3.out] at s6 p6
  have S6 := Lib.hid s6
  have A6 := Lib.hid (A5.out.set p6 ⟨x_first, x_count, x_type, x_fnum, x_id, x_poc, v1, v2, v3, x_mods0, x_mods1, x_log, x_logc, x_w0, x_w1, x_longkey, x_ops, x_qp, x_off, x_a, x_b⟩ rfl rfl rfl rfl rfl rfl)
  clear s6 p6 H3 S5 A5
  by_cases q7 : v2 ≤ 8
  · by_cases q8 : v3 ≤ 8
    · have c7 : w6.cell? ⟨hb, 7, none⟩ = some (.int .i64 v2) := (A6.out.cell 7 _ rfl).cell
      have c8 : w6.cell? ⟨hb, 8, none⟩ = some (.int .i64 v3) := (A6.out.cell 8 _ rfl).cell
      go_wp2_with fail
      try clear c7 c8
      refine (ask_any OK.out _ (n + 397) t3 (true) S6.out).mono ?_
      rintro e w7 ⟨rfl, s7, f7⟩
      rw [show (true : Bool) = (decide (v2 ≤ 8) && decide (v3 ≤ 8)) from by simp [q7, q8], H4.out] at s7
      have S7 := Lib.hid s7
      have A7 := Lib.hid (A6.out.stay f7)
      clear s7 f7 H4 S6 A6
      go_wp2_with (first | (refine wpList_load_row rfl _ _ rfl hb rfl _ _ _ _ A7.out.row Tryz.underlying26 rfl (by kernel_rfl) ?_))
      refine (hasFirst_any w7 ⟨x_first, x_count, x_type, x_fnum, x_id, x_poc, v1, v2, v3, x_mods0, x_mods1, x_log, x_logc, x_w0, x_w1, x_longkey, x_ops, x_qp, x_off, x_a, x_b⟩ A.m0 A.m1 A.q0 A.q1 A.os A.m0c A.m1c A.q0c A.q1c A.osc).mono ?_
      rintro e w8 ⟨he8, b8⟩
      have hf8 : e = .returned (.bool true) := he8.trans (congrArg (fun x => Ending.returned (.bool x)) hf)
      subst hf8
      have S8 := Lib.hid (S7.out.grow OK.out b8)
      have A8 := Lib.hid (A7.out.grow b8)
      clear he8 b8 S7 A7
      go_wp2_with fail
      refine (countedMod_any OK.out _ (n + 296) t4 hb 9 (headCells ⟨x_first, x_count, x_type, x_fnum, x_id, x_poc, v1, v2, v3, x_mods0, x_mods1, x_log, x_logc, x_w0, x_w1, x_longkey, x_ops, x_qp, x_off, x_a, x_b⟩ A) _ x_mods0 _ _ (S8.out.less (by omega)) A8.out.row ⟨by decide, by decide, by decide⟩ A8.out.ne rfl (A8.out.r0.re M_mods0) M_mods0 L_mods0).mono ?_
      rintro e w9 ⟨rfl, s9, p9⟩
      rw [H5.out] at s9 p9
      have S9 := Lib.hid s9
      obtain ⟨AD9, a9⟩ := A8.out.to_mods0 p9
      have A9 := Lib.hid (show At C W w9 hb ⟨x_first, x_count, x_type, x_fnum, x_id, x_poc, v1, v2, v3, v5, x_mods1, x_log, x_logc, x_w0, x_w1, x_longkey, x_ops, x_qp, x_off, x_a, x_b⟩ AD9 from a9)
      clear s9 p9 a9 H5 S8 A8
      go_wp2_with (first | (refine wpList_load_row rfl _ _ rfl hb rfl _ _ _ _ A9.out.row Tryz.underlying26 rfl (by kernel_rfl) ?_))
      refine (hasSecond_any w9 ⟨x_first, x_count, x_type, x_fnum, x_id, x_poc, v1, v2, v3, v5, x_mods1, x_log, x_logc, x_w0, x_w1, x_longkey, x_ops, x_qp, x_off, x_a, x_b⟩ AD9.m0 AD9.m1 AD9.q0 AD9.q1 AD9.os AD9.m0c AD9.m1c AD9.q0c AD9.q1c AD9.osc).mono ?_
      rintro e w10 ⟨he10, b10⟩
      have hf10 : e = .returned (.bool true) := he10.trans (congrArg (fun x => Ending.returned (.bool x)) hs)
      subst hf10
      have S10 := Lib.hid (S9.out.grow OK.out b10)
      have A10 := Lib.hid (A9.out.grow b10)
      clear he10 b10 S9 A9
      go_wp2_with fail
      refine (countedMod_any OK.out _ (n + 195) t5 hb 10 (headCells ⟨x_first, x_count, x_type, x_fnum, x_id, x_poc, v1, v2, v3, v5, x_mods1, x_log, x_logc, x_w0, x_w1, x_longkey, x_ops, x_qp, x_off, x_a, x_b⟩ AD9) _ x_mods1 _ _ (S10.out.less (by omega)) A10.out.row ⟨by decide, by decide, by decide⟩ A10.out.ne rfl (A10.out.r1.re M_mods1) M_mods1 L_mods1).mono ?_
      rintro e w11 ⟨rfl, s11, p11⟩
      rw [H6.out] at s11 p11
      have S11 := Lib.hid s11
      obtain ⟨AD11, a11⟩ := A10.out.to_mods1 p11
      have A11 := Lib.hid (show At C W w11 hb ⟨x_first, x_count, x_type, x_fnum, x_id, x_poc, v1, v2, v3, v5, v6, x_log, x_logc, x_w0, x_w1, x_longkey, x_ops, x_qp, x_off, x_a, x_b⟩ AD11 from a11)
      clear s11 p11 a11 H6 S10 A10
      go_wp2_with fail
      go_end0
      exact ⟨rfl, S11.out.less (by omega), _, A11.out⟩
    · have d8 : decide (v3 ≤ 8) = false := decide_eq_false q8
      have D8 := Lib.hid d8
      have c7 : w6.cell? ⟨hb, 7, none⟩ = some (.int .i64 v2) := (A6.out.cell 7 _ rfl).cell
      have c8 : w6.cell? ⟨hb, 8, none⟩ = some (.int .i64 v3) := (A6.out.cell 8 _ rfl).cell
      go_wp2_with fail
      try clear c7 c8
      refine (ask_any OK.out _ (n + 397) t3 (false) S6.out).mono ?_
      rintro e w7 ⟨rfl, s7, f7⟩
      rw [show (false : Bool) = (decide (v2 ≤ 8) && decide (v3 ≤ 8)) from by rw [D8.out, Bool.and_false], H4.out] at s7
      have S7 := Lib.hid s7
      have A7 := Lib.hid (A6.out.stay f7)
      clear s7 f7 H4 S6 A6
      go_wp2_with (first | (refine wpList_load_row rfl _ _ rfl hb rfl _ _ _ _ A7.out.row Tryz.underlying26 rfl (by kernel_rfl) ?_))
      refine (hasFirst_any w7 ⟨x_first, x_count, x_type, x_fnum, x_id, x_poc, v1, v2, v3, x_mods0, x_mods1, x_log, x_logc, x_w0, x_w1, x_longkey, x_ops, x_qp, x_off, x_a, x_b⟩ A.m0 A.m1 A.q0 A.q1 A.os A.m0c A.m1c A.q0c A.q1c A.osc).mono ?_
      rintro e w8 ⟨he8, b8⟩
      have hf8 : e = .returned (.bool true) := he8.trans (congrArg (fun x => Ending.returned (.bool x)) hf)
      subst hf8
      have S8 := Lib.hid (S7.out.grow OK.out b8)
      have A8 := Lib.hid (A7.out.grow b8)
      clear he8 b8 S7 A7
      go_wp2_with fail
      refine (countedMod_any OK.out _ (n + 296) t4 hb 9 (headCells ⟨x_first, x_count, x_type, x_fnum, x_id, x_poc, v1, v2, v3, x_mods0, x_mods1, x_log, x_logc, x_w0, x_w1, x_longkey, x_ops, x_qp, x_off, x_a, x_b⟩ A) _ x_mods0 _ _ (S8.out.less (by omega)) A8.out.row ⟨by decide, by decide, by decide⟩ A8.out.ne rfl (A8.out.r0.re M_mods0) M_mods0 L_mods0).mono ?_
      rintro e w9 ⟨rfl, s9, p9⟩
      rw [H5.out] at s9 p9
      have S9 := Lib.hid s9
      obtain ⟨AD9, a9⟩ := A8.out.to_mods0 p9
      have A9 := Lib.hid (show At C W w9 hb ⟨x_first, x_count, x_type, x_fnum, x_id, x_poc, v1, v2, v3, v5, x_mods1, x_log, x_logc, x_w0, x_w1, x_longkey, x_ops, x_qp, x_off, x_a, x_b⟩ AD9 from a9)
      clear s9 p9 a9 H5 S8 A8
      go_wp2_with (first | (refine wpList_load_row rfl _ _ rfl hb rfl _ _ _ _ A9.out.row Tryz.underlying26 rfl (by kernel_rfl) ?_))
      refine (hasSecond_any w9 ⟨x_first, x_count, x_type, x_fnum, x_id, x_poc, v1, v2, v3, v5, x_mods1, x_log, x_logc, x_w0, x_w1, x_longkey, x_ops, x_qp, x_off, x_a, x_b⟩ AD9.m0 AD9.m1 AD9.q0 AD9.q1 AD9.os AD9.m0c AD9.m1c AD9.q0c AD9.q1c AD9.osc).mono ?_
      rintro e w10 ⟨he10, b10⟩
      have hf10 : e = .returned (.bool true) := he10.trans (congrArg (fun x => Ending.returned (.bool x)) hs)
      subst hf10
      have S10 := Lib.hid (S9.out.grow OK.out b10)
      have A10 := Lib.hid (A9.out.grow b10)
      clear he10 b10 S9 A9
      go_wp2_with fail
      refine (countedMod_any OK.out _ (n + 195) t5 hb 10 (headCells ⟨x_first, x_count, x_type, x_fnum, x_id, x_poc, v1, v2, v3, v5, x_mods1, x_log, x_logc, x_w0, x_w1, x_longkey, x_ops, x_qp, x_off, x_a, x_b⟩ AD9) _ x_mods1 _ _ (S10.out.less (by omega)) A10.out.row ⟨by decide, by decide, by decide⟩ A10.out.ne rfl (A10.out.r1.re M_mods1) M_mods1 L_mods1).mono ?_
      rintro e w11 ⟨rfl, s11, p11⟩
      rw [H6.out] at s11 p11
      have S11 := Lib.hid s11
      obtain ⟨AD11, a11⟩ := A10.out.to_mods1 p11
      have A11 := Lib.hid (show At C W w11 hb ⟨x_first, x_count, x_type, x_fnum, x_id, x_poc, v1, v2, v3, v5, v6, x_log, x_logc, x_w0, x_w1, x_longkey, x_ops, x_qp, x_off, x_a, x_b⟩ AD11 from a11)
      clear s11 p11 a11 H6 S10 A10
      go_wp2_with fail
      go_end0
      exact ⟨rfl, S11.out.less (by omega), _, A11.out⟩
  · have d7 : decide (v2 ≤ 8) = false := decide_eq_false q7
    have D7 := Lib.hid d7
    have c7 : w6.cell? ⟨hb, 7, none⟩ = some (.int .i64 v2) := (A6.out.cell 7 _ rfl).cell
    have c8 : w6.cell? ⟨hb, 8, none⟩ = some (.int .i64 v3) := (A6.out.cell 8 _ rfl).cell
    go_wp2_with fail
    try clear c7 c8
    refine (ask_any OK.out _ (n + 397) t3 (false) S6.out).mono ?_
    rintro e w7 ⟨rfl, s7, f7⟩
    rw [show (false : Bool) = (decide (v2 ≤ 8) && decide (v3 ≤ 8)) from by rw [D7.out, Bool.false_and], H4.out] at s7
    have S7 := Lib.hid s7
    have A7 := Lib.hid (A6.out.stay f7)
    clear s7 f7 H4 S6 A6
    go_wp2_with (first | (refine wpList_load_row rfl _ _ rfl hb rfl _ _ _ _ A7.out.row Tryz.underlying26 rfl (by kernel_rfl) ?_))
    refine (hasFirst_any w7 ⟨x_first, x_count, x_type, x_fnum, x_id, x_poc, v1, v2, v3, x_mods0, x_mods1, x_log, x_logc, x_w0, x_w1, x_longkey, x_ops, x_qp, x_off, x_a, x_b⟩ A.m0 A.m1 A.q0 A.q1 A.os A.m0c A.m1c A.q0c A.q1c A.osc).mono ?_
    rintro e w8 ⟨he8, b8⟩
    have hf8 : e = .returned (.bool true) := he8.trans (congrArg (fun x => Ending.returned (.bool x)) hf)
    subst hf8
    have S8 := Lib.hid (S7.out.grow OK.out b8)
    have A8 := Lib.hid (A7.out.grow b8)
    clear he8 b8 S7 A7
    go_wp2_with fail
    refine (countedMod_any OK.out _ (n + 296) t4 hb 9 (headCells ⟨x_first, x_count, x_type, x_fnum, x_id, x_poc, v1, v2, v3, x_mods0, x_mods1, x_log, x_logc, x_w0, x_w1, x_longkey, x_ops, x_qp, x_off, x_a, x_b⟩ A) _ x_mods0 _ _ (S8.out.less (by omega)) A8.out.row ⟨by decide, by decide, by decide⟩ A8.out.ne rfl (A8.out.r0.re M_mods0) M_mods0 L_mods0).mono ?_
    rintro e w9 ⟨rfl, s9, p9⟩
    rw [H5.out] at s9 p9
    have S9 := Lib.hid s9
    obtain ⟨AD9, a9⟩ := A8.out.to_mods0 p9
    have A9 := Lib.hid (show At C W w9 hb ⟨x_first, x_count, x_type, x_fnum, x_id, x_poc, v1, v2, v3, v5, x_mods1, x_log, x_logc, x_w0, x_w1, x_longkey, x_ops, x_qp, x_off, x_a, x_b⟩ AD9 from a9)
    clear s9 p9 a9 H5 S8 A8
    go_wp2_with (first | (refine wpList_load_row rfl _ _ rfl hb rfl _ _ _ _ A9.out.row Tryz.underlying26 rfl (by kernel_rfl) ?_))
    refine (hasSecond_any w9 ⟨x_first, x_count, x_type, x_fnum, x_id, x_poc, v1, v2, v3, v5, x_mods1, x_log, x_logc, x_w0, x_w1, x_longkey, x_ops, x_qp, x_off, x_a, x_b⟩ AD9.m0 AD9.m1 AD9.q0 AD9.q1 AD9.os AD9.m0c AD9.m1c AD9.q0c AD9.q1c AD9.osc).mono ?_
    rintro e w10 ⟨he10, b10⟩
    have hf10 : e = .returned (.bool true) := he10.trans (congrArg (fun x => Ending.returned (.bool x)) hs)
    subst hf10
    have S10 := Lib.hid (S9.out.grow OK.out b10)
    have A10 := Lib.hid (A9.out.grow b10)
    clear he10 b10 S9 A9
    go_wp2_with fail
    refine (countedMod_any OK.out _ (n + 195) t5 hb 10 (headCells ⟨x_first, x_count, x_type, x_fnum, x_id, x_poc, v1, v2, v3, v5, x_mods1, x_log, x_logc, x_w0, x_w1, x_longkey, x_ops, x_qp, x_off, x_a, x_b⟩ AD9) _ x_mods1 _ _ (S10.out.less (by omega)) A10.out.row ⟨by decide, by decide, by decide⟩ A10.out.ne rfl (A10.out.r1.re M_mods1) M_mods1 L_mods1).mono ?_
    rintro e w11 ⟨rfl, s11, p11⟩
    rw [H6.out] at s11 p11
    have S11 := Lib.hid s11
    obtain ⟨AD11, a11⟩ := A10.out.to_mods1 p11
    have A11 := Lib.hid (show At C W w11 hb ⟨x_first, x_count, x_type, x_fnum, x_id, x_poc, v1, v2, v3, v5, v6, x_log, x_logc, x_w0, x_w1, x_longkey, x_ops, x_qp, x_off, x_a, x_b⟩ AD11 from a11)
    clear s11 p11 a11 H6 S10 A10
    go_wp2_with fail
    go_end0
    exact ⟨rfl, S11.out.less (by omega), _, A11.out⟩

end
end Go.Proofs.YthcbgijmnonckaaGreat
