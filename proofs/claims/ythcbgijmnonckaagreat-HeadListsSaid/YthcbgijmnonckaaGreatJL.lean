/- Layer 4: the walk, whichever way: lists of references of one type. -/
import Derived.Test.YthcbgijmnonckaaGreatJK
import Derived.Test.YthcbgijmnonckaaGreatJLb
namespace Go.Proofs.YthcbgijmnonckaaGreat
open Go.RowKit Zo Zp
set_option linter.unusedVariables false
set_option linter.unusedSimpArgs false

section
variable {σ : Type} {C : Ctx} {F : WayFns σ} {fuel : σ → Nat} {way : World → σ → Prop}

set_option maxRecDepth 100000 in
set_option maxHeartbeats 20000000 in
theorem lists_P (ok : WayOk C F fuel way) (W w : World) (n : Nat) (s : Ws σ) (hb : Nat) (h : HeadN) (A : Adr) (hst : St C fuel way (n + 400) w s) (hat : At C W w hb h A) (m0 : C.moves = true → h.mods0 = []) (m1 : C.moves = true → h.mods1 = []) (l0 : h.mods0.length ≤ 16) (l1 : h.mods1.length ≤ 16) (hs0 : (h.type == 1) = false) (hf0 : oneFirst h.type = true) :
    Calls Tryz.prog 85 #[.pointer (some ⟨C.kb, 0, none⟩), .pointer (some ⟨hb, 0, none⟩)] w fun e w' =>
      e = .returned (.tuple #[]) ∧ St C fuel way n w' (fLists F h s).2 ∧ ∃ A', At C W w' hb (fLists F h s).1 A' := by
  obtain ⟨x_first, x_count, x_type, x_fnum, x_id, x_poc, x_spatial, x_act0, x_act1, x_mods0, x_mods1, x_log, x_logc, x_w0, x_w1, x_longkey, x_ops, x_qp, x_off, x_a, x_b⟩ := h
  have OK := Lib.hid ok
  have S0 := Lib.hid hst
  have A0 := Lib.hid hat
  obtain ⟨w0, hw0⟩ : ∃ x, x = w := ⟨_, rfl⟩
  subst hw0
  have M_mods0 : C.moves = true → x_mods0 = [] := m0
  have M_mods1 : C.moves = true → x_mods1 = [] := m1
  have L_mods0 : x_mods0.length ≤ 16 := l0
  have L_mods1 : x_mods1.length ≤ 16 := l1
  have hs : (x_type == 1) = false := hs0
  have hf : oneFirst x_type = true := hf0
  clear m0 m1 l0 l1 hs0 hf0
  clear ok hst hat

  obtain ⟨⟨v1, t1⟩, h1⟩ : ∃ r, fUe F x_act0 1 s = r := ⟨_, rfl⟩
  obtain ⟨t2, h2⟩ : ∃ r, fAsk (decide (v1 ≤ 8) && decide (x_act1 ≤ 8)) t1 = r := ⟨_, rfl⟩
  obtain ⟨⟨v3, t3⟩, h3⟩ : ∃ r, fCounted F ModN.zero (fMod F) 16 x_mods0 t2 = r := ⟨_, rfl⟩
  have E : fLists F ⟨x_first, x_count, x_type, x_fnum, x_id, x_poc, x_spatial, x_act0, x_act1, x_mods0, x_mods1, x_log, x_logc, x_w0, x_w1, x_longkey, x_ops, x_qp, x_off, x_a, x_b⟩ s = ((⟨x_first, x_count, x_type, x_fnum, x_id, x_poc, x_spatial, v1, x_act1, v3, x_mods1, x_log, x_logc, x_w0, x_w1, x_longkey, x_ops, x_qp, x_off, x_a, x_b⟩ : HeadN), t3) := by
    simp only [fLists, hs, hf, if_true, if_false, Bool.false_eq_true, h1, h2, h3]
  rw [E]
  have H1 := Lib.hid h1
  have H2 := Lib.hid h2
  have H3 := Lib.hid h3
  clear E h1 h2 h3
  go_enter Tryz.func85, Tryz.ntmps85
  go_wp2_with (first | (refine wpList_load_row rfl _ _ rfl hb rfl _ _ _ _ A0.out.row Tryz.underlying26 rfl (by kernel_rfl) ?_))
  refine (hasSecond_any w0 ⟨x_first, x_count, x_type, x_fnum, x_id, x_poc, x_spatial, x_act0, x_act1, x_mods0, x_mods1, x_log, x_logc, x_w0, x_w1, x_longkey, x_ops, x_qp, x_off, x_a, x_b⟩ A.m0 A.m1 A.q0 A.q1 A.os A.m0c A.m1c A.q0c A.q1c A.osc).mono ?_
  rintro e w1 ⟨he1, b1⟩
  have hf1 : e = .returned (.bool false) := he1.trans (congrArg (fun x => Ending.returned (.bool x)) hs)
  subst hf1
  have S1 := Lib.hid (S0.out.grow OK.out b1)
  have A1 := Lib.hid (A0.out.grow b1)
  clear he1 b1 S0 A0
  go_wp2_with (first | (refine wpList_load_row rfl _ _ rfl hb rfl _ _ _ _ A1.out.row Tryz.underlying26 rfl (by kernel_rfl) ?_))
  refine (hasFirst_any w1 ⟨x_first, x_count, x_type, x_fnum, x_id, x_poc, x_spatial, x_act0, x_act1, x_mods0, x_mods1, x_log, x_logc, x_w0, x_w1, x_longkey, x_ops, x_qp, x_off, x_a, x_b⟩ A.m0 A.m1 A.q0 A.q1 A.os A.m0c A.m1c A.q0c A.q1c A.osc).mono ?_
  rintro e w2 ⟨he2, b2⟩
  have hf2 : e = .returned (.bool true) := he2.trans (congrArg (fun x => Ending.returned (.bool x)) hf)
  subst hf2
  have S2 := Lib.hid (S1.out.grow OK.out b2)
  have A2 := Lib.hid (A1.out.grow b2)
  clear he2 b2 S1 A1
  go_wp2_with fail
  refine (OK.out.ue _ (n + 399) s hb 7 x_act0 1 (S2.out.less (by omega)) (A2.out.cell 7 _ rfl) (by omega) (by omega)).mono ?_
  rintro e w3 ⟨rfl, s3, p3⟩
  rw [H1.out] at s3 p3
  have S3 := Lib.hid s3
  have A3 := Lib.hid (A2.out.set p3 ⟨x_first, x_count, x_type, x_fnum, x_id, x_poc, x_spatial, v1, x_act1, x_mods0, x_mods1, x_log, x_logc, x_w0, x_w1, x_longkey, x_ops, x_qp, x_off, x_a, x_b⟩ rfl rfl rfl rfl rfl rfl)
  clear s3 p3 H1 S2 A2
  go_wp2_with (first | (refine wpList_load_row rfl _ _ rfl hb rfl _ _ _ _ A3.out.row Tryz.underlying26 rfl (by kernel_rfl) ?_))
  refine (hasSecond_any w3 ⟨x_first, x_count, x_type, x_fnum, x_id, x_poc, x_spatial, v1, x_act1, x_mods0, x_mods1, x_log, x_logc, x_w0, x_w1, x_longkey, x_ops, x_qp, x_off, x_a, x_b⟩ A.m0 A.m1 A.q0 A.q1 A.os A.m0c A.m1c A.q0c A.q1c A.osc).mono ?_
  rintro e w4 ⟨he4, b4⟩
  have hf4 : e = .returned (.bool false) := he4.trans (congrArg (fun x => Ending.returned (.bool x)) hs)
  subst hf4
  have S4 := Lib.hid (S3.out.grow OK.out b4)
  have A4 := Lib.hid (A3.out.grow b4)
  clear he4 b4 S3 A3
  by_cases q7 : v1 ≤ 8
  · by_cases q8 : x_act1 ≤ 8
    · have c7 : w4.cell? ⟨hb, 7, none⟩ = some (.int .i64 v1) := (A4.out.cell 7 _ rfl).cell
      have c8 : w4.cell? ⟨hb, 8, none⟩ = some (.int .i64 x_act1) := (A4.out.cell 8 _ rfl).cell
      go_wp2_with fail
      try clear c7 c8
      refine (ask_any OK.out _ (n + 399) t1 (true) S4.out).mono ?_
      rintro e w5 ⟨rfl, s5, f5⟩
      rw [show (true : Bool) = (decide (v1 ≤ 8) && decide (x_act1 ≤ 8)) from by simp [q7, q8], H2.out] at s5
      have S5 := Lib.hid s5
      have A5 := Lib.hid (A4.out.stay f5)
      clear s5 f5 H2 S4 A4
      go_wp2_with (first | (refine wpList_load_row rfl _ _ rfl hb rfl _ _ _ _ A5.out.row Tryz.underlying26 rfl (by kernel_rfl) ?_))
      refine (hasFirst_any w5 ⟨x_first, x_count, x_type, x_fnum, x_id, x_poc, x_spatial, v1, x_act1, x_mods0, x_mods1, x_log, x_logc, x_w0, x_w1, x_longkey, x_ops, x_qp, x_off, x_a, x_b⟩ A.m0 A.m1 A.q0 A.q1 A.os A.m0c A.m1c A.q0c A.q1c A.osc).mono ?_
      rintro e w6 ⟨he6, b6⟩
      have hf6 : e = .returned (.bool true) := he6.trans (congrArg (fun x => Ending.returned (.bool x)) hf)
      subst hf6
      have S6 := Lib.hid (S5.out.grow OK.out b6)
      have A6 := Lib.hid (A5.out.grow b6)
      clear he6 b6 S5 A5
      go_wp2_with fail
      refine (countedMod_any OK.out _ (n + 298) t2 hb 9 (headCells ⟨x_first, x_count, x_type, x_fnum, x_id, x_poc, x_spatial, v1, x_act1, x_mods0, x_mods1, x_log, x_logc, x_w0, x_w1, x_longkey, x_ops, x_qp, x_off, x_a, x_b⟩ A) _ x_mods0 _ _ (S6.out.less (by omega)) A6.out.row ⟨by decide, by decide, by decide⟩ A6.out.ne rfl (A6.out.r0.re M_mods0) M_mods0 L_mods0).mono ?_
      rintro e w7 ⟨rfl, s7, p7⟩
      rw [H3.out] at s7 p7
      have S7 := Lib.hid s7
      obtain ⟨AD7, a7⟩ := A6.out.to_mods0 p7
      have A7 := Lib.hid (show At C W w7 hb ⟨x_first, x_count, x_type, x_fnum, x_id, x_poc, x_spatial, v1, x_act1, v3, x_mods1, x_log, x_logc, x_w0, x_w1, x_longkey, x_ops, x_qp, x_off, x_a, x_b⟩ AD7 from a7)
      clear s7 p7 a7 H3 S6 A6
      go_wp2_with (first | (refine wpList_load_row rfl _ _ rfl hb rfl _ _ _ _ A7.out.row Tryz.underlying26 rfl (by kernel_rfl) ?_))
      refine (hasSecond_any w7 ⟨x_first, x_count, x_type, x_fnum, x_id, x_poc, x_spatial, v1, x_act1, v3, x_mods1, x_log, x_logc, x_w0, x_w1, x_longkey, x_ops, x_qp, x_off, x_a, x_b⟩ AD7.m0 AD7.m1 AD7.q0 AD7.q1 AD7.os AD7.m0c AD7.m1c AD7.q0c AD7.q1c AD7.osc).mono ?_
      rintro e w8 ⟨he8, b8⟩
      have hf8 : e = .returned (.bool false) := he8.trans (congrArg (fun x => Ending.returned (.bool x)) hs)
      subst hf8
      have S8 := Lib.hid (S7.out.grow OK.out b8)
      have A8 := Lib.hid (A7.out.grow b8)
      clear he8 b8 S7 A7
      go_wp2_with fail
      go_end0
      exact ⟨rfl, S8.out.less (by omega), _, A8.out⟩
    · have d8 : decide (x_act1 ≤ 8) = false := decide_eq_false q8
      have D8 := Lib.hid d8
      have c7 : w4.cell? ⟨hb, 7, none⟩ = some (.int .i64 v1) := (A4.out.cell 7 _ rfl).cell
      have c8 : w4.cell? ⟨hb, 8, none⟩ = some (.int .i64 x_act1) := (A4.out.cell 8 _ rfl).cell
      go_wp2_with fail
      try clear c7 c8
      refine (ask_any OK.out _ (n + 399) t1 (false) S4.out).mono ?_
      rintro e w5 ⟨rfl, s5, f5⟩
      rw [show (false : Bool) = (decide (v1 ≤ 8) && decide (x_act1 ≤ 8)) from by rw [D8.out, Bool.and_false], H2.out] at s5
      have S5 := Lib.hid s5
      have A5 := Lib.hid (A4.out.stay f5)
      clear s5 f5 H2 S4 A4
      go_wp2_with (first | (refine wpList_load_row rfl _ _ rfl hb rfl _ _ _ _ A5.out.row Tryz.underlying26 rfl (by kernel_rfl) ?_))
      refine (hasFirst_any w5 ⟨x_first, x_count, x_type, x_fnum, x_id, x_poc, x_spatial, v1, x_act1, x_mods0, x_mods1, x_log, x_logc, x_w0, x_w1, x_longkey, x_ops, x_qp, x_off, x_a, x_b⟩ A.m0 A.m1 A.q0 A.q1 A.os A.m0c A.m1c A.q0c A.q1c A.osc).mono ?_
      rintro e w6 ⟨he6, b6⟩
      have hf6 : e = .returned (.bool true) := he6.trans (congrArg (fun x => Ending.returned (.bool x)) hf)
      subst hf6
      have S6 := Lib.hid (S5.out.grow OK.out b6)
      have A6 := Lib.hid (A5.out.grow b6)
      clear he6 b6 S5 A5
      go_wp2_with fail
      refine (countedMod_any OK.out _ (n + 298) t2 hb 9 (headCells ⟨x_first, x_count, x_type, x_fnum, x_id, x_poc, x_spatial, v1, x_act1, x_mods0, x_mods1, x_log, x_logc, x_w0, x_w1, x_longkey, x_ops, x_qp, x_off, x_a, x_b⟩ A) _ x_mods0 _ _ (S6.out.less (by omega)) A6.out.row ⟨by decide, by decide, by decide⟩ A6.out.ne rfl (A6.out.r0.re M_mods0) M_mods0 L_mods0).mono ?_
      rintro e w7 ⟨rfl, s7, p7⟩
      rw [H3.out] at s7 p7
      have S7 := Lib.hid s7
      obtain ⟨AD7, a7⟩ := A6.out.to_mods0 p7
      have A7 := Lib.hid (show At C W w7 hb ⟨x_first, x_count, x_type, x_fnum, x_id, x_poc, x_spatial, v1, x_act1, v3, x_mods1, x_log, x_logc, x_w0, x_w1, x_longkey, x_ops, x_qp, x_off, x_a, x_b⟩ AD7 from a7)
      clear s7 p7 a7 H3 S6 A6
      go_wp2_with (first | (refine wpList_load_row rfl _ _ rfl hb rfl _ _ _ _ A7.out.row Tryz.underlying26 rfl (by kernel_rfl) ?_))
      refine (hasSecond_any w7 ⟨x_first, x_count, x_type, x_fnum, x_id, x_poc, x_spatial, v1, x_act1, v3, x_mods1, x_log, x_logc, x_w0, x_w1, x_longkey, x_ops, x_qp, x_off, x_a, x_b⟩ AD7.m0 AD7.m1 AD7.q0 AD7.q1 AD7.os AD7.m0c AD7.m1c AD7.q0c AD7.q1c AD7.osc).mono ?_
      rintro e w8 ⟨he8, b8⟩
      have hf8 : e = .returned (.bool false) := he8.trans (congrArg (fun x => Ending.returned (.bool x)) hs)
      subst hf8
      have S8 := Lib.hid (S7.out.grow OK.out b8)
      have A8 := Lib.hid (A7.out.grow b8)
      clear he8 b8 S7 A7
      go_wp2_with fail
      go_end0
      exact ⟨rfl, S8.out.less (by omega), _, A8.out⟩
  · have d7 : decide (v1 ≤ 8) = false := decide_eq_false q7
    have D7 := Lib.hid d7
    have c7 : w4.cell? ⟨hb, 7, none⟩ = some (.int .i64 v1) := (A4.out.cell 7 _ rfl).cell
    have c8 : w4.cell? ⟨hb, 8, none⟩ = some (.int .i64 x_act1) := (A4.out.cell 8 _ rfl).cell
    go_wp2_with fail
    try clear c7 c8
    refine (ask_any OK.out _ (n + 399) t1 (false) S4.out).mono ?_
    rintro e w5 ⟨rfl, s5, f5⟩
    rw [show (false : Bool) = (decide (v1 ≤ 8) && decide (x_act1 ≤ 8)) from by rw [D7.out, Bool.false_and], H2.out] at s5
    have S5 := Lib.hid s5
    have A5 := Lib.hid (A4.out.stay f5)
    clear s5 f5 H2 S4 A4
    go_wp2_with (first | (refine wpList_load_row rfl _ _ rfl hb rfl _ _ _ _ A5.out.row Tryz.underlying26 rfl (by kernel_rfl) ?_))
    refine (hasFirst_any w5 ⟨x_first, x_count, x_type, x_fnum, x_id, x_poc, x_spatial, v1, x_act1, x_mods0, x_mods1, x_log, x_logc, x_w0, x_w1, x_longkey, x_ops, x_qp, x_off, x_a, x_b⟩ A.m0 A.m1 A.q0 A.q1 A.os A.m0c A.m1c A.q0c A.q1c A.osc).mono ?_
    rintro e w6 ⟨he6, b6⟩
    have hf6 : e = .returned (.bool true) := he6.trans (congrArg (fun x => Ending.returned (.bool x)) hf)
    subst hf6
    have S6 := Lib.hid (S5.out.grow OK.out b6)
    have A6 := Lib.hid (A5.out.grow b6)
    clear he6 b6 S5 A5
    go_wp2_with fail
    refine (countedMod_any OK.out _ (n + 298) t2 hb 9 (headCells ⟨x_first, x_count, x_type, x_fnum, x_id, x_poc, x_spatial, v1, x_act1, x_mods0, x_mods1, x_log, x_logc, x_w0, x_w1, x_longkey, x_ops, x_qp, x_off, x_a, x_b⟩ A) _ x_mods0 _ _ (S6.out.less (by omega)) A6.out.row ⟨by decide, by decide, by decide⟩ A6.out.ne rfl (A6.out.r0.re M_mods0) M_mods0 L_mods0).mono ?_
    rintro e w7 ⟨rfl, s7, p7⟩
    rw [H3.out] at s7 p7
    have S7 := Lib.hid s7
    obtain ⟨AD7, a7⟩ := A6.out.to_mods0 p7
    have A7 := Lib.hid (show At C W w7 hb ⟨x_first, x_count, x_type, x_fnum, x_id, x_poc, x_spatial, v1, x_act1, v3, x_mods1, x_log, x_logc, x_w0, x_w1, x_longkey, x_ops, x_qp, x_off, x_a, x_b⟩ AD7 from a7)
    clear s7 p7 a7 H3 S6 A6
    go_wp2_with (first | (refine wpList_load_row rfl _ _ rfl hb rfl _ _ _ _ A7.out.row Tryz.underlying26 rfl (by kernel_rfl) ?_))
    refine (hasSecond_any w7 ⟨x_first, x_count, x_type, x_fnum, x_id, x_poc, x_spatial, v1, x_act1, v3, x_mods1, x_log, x_logc, x_w0, x_w1, x_longkey, x_ops, x_qp, x_off, x_a, x_b⟩ AD7.m0 AD7.m1 AD7.q0 AD7.q1 AD7.os AD7.m0c AD7.m1c AD7.q0c AD7.q1c AD7.osc).mono ?_
    rintro e w8 ⟨he8, b8⟩
    have hf8 : e = .returned (.bool false) := he8.trans (congrArg (fun x => Ending.returned (.bool x)) hs)
    subst hf8
    have S8 := Lib.hid (S7.out.grow OK.out b8)
    have A8 := Lib.hid (A7.out.grow b8)
    clear he8 b8 S7 A7
    go_wp2_with fail
    go_end0
    exact ⟨rfl, S8.out.less (by omega), _, A8.out⟩

end
end Go.Proofs.YthcbgijmnonckaaGreat
/- Layer 4: the walk, whichever way: lists of references of one type. -/
namespace Go.Proofs.YthcbgijmnonckaaGreat
open Go.RowKit Zo Zp
set_option linter.unusedVariables false
set_option linter.unusedSimpArgs false

section
variable {σ : Type} {C : Ctx} {F : WayFns σ} {fuel : σ → Nat} {way : World → σ → Prop}

set_option maxRecDepth 100000 in
set_option maxHeartbeats 20000000 in
theorem lists_I (ok : WayOk C F fuel way) (W w : World) (n : Nat) (s : Ws σ) (hb : Nat) (h : HeadN) (A : Adr) (hst : St C fuel way (n + 400) w s) (hat : At C W w hb h A) (m0 : C.moves = true → h.mods0 = []) (m1 : C.moves = true → h.mods1 = []) (l0 : h.mods0.length ≤ 16) (l1 : h.mods1.length ≤ 16) (hs0 : (h.type == 1) = false) (hf0 : oneFirst h.type = false) :
    Calls Tryz.prog 85 #[.pointer (some ⟨C.kb, 0, none⟩), .pointer (some ⟨hb, 0, none⟩)] w fun e w' =>
      e = .returned (.tuple #[]) ∧ St C fuel way n w' (fLists F h s).2 ∧ ∃ A', At C W w' hb (fLists F h s).1 A' := by
  obtain ⟨x_first, x_count, x_type, x_fnum, x_id, x_poc, x_spatial, x_act0, x_act1, x_mods0, x_mods1, x_log, x_logc, x_w0, x_w1, x_longkey, x_ops, x_qp, x_off, x_a, x_b⟩ := h
  have OK := Lib.hid ok
  have S0 := Lib.hid hst
  have A0 := Lib.hid hat
  obtain ⟨w0, hw0⟩ : ∃ x, x = w := ⟨_, rfl⟩
  subst hw0
  have M_mods0 : C.moves = true → x_mods0 = [] := m0
  have M_mods1 : C.moves = true → x_mods1 = [] := m1
  have L_mods0 : x_mods0.length ≤ 16 := l0
  have L_mods1 : x_mods1.length ≤ 16 := l1
  have hs : (x_type == 1) = false := hs0
  have hf : oneFirst x_type = false := hf0
  clear m0 m1 l0 l1 hs0 hf0
  clear ok hst hat

  obtain ⟨t1, h1⟩ : ∃ r, fAsk (decide (x_act0 ≤ 8) && decide (x_act1 ≤ 8)) s = r := ⟨_, rfl⟩
  have E : fLists F ⟨x_first, x_count, x_type, x_fnum, x_id, x_poc, x_spatial, x_act0, x_act1, x_mods0, x_mods1, x_log, x_logc, x_w0, x_w1, x_longkey, x_ops, x_qp, x_off, x_a, x_b⟩ s = ((⟨x_first, x_count, x_type, x_fnum, x_id, x_poc, x_spatial, x_act0, x_act1, x_mods0, x_mods1, x_log, x_logc, x_w0, x_w1, x_longkey, x_ops, x_qp, x_off, x_a, x_b⟩ : HeadN), t1) := by
    simp only [fLists, hs, hf, if_true, if_false, Bool.false_eq_true, h1]
  rw [E]
  have H1 := Lib.hid h1
  clear E h1
  go_enter Tryz.func85, Tryz.ntmps85
  go_wp2_with (first | (refine wpList_load_row rfl _ _ rfl hb rfl _ _ _ _ A0.out.row Tryz.underlying26 rfl (by kernel_rfl) ?_))
  refine (hasSecond_any w0 ⟨x_first, x_count, x_type, x_fnum, x_id, x_poc, x_spatial, x_act0, x_act1, x_mods0, x_mods1, x_log, x_logc, x_w0, x_w1, x_longkey, x_ops, x_qp, x_off, x_a, x_b⟩ A.m0 A.m1 A.q0 A.q1 A.os A.m0c A.m1c A.q0c A.q1c A.osc).mono ?_
  rintro e w1 ⟨he1, b1⟩
  have hf1 : e = .returned (.bool false) := he1.trans (congrArg (fun x => Ending.returned (.bool x)) hs)
  subst hf1
  have S1 := Lib.hid (S0.out.grow OK.out b1)
  have A1 := Lib.hid (A0.out.grow b1)
  clear he1 b1 S0 A0
  go_wp2_with (first | (refine wpList_load_row rfl _ _ rfl hb rfl _ _ _ _ A1.out.row Tryz.underlying26 rfl (by kernel_rfl) ?_))
  refine (hasFirst_any w1 ⟨x_first, x_count, x_type, x_fnum, x_id, x_poc, x_spatial, x_act0, x_act1, x_mods0, x_mods1, x_log, x_logc, x_w0, x_w1, x_longkey, x_ops, x_qp, x_off, x_a, x_b⟩ A.m0 A.m1 A.q0 A.q1 A.os A.m0c A.m1c A.q0c A.q1c A.osc).mono ?_
  rintro e w2 ⟨he2, b2⟩
  have hf2 : e = .returned (.bool false) := he2.trans (congrArg (fun x => Ending.returned (.bool x)) hf)
  subst hf2
  have S2 := Lib.hid (S1.out.grow OK.out b2)
  have A2 := Lib.hid (A1.out.grow b2)
  clear he2 b2 S1 A1
  go_wp2_with (first | (refine wpList_load_row rfl _ _ rfl hb rfl _ _ _ _ A2.out.row Tryz.underlying26 rfl (by kernel_rfl) ?_))
  refine (hasSecond_any w2 ⟨x_first, x_count, x_type, x_fnum, x_id, x_poc, x_spatial, x_act0, x_act1, x_mods0, x_mods1, x_log, x_logc, x_w0, x_w1, x_longkey, x_ops, x_qp, x_off, x_a, x_b⟩ A.m0 A.m1 A.q0 A.q1 A.os A.m0c A.m1c A.q0c A.q1c A.osc).mono ?_
  rintro e w3 ⟨he3, b3⟩
  have hf3 : e = .returned (.bool false) := he3.trans (congrArg (fun x => Ending.returned (.bool x)) hs)
  subst hf3
  have S3 := Lib.hid (S2.out.grow OK.out b3)
  have A3 := Lib.hid (A2.out.grow b3)
  clear he3 b3 S2 A2
  by_cases q7 : x_act0 ≤ 8
  · by_cases q8 : x_act1 ≤ 8
    · have c7 : w3.cell? ⟨hb, 7, none⟩ = some (.int .i64 x_act0) := (A3.out.cell 7 _ rfl).cell
      have c8 : w3.cell? ⟨hb, 8, none⟩ = some (.int .i64 x_act1) := (A3.out.cell 8 _ rfl).cell
      go_wp2_with fail
      try clear c7 c8
      refine (ask_any OK.out _ (n + 400) s (true) S3.out).mono ?_
      rintro e w4 ⟨rfl, s4, f4⟩
      rw [show (true : Bool) = (decide (x_act0 ≤ 8) && decide (x_act1 ≤ 8)) from by simp [q7, q8], H1.out] at s4
      have S4 := Lib.hid s4
      have A4 := Lib.hid (A3.out.stay f4)
      clear s4 f4 H1 S3 A3
      go_wp2_with (first | (refine wpList_load_row rfl _ _ rfl hb rfl _ _ _ _ A4.out.row Tryz.underlying26 rfl (by kernel_rfl) ?_))
      refine (hasFirst_any w4 ⟨x_first, x_count, x_type, x_fnum, x_id, x_poc, x_spatial, x_act0, x_act1, x_mods0, x_mods1, x_log, x_logc, x_w0, x_w1, x_longkey, x_ops, x_qp, x_off, x_a, x_b⟩ A.m0 A.m1 A.q0 A.q1 A.os A.m0c A.m1c A.q0c A.q1c A.osc).mono ?_
      rintro e w5 ⟨he5, b5⟩
      have hf5 : e = .returned (.bool false) := he5.trans (congrArg (fun x => Ending.returned (.bool x)) hf)
      subst hf5
      have S5 := Lib.hid (S4.out.grow OK.out b5)
      have A5 := Lib.hid (A4.out.grow b5)
      clear he5 b5 S4 A4
      go_wp2_with (first | (refine wpList_load_row rfl _ _ rfl hb rfl _ _ _ _ A5.out.row Tryz.underlying26 rfl (by kernel_rfl) ?_))
      refine (hasSecond_any w5 ⟨x_first, x_count, x_type, x_fnum, x_id, x_poc, x_spatial, x_act0, x_act1, x_mods0, x_mods1, x_log, x_logc, x_w0, x_w1, x_longkey, x_ops, x_qp, x_off, x_a, x_b⟩ A.m0 A.m1 A.q0 A.q1 A.os A.m0c A.m1c A.q0c A.q1c A.osc).mono ?_
      rintro e w6 ⟨he6, b6⟩
      have hf6 : e = .returned (.bool false) := he6.trans (congrArg (fun x => Ending.returned (.bool x)) hs)
      subst hf6
      have S6 := Lib.hid (S5.out.grow OK.out b6)
      have A6 := Lib.hid (A5.out.grow b6)
      clear he6 b6 S5 A5
      go_wp2_with fail
      go_end0
      exact ⟨rfl, S6.out.less (by omega), _, A6.out⟩
    · have d8 : decide (x_act1 ≤ 8) = false := decide_eq_false q8
      have D8 := Lib.hid d8
      have c7 : w3.cell? ⟨hb, 7, none⟩ = some (.int .i64 x_act0) := (A3.out.cell 7 _ rfl).cell
      have c8 : w3.cell? ⟨hb, 8, none⟩ = some (.int .i64 x_act1) := (A3.out.cell 8 _ rfl).cell
      go_wp2_with fail
      try clear c7 c8
      refine (ask_any OK.out _ (n + 400) s (false) S3.out).mono ?_
      rintro e w4 ⟨rfl, s4, f4⟩
      rw [show (false : Bool) = (decide (x_act0 ≤ 8) && decide (x_act1 ≤ 8)) from by rw [D8.out, Bool.and_false], H1.out] at s4
      have S4 := Lib.hid s4
      have A4 := Lib.hid (A3.out.stay f4)
      clear s4 f4 H1 S3 A3
      go_wp2_with (first | (refine wpList_load_row rfl _ _ rfl hb rfl _ _ _ _ A4.out.row Tryz.underlying26 rfl (by kernel_rfl) ?_))
      refine (hasFirst_any w4 ⟨x_first, x_count, x_type, x_fnum, x_id, x_poc, x_spatial, x_act0, x_act1, x_mods0, x_mods1, x_log, x_logc, x_w0, x_w1, x_longkey, x_ops, x_qp, x_off, x_a, x_b⟩ A.m0 A.m1 A.q0 A.q1 A.os A.m0c A.m1c A.q0c A.q1c A.osc).mono ?_
      rintro e w5 ⟨he5, b5⟩
      have hf5 : e = .returned (.bool false) := he5.trans (congrArg (fun x => Ending.returned (.bool x)) hf)
      subst hf5
      have S5 := Lib.hid (S4.out.grow OK.out b5)
      have A5 := Lib.hid (A4.out.grow b5)
      clear he5 b5 S4 A4
      go_wp2_with (first | (refine wpList_load_row rfl _ _ rfl hb rfl _ _ _ _ A5.out.row Tryz.underlying26 rfl (by kernel_rfl) ?_))
      refine (hasSecond_any w5 ⟨x_first, x_count, x_type, x_fnum, x_id, x_poc, x_spatial, x_act0, x_act1, x_mods0, x_mods1, x_log, x_logc, x_w0, x_w1, x_longkey, x_ops, x_qp, x_off, x_a, x_b⟩ A.m0 A.m1 A.q0 A.q1 A.os A.m0c A.m1c A.q0c A.q1c A.osc).mono ?_
      rintro e w6 ⟨he6, b6⟩
      have hf6 : e = .returned (.bool false) := he6.trans (congrArg (fun x => Ending.returned (.bool x)) hs)
      subst hf6
      have S6 := Lib.hid (S5.out.grow OK.out b6)
      have A6 := Lib.hid (A5.out.grow b6)
      clear he6 b6 S5 A5
      go_wp2_with fail
      go_end0
      exact ⟨rfl, S6.out.less (by omega), _, A6.out⟩
  · have d7 : decide (x_act0 ≤ 8) = false := decide_eq_false q7
    have D7 := Lib.hid d7
    have c7 : w3.cell? ⟨hb, 7, none⟩ = some (.int .i64 x_act0) := (A3.out.cell 7 _ rfl).cell
    have c8 : w3.cell? ⟨hb, 8, none⟩ = some (.int .i64 x_act1) := (A3.out.cell 8 _ rfl).cell
    go_wp2_with fail
    try clear c7 c8
    refine (ask_any OK.out _ (n + 400) s (false) S3.out).mono ?_
    rintro e w4 ⟨rfl, s4, f4⟩
    rw [show (false : Bool) = (decide (x_act0 ≤ 8) && decide (x_act1 ≤ 8)) from by rw [D7.out, Bool.false_and], H1.out] at s4
    have S4 := Lib.hid s4
    have A4 := Lib.hid (A3.out.stay f4)
    clear s4 f4 H1 S3 A3
    go_wp2_with (first | (refine wpList_load_row rfl _ _ rfl hb rfl _ _ _ _ A4.out.row Tryz.underlying26 rfl (by kernel_rfl) ?_))
    refine (hasFirst_any w4 ⟨x_first, x_count, x_type, x_fnum, x_id, x_poc, x_spatial, x_act0, x_act1, x_mods0, x_mods1, x_log, x_logc, x_w0, x_w1, x_longkey, x_ops, x_qp, x_off, x_a, x_b⟩ A.m0 A.m1 A.q0 A.q1 A.os A.m0c A.m1c A.q0c A.q1c A.osc).mono ?_
    rintro e w5 ⟨he5, b5⟩
    have hf5 : e = .returned (.bool false) := he5.trans (congrArg (fun x => Ending.returned (.bool x)) hf)
    subst hf5
    have S5 := Lib.hid (S4.out.grow OK.out b5)
    have A5 := Lib.hid (A4.out.grow b5)
    clear he5 b5 S4 A4
    go_wp2_with (first | (refine wpList_load_row rfl _ _ rfl hb rfl _ _ _ _ A5.out.row Tryz.underlying26 rfl (by kernel_rfl) ?_))
    refine (hasSecond_any w5 ⟨x_first, x_count, x_type, x_fnum, x_id, x_poc, x_spatial, x_act0, x_act1, x_mods0, x_mods1, x_log, x_logc, x_w0, x_w1, x_longkey, x_ops, x_qp, x_off, x_a, x_b⟩ A.m0 A.m1 A.q0 A.q1 A.os A.m0c A.m1c A.q0c A.q1c A.osc).mono ?_
    rintro e w6 ⟨he6, b6⟩
    have hf6 : e = .returned (.bool false) := he6.trans (congrArg (fun x => Ending.returned (.bool x)) hs)
    subst hf6
    have S6 := Lib.hid (S5.out.grow OK.out b6)
    have A6 := Lib.hid (A5.out.grow b6)
    clear he6 b6 S5 A5
    go_wp2_with fail
    go_end0
    exact ⟨rfl, S6.out.less (by omega), _, A6.out⟩

end
end Go.Proofs.YthcbgijmnonckaaGreat
/- Layer 4: the walk, whichever way: lists of references. -/
namespace Go.Proofs.YthcbgijmnonckaaGreat
open Go.RowKit Zo Zp
set_option linter.unusedVariables false
set_option linter.unusedSimpArgs false

section
variable {σ : Type} {C : Ctx} {F : WayFns σ} {fuel : σ → Nat} {way : World → σ → Prop}

set_option maxRecDepth 100000 in
set_option maxHeartbeats 20000000 in
theorem lists_any (ok : WayOk C F fuel way) (W w : World) (n : Nat) (s : Ws σ) (hb : Nat) (h : HeadN) (A : Adr) (hst : St C fuel way (n + 400) w s) (hat : At C W w hb h A) (m0 : C.moves = true → h.mods0 = []) (m1 : C.moves = true → h.mods1 = []) (l0 : h.mods0.length ≤ 16) (l1 : h.mods1.length ≤ 16) :
    Calls Tryz.prog 85 #[.pointer (some ⟨C.kb, 0, none⟩), .pointer (some ⟨hb, 0, none⟩)] w fun e w' =>
      e = .returned (.tuple #[]) ∧ St C fuel way n w' (fLists F h s).2 ∧ ∃ A', At C W w' hb (fLists F h s).1 A' := by
  by_cases k1 : h.type = 1
  · exact lists_B ok W w n s hb h A hst hat m0 m1 l0 l1 (by simp [k1]) (by simp [oneFirst, k1])
  · by_cases k0 : h.type = 0
    · exact lists_P ok W w n s hb h A hst hat m0 m1 l0 l1 (by simp [k1]) (by simp [oneFirst, k0])
    · exact lists_I ok W w n s hb h A hst hat m0 m1 l0 l1 (by simp [k1]) (by simp [oneFirst, k0, k1])

end
end Go.Proofs.YthcbgijmnonckaaGreat
