/- Layer 4: the walk, whichever way: weights, marks, edges. -/
import Derived.Test.YthcbgijmnonckaaGreatJK
namespace Go.Proofs.YthcbgijmnonckaaGreat
open Go.RowKit Zo Zp
set_option linter.unusedVariables false
set_option linter.unusedSimpArgs false

section
variable {σ : Type} {C : Ctx} {F : WayFns σ} {fuel : σ → Nat} {way : World → σ → Prop}

theorem unit_at {C : Ctx} {c : Int} {j : Nat} {v : Value} (h : ([.int .i64 C.s.wide, .int .i64 C.s.high, .int .i64 C.s.fbits, .int .i64 C.s.ptype, .int .i64 C.s.pbits, .int .i64 C.s.nonref, .slice C.sa C.s.cycle.length C.scap, .int .i64 C.s.refs, .int .i64 C.s.delay, .bool C.p.cabac, .bool C.p.weighted, .int .i64 C.p.bipred, .int .i64 C.p.qp, .int .i64 C.p.chroma, .bool C.p.constrained, .bool C.p.deblock, .int .i64 C.p.act0, .int .i64 C.p.act1, .int .i64 C.ref, .bool C.key] : List Value)[j]? = some v) : (C.cells c)[j]? = some v := by
  have e : (C.cells c) = (#[.int .i64 C.s.wide, .int .i64 C.s.high, .int .i64 C.s.fbits, .int .i64 C.s.ptype, .int .i64 C.s.pbits, .int .i64 C.s.nonref, .slice C.sa C.s.cycle.length C.scap, .int .i64 C.s.refs, .int .i64 C.s.delay, .bool C.p.cabac, .bool C.p.weighted, .int .i64 C.p.bipred, .int .i64 C.p.qp, .int .i64 C.p.chroma, .bool C.p.constrained, .bool C.p.deblock, .int .i64 C.p.act0, .int .i64 C.p.act1, .int .i64 C.ref, .bool C.key] ++ #[C.wv, .int .i64 c] : Array Value) := rfl
  have hj := (List.getElem?_eq_some_iff.1 h).1
  rw [e, Array.getElem?_append_left (by simpa using hj)]
  simpa using h

theorem fMany_idle {α : Type} {item : α → Ws σ → α × Ws σ} (hi : ∀ x (s : Ws σ), s.c ≠ 0 → (item x s).2 = s) : ∀ (l : List α) (s : Ws σ), s.c ≠ 0 → (fMany item l s).2 = s
  | [], s, _ => rfl
  | x :: l, s, h => by
    simp only [fMany]
    rw [fMany_idle hi l _ (by rw [hi x s h]; exact h), hi x s h]

set_option maxRecDepth 100000 in
set_option maxHeartbeats 20000000 in
theorem weights_any (ok : WayOk C F fuel way) (W w : World) (n : Nat) (s : Ws σ) (hb : Nat) (h : HeadN) (A : Adr) (hst : St C fuel way (n + 300) w s) (hat : At C W w hb h A) (m2 : C.moves = true → h.w0 = []) (m3 : C.moves = true → h.w1 = []) (l2 : h.w0.length ≤ 16) (l3 : h.w1.length ≤ 16) (n0 : s.c = 0 → h.act0 ≤ 8) (n1 : s.c = 0 → h.act1 ≤ 8) (k0 : C.moves = false → h.act0 ≤ h.w0.length) (k1 : C.moves = false → h.act1 ≤ h.w1.length) :
    Calls Tryz.prog 87 #[.pointer (some ⟨C.kb, 0, none⟩), .pointer (some ⟨hb, 0, none⟩)] w fun e w' =>
      e = .returned (.tuple #[]) ∧ St C fuel way n w' (fWeights F h s).2 ∧ ∃ A', At C W w' hb (fWeights F h s).1 A' := by
  obtain ⟨x_first, x_count, x_type, x_fnum, x_id, x_poc, x_spatial, x_act0, x_act1, x_mods0, x_mods1, x_log, x_logc, x_w0, x_w1, x_longkey, x_ops, x_qp, x_off, x_a, x_b⟩ := h
  have OK := Lib.hid ok
  have S0 := Lib.hid hst
  have A0 := Lib.hid hat
  obtain ⟨w0, hw0⟩ : ∃ x, x = w := ⟨_, rfl⟩
  subst hw0
  have M_w0 : C.moves = true → x_w0 = [] := m2
  have M_w1 : C.moves = true → x_w1 = [] := m3
  have L_w0 : x_w0.length ≤ 16 := l2
  have L_w1 : x_w1.length ≤ 16 := l3
  have N0 : s.c = 0 → x_act0 ≤ 8 := n0
  have N1 : s.c = 0 → x_act1 ≤ 8 := n1
  have K_w0 : C.moves = false → x_act0 ≤ x_w0.length := k0
  have K_w1 : C.moves = false → x_act1 ≤ x_w1.length := k1
  clear m2 m3 l2 l3 n0 n1 k0 k1
  clear ok hst hat

  obtain ⟨⟨v1, t1⟩, h1⟩ : ∃ r, fUe F x_log 0 s = r := ⟨_, rfl⟩
  obtain ⟨⟨v2, t2⟩, h2⟩ : ∃ r, fUe F x_logc 0 t1 = r := ⟨_, rfl⟩
  obtain ⟨⟨v3, t3⟩, h3⟩ : ∃ r, fList WeightN.zero (fWeight F) x_act0 x_w0 t2 = r := ⟨_, rfl⟩
  obtain ⟨⟨v4, t4⟩, h4⟩ : ∃ r, fList WeightN.zero (fWeight F) x_act1 x_w1 t3 = r := ⟨_, rfl⟩
  have E : fWeights F ⟨x_first, x_count, x_type, x_fnum, x_id, x_poc, x_spatial, x_act0, x_act1, x_mods0, x_mods1, x_log, x_logc, x_w0, x_w1, x_longkey, x_ops, x_qp, x_off, x_a, x_b⟩ s = ((⟨x_first, x_count, x_type, x_fnum, x_id, x_poc, x_spatial, x_act0, x_act1, x_mods0, x_mods1, v1, v2, v3, v4, x_longkey, x_ops, x_qp, x_off, x_a, x_b⟩ : HeadN), t4) := by
    simp only [fWeights, h1, h2, h3, h4]
  rw [E]
  have Q1 : t1.c = 0 → s.c = 0 := fun e => Classical.byContradiction fun h => by rw [fUe_idle h] at h1; cases h1; exact h e
  have Q2 : t2.c = 0 → t1.c = 0 := fun e => Classical.byContradiction fun h => by rw [fUe_idle h] at h2; cases h2; exact h e
  have Q3 : t3.c = 0 → t2.c = 0 := fun e => Classical.byContradiction fun h => by rw [fList_idle h] at h3; cases h3; exact h e
  have H1 := Lib.hid h1
  have H2 := Lib.hid h2
  have H3 := Lib.hid h3
  have H4 := Lib.hid h4
  clear E h1 h2 h3 h4
  go_enter Tryz.func87, Tryz.ntmps87
  go_wp2_with fail
  refine (OK.out.ue _ (n + 299) s hb 11 x_log 0 (S0.out.less (by omega)) (A0.out.cell 11 _ rfl) (by omega) (by omega)).mono ?_
  rintro e w1 ⟨rfl, s1, p1⟩
  rw [H1.out] at s1 p1
  have S1 := Lib.hid s1
  have A1 := Lib.hid (A0.out.set p1 ⟨x_first, x_count, x_type, x_fnum, x_id, x_poc, x_spatial, x_act0, x_act1, x_mods0, x_mods1, v1, x_logc, x_w0, x_w1, x_longkey, x_ops, x_qp, x_off, x_a, x_b⟩ rfl rfl rfl rfl rfl rfl)
  clear s1 p1 H1 S0 A0
  go_wp2_with fail
  refine (OK.out.ue _ (n + 298) t1 hb 12 x_logc 0 (S1.out.less (by omega)) (A1.out.cell 12 _ rfl) (by omega) (by omega)).mono ?_
  rintro e w2 ⟨rfl, s2, p2⟩
  rw [H2.out] at s2 p2
  have S2 := Lib.hid s2
  have A2 := Lib.hid (A1.out.set p2 ⟨x_first, x_count, x_type, x_fnum, x_id, x_poc, x_spatial, x_act0, x_act1, x_mods0, x_mods1, v1, v2, x_w0, x_w1, x_longkey, x_ops, x_qp, x_off, x_a, x_b⟩ rfl rfl rfl rfl rfl rfl)
  clear s2 p2 H2 S1 A1
  have c7 : w2.cell? ⟨hb, 7, none⟩ = some (.int .i64 x_act0) := (A2.out.cell 7 _ rfl).cell
  have LI := Lib.hid (fun k => listWeight_any OK.out (w2.drewN k) (n + 198) t2 hb 13 (headCells ⟨x_first, x_count, x_type, x_fnum, x_id, x_poc, x_spatial, x_act0, x_act1, x_mods0, x_mods1, v1, v2, x_w0, x_w1, x_longkey, x_ops, x_qp, x_off, x_a, x_b⟩ A) _ x_w0 _ _ x_act0 ((S2.out.drewN OK.out k).less (by omega)) (A2.out.drewN k).row ⟨by decide, by decide, by decide⟩ A2.out.ne rfl ((A2.out.drewN k).r2.re M_w0) M_w0 (fun e _ => K_w0 e) (fun e => by have := N0 (Q1 (Q2 e)); omega) L_w0)
  go_wp2_with fail
  go_region_with ((go_at_call 113; refine (LI.out 1).mono ?_; rintro e w3 ⟨rfl, s3, p3⟩))
  all_goals
    rw [H3.out] at s3 p3
    have p3 := p3.from (Fr.drewN (Fr.refl (Un C w2 (fun _ => False)) w2) 1)
    have S3 := Lib.hid s3
    obtain ⟨AD3, a3⟩ := A2.out.to_w0 p3
    have A3 := Lib.hid (show At C W w3 hb ⟨x_first, x_count, x_type, x_fnum, x_id, x_poc, x_spatial, x_act0, x_act1, x_mods0, x_mods1, v1, v2, v3, x_w1, x_longkey, x_ops, x_qp, x_off, x_a, x_b⟩ AD3 from a3)
    clear s3 p3 a3 H3 S2 A2 LI c7
    have c8 : w3.cell? ⟨hb, 8, none⟩ = some (.int .i64 x_act1) := (A3.out.cell 8 _ rfl).cell
    have LI := Lib.hid (fun k => listWeight_any OK.out (w3.drewN k) (n + 98) t3 hb 14 (headCells ⟨x_first, x_count, x_type, x_fnum, x_id, x_poc, x_spatial, x_act0, x_act1, x_mods0, x_mods1, v1, v2, v3, x_w1, x_longkey, x_ops, x_qp, x_off, x_a, x_b⟩ AD3) _ x_w1 _ _ x_act1 ((S3.out.drewN OK.out k).less (by omega)) (A3.out.drewN k).row ⟨by decide, by decide, by decide⟩ A3.out.ne rfl ((A3.out.drewN k).r3.re M_w1) M_w1 (fun e _ => K_w1 e) (fun e => by have := N1 (Q1 (Q2 (Q3 e))); omega) L_w1)
    go_wp2_with fail
    go_region_with ((go_at_call 113; refine (LI.out 1).mono ?_; rintro e w4 ⟨rfl, s4, p4⟩))
    all_goals
      rw [H4.out] at s4 p4
      have p4 := p4.from (Fr.drewN (Fr.refl (Un C w3 (fun _ => False)) w3) 1)
      have S4 := Lib.hid s4
      obtain ⟨AD4, a4⟩ := A3.out.to_w1 p4
      have A4 := Lib.hid (show At C W w4 hb ⟨x_first, x_count, x_type, x_fnum, x_id, x_poc, x_spatial, x_act0, x_act1, x_mods0, x_mods1, v1, v2, v3, v4, x_longkey, x_ops, x_qp, x_off, x_a, x_b⟩ AD4 from a4)
      clear s4 p4 a4 H4 S3 A3 LI c8
      go_wp2_with fail
      go_end0
      exact ⟨rfl, S4.out.less (by omega), _, A4.out⟩

set_option maxRecDepth 100000 in
set_option maxHeartbeats 20000000 in
theorem marks_any (ok : WayOk C F fuel way) (W w : World) (n : Nat) (s : Ws σ) (hb : Nat) (h : HeadN) (A : Adr) (hst : St C fuel way (n + 150) w s) (hat : At C W w hb h A) (m4 : C.moves = true → h.ops = []) (l4 : h.ops.length ≤ 16) :
    Calls Tryz.prog 88 #[.pointer (some ⟨C.kb, 0, none⟩), .pointer (some ⟨hb, 0, none⟩)] w fun e w' =>
      e = .returned (.tuple #[]) ∧ St C fuel way n w' (fMarks F C.ref C.key h s).2 ∧ ∃ A', At C W w' hb (fMarks F C.ref C.key h s).1 A' := by
  obtain ⟨x_first, x_count, x_type, x_fnum, x_id, x_poc, x_spatial, x_act0, x_act1, x_mods0, x_mods1, x_log, x_logc, x_w0, x_w1, x_longkey, x_ops, x_qp, x_off, x_a, x_b⟩ := h
  have OK := Lib.hid ok
  have S0 := Lib.hid hst
  have A0 := Lib.hid hat
  obtain ⟨w0, hw0⟩ : ∃ x, x = w := ⟨_, rfl⟩
  subst hw0
  have M_ops : C.moves = true → x_ops = [] := m4
  have L_ops : x_ops.length ≤ 16 := l4
  clear m4 l4
  clear ok hst hat

  obtain ⟨mk, hmk⟩ : ∃ b, (C.key && decide (0 < C.ref)) = b := ⟨_, rfl⟩
  obtain ⟨mo, hmo⟩ : ∃ b, (!C.key && decide (0 < C.ref)) = b := ⟨_, rfl⟩
  cases mk <;> cases mo
  · have E : fMarks F C.ref C.key ⟨x_first, x_count, x_type, x_fnum, x_id, x_poc, x_spatial, x_act0, x_act1, x_mods0, x_mods1, x_log, x_logc, x_w0, x_w1, x_longkey, x_ops, x_qp, x_off, x_a, x_b⟩ s = ((⟨x_first, x_count, x_type, x_fnum, x_id, x_poc, x_spatial, x_act0, x_act1, x_mods0, x_mods1, x_log, x_logc, x_w0, x_w1, x_longkey, x_ops, x_qp, x_off, x_a, x_b⟩ : HeadN), s) := by
      simp only [fMarks, hmk, hmo, if_true, if_false, Bool.false_eq_true]
    rw [E]
    clear E 
    go_enter Tryz.func88, Tryz.ntmps88
    go_wp2_with (first | (refine wpList_load_mid rfl _ _ rfl C.kb 0 rfl [.int .i64 C.s.wide, .int .i64 C.s.high, .int .i64 C.s.fbits, .int .i64 C.s.ptype, .int .i64 C.s.pbits, .int .i64 C.s.nonref, .slice C.sa C.s.cycle.length C.scap, .int .i64 C.s.refs, .int .i64 C.s.delay, .bool C.p.cabac, .bool C.p.weighted, .int .i64 C.p.bipred, .int .i64 C.p.qp, .int .i64 C.p.chroma, .bool C.p.constrained, .bool C.p.deblock, .int .i64 C.p.act0, .int .i64 C.p.act1, .int .i64 C.ref, .bool C.key] _ (fun j v hv => S0.out.k.cell (0 + j) v (by rw [Nat.zero_add]; exact unit_at hv)) Tryz.underlying87 rfl (by kernel_rfl) ?_))
    refine (marksKey_any w0 C.s C.sa C.scap C.p C.ref C.key).mono ?_
    rintro e w1 ⟨he1, b1⟩
    have hf1 : e = .returned (.bool false) := he1.trans (congrArg (fun x => Ending.returned (.bool x)) hmk)
    subst hf1
    have S1 := Lib.hid (S0.out.grow OK.out b1)
    have A1 := Lib.hid (A0.out.grow b1)
    clear he1 b1 S0 A0
    go_wp2_with (first | (refine wpList_load_mid rfl _ _ rfl C.kb 0 rfl [.int .i64 C.s.wide, .int .i64 C.s.high, .int .i64 C.s.fbits, .int .i64 C.s.ptype, .int .i64 C.s.pbits, .int .i64 C.s.nonref, .slice C.sa C.s.cycle.length C.scap, .int .i64 C.s.refs, .int .i64 C.s.delay, .bool C.p.cabac, .bool C.p.weighted, .int .i64 C.p.bipred, .int .i64 C.p.qp, .int .i64 C.p.chroma, .bool C.p.constrained, .bool C.p.deblock, .int .i64 C.p.act0, .int .i64 C.p.act1, .int .i64 C.ref, .bool C.key] _ (fun j v hv => S1.out.k.cell (0 + j) v (by rw [Nat.zero_add]; exact unit_at hv)) Tryz.underlying87 rfl (by kernel_rfl) ?_))
    refine (marksOther_any w1 C.s C.sa C.scap C.p C.ref C.key).mono ?_
    rintro e w2 ⟨he2, b2⟩
    have hf2 : e = .returned (.bool false) := he2.trans (congrArg (fun x => Ending.returned (.bool x)) hmo)
    subst hf2
    have S2 := Lib.hid (S1.out.grow OK.out b2)
    have A2 := Lib.hid (A1.out.grow b2)
    clear he2 b2 S1 A1
    go_wp2_with fail
    go_end0
    exact ⟨rfl, S2.out.less (by omega), _, A2.out⟩

  · obtain ⟨⟨v1, t1⟩, h1⟩ : ∃ r, fCounted F OpN.zero (fOp F) 16 x_ops s = r := ⟨_, rfl⟩
    have E : fMarks F C.ref C.key ⟨x_first, x_count, x_type, x_fnum, x_id, x_poc, x_spatial, x_act0, x_act1, x_mods0, x_mods1, x_log, x_logc, x_w0, x_w1, x_longkey, x_ops, x_qp, x_off, x_a, x_b⟩ s = ((⟨x_first, x_count, x_type, x_fnum, x_id, x_poc, x_spatial, x_act0, x_act1, x_mods0, x_mods1, x_log, x_logc, x_w0, x_w1, x_longkey, v1, x_qp, x_off, x_a, x_b⟩ : HeadN), t1) := by
      simp only [fMarks, hmk, hmo, if_true, if_false, Bool.false_eq_true, h1]
    rw [E]
    have H1 := Lib.hid h1
    clear E h1
    go_enter Tryz.func88, Tryz.ntmps88
    go_wp2_with (first | (refine wpList_load_mid rfl _ _ rfl C.kb 0 rfl [.int .i64 C.s.wide, .int .i64 C.s.high, .int .i64 C.s.fbits, .int .i64 C.s.ptype, .int .i64 C.s.pbits, .int .i64 C.s.nonref, .slice C.sa C.s.cycle.length C.scap, .int .i64 C.s.refs, .int .i64 C.s.delay, .bool C.p.cabac, .bool C.p.weighted, .int .i64 C.p.bipred, .int .i64 C.p.qp, .int .i64 C.p.chroma, .bool C.p.constrained, .bool C.p.deblock, .int .i64 C.p.act0, .int .i64 C.p.act1, .int .i64 C.ref, .bool C.key] _ (fun j v hv => S0.out.k.cell (0 + j) v (by rw [Nat.zero_add]; exact unit_at hv)) Tryz.underlying87 rfl (by kernel_rfl) ?_))
    refine (marksKey_any w0 C.s C.sa C.scap C.p C.ref C.key).mono ?_
    rintro e w1 ⟨he1, b1⟩
    have hf1 : e = .returned (.bool false) := he1.trans (congrArg (fun x => Ending.returned (.bool x)) hmk)
    subst hf1
    have S1 := Lib.hid (S0.out.grow OK.out b1)
    have A1 := Lib.hid (A0.out.grow b1)
    clear he1 b1 S0 A0
    go_wp2_with (first | (refine wpList_load_mid rfl _ _ rfl C.kb 0 rfl [.int .i64 C.s.wide, .int .i64 C.s.high, .int .i64 C.s.fbits, .int .i64 C.s.ptype, .int .i64 C.s.pbits, .int .i64 C.s.nonref, .slice C.sa C.s.cycle.length C.scap, .int .i64 C.s.refs, .int .i64 C.s.delay, .bool C.p.cabac, .bool C.p.weighted, .int .i64 C.p.bipred, .int .i64 C.p.qp, .int .i64 C.p.chroma, .bool C.p.constrained, .bool C.p.deblock, .int .i64 C.p.act0, .int .i64 C.p.act1, .int .i64 C.ref, .bool C.key] _ (fun j v hv => S1.out.k.cell (0 + j) v (by rw [Nat.zero_add]; exact unit_at hv)) Tryz.underlying87 rfl (by kernel_rfl) ?_))
    refine (marksOther_any w1 C.s C.sa C.scap C.p C.ref C.key).mono ?_
    rintro e w2 ⟨he2, b2⟩
    have hf2 : e = .returned (.bool true) := he2.trans (congrArg (fun x => Ending.returned (.bool x)) hmo)
    subst hf2
    have S2 := Lib.hid (S1.out.grow OK.out b2)
    have A2 := Lib.hid (A1.out.grow b2)
    clear he2 b2 S1 A1
    go_wp2_with fail
    refine (countedOp_any OK.out _ (n + 49) s hb 16 (headCells ⟨x_first, x_count, x_type, x_fnum, x_id, x_poc, x_spatial, x_act0, x_act1, x_mods0, x_mods1, x_log, x_logc, x_w0, x_w1, x_longkey, x_ops, x_qp, x_off, x_a, x_b⟩ A) _ x_ops _ _ (S2.out.less (by omega)) A2.out.row ⟨by decide, by decide, by decide⟩ A2.out.ne rfl (A2.out.r4.re M_ops) M_ops L_ops).mono ?_
    rintro e w3 ⟨rfl, s3, p3⟩
    rw [H1.out] at s3 p3
    have S3 := Lib.hid s3
    obtain ⟨AD3, a3⟩ := A2.out.to_ops p3
    have A3 := Lib.hid (show At C W w3 hb ⟨x_first, x_count, x_type, x_fnum, x_id, x_poc, x_spatial, x_act0, x_act1, x_mods0, x_mods1, x_log, x_logc, x_w0, x_w1, x_longkey, v1, x_qp, x_off, x_a, x_b⟩ AD3 from a3)
    clear s3 p3 a3 H1 S2 A2
    go_wp2_with fail
    go_end0
    exact ⟨rfl, S3.out.less (by omega), _, A3.out⟩

  · obtain ⟨⟨v1, t1⟩, h1⟩ : ∃ r, fFlag F x_longkey s = r := ⟨_, rfl⟩
    have E : fMarks F C.ref C.key ⟨x_first, x_count, x_type, x_fnum, x_id, x_poc, x_spatial, x_act0, x_act1, x_mods0, x_mods1, x_log, x_logc, x_w0, x_w1, x_longkey, x_ops, x_qp, x_off, x_a, x_b⟩ s = ((⟨x_first, x_count, x_type, x_fnum, x_id, x_poc, x_spatial, x_act0, x_act1, x_mods0, x_mods1, x_log, x_logc, x_w0, x_w1, v1, x_ops, x_qp, x_off, x_a, x_b⟩ : HeadN), t1) := by
      simp only [fMarks, hmk, hmo, if_true, if_false, Bool.false_eq_true, h1]
    rw [E]
    have H1 := Lib.hid h1
    clear E h1
    go_enter Tryz.func88, Tryz.ntmps88
    go_wp2_with (first | (refine wpList_load_mid rfl _ _ rfl C.kb 0 rfl [.int .i64 C.s.wide, .int .i64 C.s.high, .int .i64 C.s.fbits, .int .i64 C.s.ptype, .int .i64 C.s.pbits, .int .i64 C.s.nonref, .slice C.sa C.s.cycle.length C.scap, .int .i64 C.s.refs, .int .i64 C.s.delay, .bool C.p.cabac, .bool C.p.weighted, .int .i64 C.p.bipred, .int .i64 C.p.qp, .int .i64 C.p.chroma, .bool C.p.constrained, .bool C.p.deblock, .int .i64 C.p.act0, .int .i64 C.p.act1, .int .i64 C.ref, .bool C.key] _ (fun j v hv => S0.out.k.cell (0 + j) v (by rw [Nat.zero_add]; exact unit_at hv)) Tryz.underlying87 rfl (by kernel_rfl) ?_))
    refine (marksKey_any w0 C.s C.sa C.scap C.p C.ref C.key).mono ?_
    rintro e w1 ⟨he1, b1⟩
    have hf1 : e = .returned (.bool true) := he1.trans (congrArg (fun x => Ending.returned (.bool x)) hmk)
    subst hf1
    have S1 := Lib.hid (S0.out.grow OK.out b1)
    have A1 := Lib.hid (A0.out.grow b1)
    clear he1 b1 S0 A0
    go_wp2_with fail
    refine (OK.out.flag _ (n + 149) s hb 15 x_longkey (S1.out.less (by omega)) (A1.out.cell 15 _ rfl)).mono ?_
    rintro e w2 ⟨rfl, s2, p2⟩
    rw [H1.out] at s2 p2
    have S2 := Lib.hid s2
    have A2 := Lib.hid (A1.out.set p2 ⟨x_first, x_count, x_type, x_fnum, x_id, x_poc, x_spatial, x_act0, x_act1, x_mods0, x_mods1, x_log, x_logc, x_w0, x_w1, v1, x_ops, x_qp, x_off, x_a, x_b⟩ rfl rfl rfl rfl rfl rfl)
    clear s2 p2 H1 S1 A1
    go_wp2_with (first | (refine wpList_load_mid rfl _ _ rfl C.kb 0 rfl [.int .i64 C.s.wide, .int .i64 C.s.high, .int .i64 C.s.fbits, .int .i64 C.s.ptype, .int .i64 C.s.pbits, .int .i64 C.s.nonref, .slice C.sa C.s.cycle.length C.scap, .int .i64 C.s.refs, .int .i64 C.s.delay, .bool C.p.cabac, .bool C.p.weighted, .int .i64 C.p.bipred, .int .i64 C.p.qp, .int .i64 C.p.chroma, .bool C.p.constrained, .bool C.p.deblock, .int .i64 C.p.act0, .int .i64 C.p.act1, .int .i64 C.ref, .bool C.key] _ (fun j v hv => S2.out.k.cell (0 + j) v (by rw [Nat.zero_add]; exact unit_at hv)) Tryz.underlying87 rfl (by kernel_rfl) ?_))
    refine (marksOther_any w2 C.s C.sa C.scap C.p C.ref C.key).mono ?_
    rintro e w3 ⟨he3, b3⟩
    have hf3 : e = .returned (.bool false) := he3.trans (congrArg (fun x => Ending.returned (.bool x)) hmo)
    subst hf3
    have S3 := Lib.hid (S2.out.grow OK.out b3)
    have A3 := Lib.hid (A2.out.grow b3)
    clear he3 b3 S2 A2
    go_wp2_with fail
    go_end0
    exact ⟨rfl, S3.out.less (by omega), _, A3.out⟩

  · obtain ⟨⟨v1, t1⟩, h1⟩ : ∃ r, fFlag F x_longkey s = r := ⟨_, rfl⟩
    obtain ⟨⟨v2, t2⟩, h2⟩ : ∃ r, fCounted F OpN.zero (fOp F) 16 x_ops t1 = r := ⟨_, rfl⟩
    have E : fMarks F C.ref C.key ⟨x_first, x_count, x_type, x_fnum, x_id, x_poc, x_spatial, x_act0, x_act1, x_mods0, x_mods1, x_log, x_logc, x_w0, x_w1, x_longkey, x_ops, x_qp, x_off, x_a, x_b⟩ s = ((⟨x_first, x_count, x_type, x_fnum, x_id, x_poc, x_spatial, x_act0, x_act1, x_mods0, x_mods1, x_log, x_logc, x_w0, x_w1, v1, v2, x_qp, x_off, x_a, x_b⟩ : HeadN), t2) := by
      simp only [fMarks, hmk, hmo, if_true, if_false, Bool.false_eq_true, h1, h2]
    rw [E]
    have H1 := Lib.hid h1
    have H2 := Lib.hid h2
    clear E h1 h2
    go_enter Tryz.func88, Tryz.ntmps88
    go_wp2_with (first | (refine wpList_load_mid rfl _ _ rfl C.kb 0 rfl [.int .i64 C.s.wide, .int .i64 C.s.high, .int .i64 C.s.fbits, .int .i64 C.s.ptype, .int .i64 C.s.pbits, .int .i64 C.s.nonref, .slice C.sa C.s.cycle.length C.scap, .int .i64 C.s.refs, .int .i64 C.s.delay, .bool C.p.cabac, .bool C.p.weighted, .int .i64 C.p.bipred, .int .i64 C.p.qp, .int .i64 C.p.chroma, .bool C.p.constrained, .bool C.p.deblock, .int .i64 C.p.act0, .int .i64 C.p.act1, .int .i64 C.ref, .bool C.key] _ (fun j v hv => S0.out.k.cell (0 + j) v (by rw [Nat.zero_add]; exact unit_at hv)) Tryz.underlying87 rfl (by kernel_rfl) ?_))
    refine (marksKey_any w0 C.s C.sa C.scap C.p C.ref C.key).mono ?_
    rintro e w1 ⟨he1, b1⟩
    have hf1 : e = .returned (.bool true) := he1.trans (congrArg (fun x => Ending.returned (.bool x)) hmk)
    subst hf1
    have S1 := Lib.hid (S0.out.grow OK.out b1)
    have A1 := Lib.hid (A0.out.grow b1)
    clear he1 b1 S0 A0
    go_wp2_with fail
    refine (OK.out.flag _ (n + 149) s hb 15 x_longkey (S1.out.less (by omega)) (A1.out.cell 15 _ rfl)).mono ?_
    rintro e w2 ⟨rfl, s2, p2⟩
    rw [H1.out] at s2 p2
    have S2 := Lib.hid s2
    have A2 := Lib.hid (A1.out.set p2 ⟨x_first, x_count, x_type, x_fnum, x_id, x_poc, x_spatial, x_act0, x_act1, x_mods0, x_mods1, x_log, x_logc, x_w0, x_w1, v1, x_ops, x_qp, x_off, x_a, x_b⟩ rfl rfl rfl rfl rfl rfl)
    clear s2 p2 H1 S1 A1
    go_wp2_with (first | (refine wpList_load_mid rfl _ _ rfl C.kb 0 rfl [.int .i64 C.s.wide, .int .i64 C.s.high, .int .i64 C.s.fbits, .int .i64 C.s.ptype, .int .i64 C.s.pbits, .int .i64 C.s.nonref, .slice C.sa C.s.cycle.length C.scap, .int .i64 C.s.refs, .int .i64 C.s.delay, .bool C.p.cabac, .bool C.p.weighted, .int .i64 C.p.bipred, .int .i64 C.p.qp, .int .i64 C.p.chroma, .bool C.p.constrained, .bool C.p.deblock, .int .i64 C.p.act0, .int .i64 C.p.act1, .int .i64 C.ref, .bool C.key] _ (fun j v hv => S2.out.k.cell (0 + j) v (by rw [Nat.zero_add]; exact unit_at hv)) Tryz.underlying87 rfl (by kernel_rfl) ?_))
    refine (marksOther_any w2 C.s C.sa C.scap C.p C.ref C.key).mono ?_
    rintro e w3 ⟨he3, b3⟩
    have hf3 : e = .returned (.bool true) := he3.trans (congrArg (fun x => Ending.returned (.bool x)) hmo)
    subst hf3
    have S3 := Lib.hid (S2.out.grow OK.out b3)
    have A3 := Lib.hid (A2.out.grow b3)
    clear he3 b3 S2 A2
    go_wp2_with fail
    refine (countedOp_any OK.out _ (n + 48) t1 hb 16 (headCells ⟨x_first, x_count, x_type, x_fnum, x_id, x_poc, x_spatial, x_act0, x_act1, x_mods0, x_mods1, x_log, x_logc, x_w0, x_w1, v1, x_ops, x_qp, x_off, x_a, x_b⟩ A) _ x_ops _ _ (S3.out.less (by omega)) A3.out.row ⟨by decide, by decide, by decide⟩ A3.out.ne rfl (A3.out.r4.re M_ops) M_ops L_ops).mono ?_
    rintro e w4 ⟨rfl, s4, p4⟩
    rw [H2.out] at s4 p4
    have S4 := Lib.hid s4
    obtain ⟨AD4, a4⟩ := A3.out.to_ops p4
    have A4 := Lib.hid (show At C W w4 hb ⟨x_first, x_count, x_type, x_fnum, x_id, x_poc, x_spatial, x_act0, x_act1, x_mods0, x_mods1, x_log, x_logc, x_w0, x_w1, v1, v2, x_qp, x_off, x_a, x_b⟩ AD4 from a4)
    clear s4 p4 a4 H2 S3 A3
    go_wp2_with fail
    go_end0
    exact ⟨rfl, S4.out.less (by omega), _, A4.out⟩

set_option maxRecDepth 100000 in
set_option maxHeartbeats 20000000 in
theorem edges_any (ok : WayOk C F fuel way) (W w : World) (n : Nat) (s : Ws σ) (hb : Nat) (h : HeadN) (A : Adr) (hst : St C fuel way (n + 50) w s) (hat : At C W w hb h A) :
    Calls Tryz.prog 89 #[.pointer (some ⟨C.kb, 0, none⟩), .pointer (some ⟨hb, 0, none⟩)] w fun e w' =>
      e = .returned (.tuple #[]) ∧ St C fuel way n w' (fEdges F h s).2 ∧ ∃ A', At C W w' hb (fEdges F h s).1 A' := by
  obtain ⟨x_first, x_count, x_type, x_fnum, x_id, x_poc, x_spatial, x_act0, x_act1, x_mods0, x_mods1, x_log, x_logc, x_w0, x_w1, x_longkey, x_ops, x_qp, x_off, x_a, x_b⟩ := h
  have OK := Lib.hid ok
  have S0 := Lib.hid hst
  have A0 := Lib.hid hat
  obtain ⟨w0, hw0⟩ : ∃ x, x = w := ⟨_, rfl⟩
  subst hw0
  clear ok hst hat

  obtain ⟨⟨v1, t1⟩, h1⟩ : ∃ r, fFlag F x_off s = r := ⟨_, rfl⟩
  cases v1
  · obtain ⟨⟨v2, t2⟩, h2⟩ : ∃ r, fSe F x_a t1 = r := ⟨_, rfl⟩
    obtain ⟨⟨v3, t3⟩, h3⟩ : ∃ r, fSe F x_b t2 = r := ⟨_, rfl⟩
    have E : fEdges F ⟨x_first, x_count, x_type, x_fnum, x_id, x_poc, x_spatial, x_act0, x_act1, x_mods0, x_mods1, x_log, x_logc, x_w0, x_w1, x_longkey, x_ops, x_qp, x_off, x_a, x_b⟩ s = ((⟨x_first, x_count, x_type, x_fnum, x_id, x_poc, x_spatial, x_act0, x_act1, x_mods0, x_mods1, x_log, x_logc, x_w0, x_w1, x_longkey, x_ops, x_qp, false, v2, v3⟩ : HeadN), t3) := by
      simp only [fEdges, Bool.not_false, Bool.not_true, if_true, if_false, Bool.false_eq_true, h1, h2, h3]
    rw [E]
    have H1 := Lib.hid h1
    have H2 := Lib.hid h2
    have H3 := Lib.hid h3
    clear E h1 h2 h3
    go_enter Tryz.func89, Tryz.ntmps89
    go_wp2_with fail
    refine (OK.out.flag _ (n + 49) s hb 18 x_off (S0.out.less (by omega)) (A0.out.cell 18 _ rfl)).mono ?_
    rintro e w1 ⟨rfl, s1, p1⟩
    rw [H1.out] at s1 p1
    have S1 := Lib.hid s1
    have A1 := Lib.hid (A0.out.set p1 ⟨x_first, x_count, x_type, x_fnum, x_id, x_poc, x_spatial, x_act0, x_act1, x_mods0, x_mods1, x_log, x_logc, x_w0, x_w1, x_longkey, x_ops, x_qp, false, x_a, x_b⟩ rfl rfl rfl rfl rfl rfl)
    clear s1 p1 H1 S0 A0
    have c18 : w1.cell? ⟨hb, 18, none⟩ = some (.bool false) := (A1.out.cell 18 _ rfl).cell
    go_wp2_with fail
    try clear c18
    refine (OK.out.se _ (n + 48) t1 hb 19 x_a (S1.out.less (by omega)) (A1.out.cell 19 _ rfl)).mono ?_
    rintro e w2 ⟨rfl, s2, p2⟩
    rw [H2.out] at s2 p2
    have S2 := Lib.hid s2
    have A2 := Lib.hid (A1.out.set p2 ⟨x_first, x_count, x_type, x_fnum, x_id, x_poc, x_spatial, x_act0, x_act1, x_mods0, x_mods1, x_log, x_logc, x_w0, x_w1, x_longkey, x_ops, x_qp, false, v2, x_b⟩ rfl rfl rfl rfl rfl rfl)
    clear s2 p2 H2 S1 A1
    go_wp2_with fail
    refine (OK.out.se _ (n + 47) t2 hb 20 x_b (S2.out.less (by omega)) (A2.out.cell 20 _ rfl)).mono ?_
    rintro e w3 ⟨rfl, s3, p3⟩
    rw [H3.out] at s3 p3
    have S3 := Lib.hid s3
    have A3 := Lib.hid (A2.out.set p3 ⟨x_first, x_count, x_type, x_fnum, x_id, x_poc, x_spatial, x_act0, x_act1, x_mods0, x_mods1, x_log, x_logc, x_w0, x_w1, x_longkey, x_ops, x_qp, false, v2, v3⟩ rfl rfl rfl rfl rfl rfl)
    clear s3 p3 H3 S2 A2
    go_wp2_with fail
    go_end0
    exact ⟨rfl, S3.out.less (by omega), _, A3.out⟩

  · have E : fEdges F ⟨x_first, x_count, x_type, x_fnum, x_id, x_poc, x_spatial, x_act0, x_act1, x_mods0, x_mods1, x_log, x_logc, x_w0, x_w1, x_longkey, x_ops, x_qp, x_off, x_a, x_b⟩ s = ((⟨x_first, x_count, x_type, x_fnum, x_id, x_poc, x_spatial, x_act0, x_act1, x_mods0, x_mods1, x_log, x_logc, x_w0, x_w1, x_longkey, x_ops, x_qp, true, x_a, x_b⟩ : HeadN), t1) := by
      simp only [fEdges, Bool.not_false, Bool.not_true, if_true, if_false, Bool.false_eq_true, h1]
    rw [E]
    have H1 := Lib.hid h1
    clear E h1
    go_enter Tryz.func89, Tryz.ntmps89
    go_wp2_with fail
    refine (OK.out.flag _ (n + 49) s hb 18 x_off (S0.out.less (by omega)) (A0.out.cell 18 _ rfl)).mono ?_
    rintro e w1 ⟨rfl, s1, p1⟩
    rw [H1.out] at s1 p1
    have S1 := Lib.hid s1
    have A1 := Lib.hid (A0.out.set p1 ⟨x_first, x_count, x_type, x_fnum, x_id, x_poc, x_spatial, x_act0, x_act1, x_mods0, x_mods1, x_log, x_logc, x_w0, x_w1, x_longkey, x_ops, x_qp, true, x_a, x_b⟩ rfl rfl rfl rfl rfl rfl)
    clear s1 p1 H1 S0 A0
    have c18 : w1.cell? ⟨hb, 18, none⟩ = some (.bool true) := (A1.out.cell 18 _ rfl).cell
    go_wp2_with fail
    try clear c18
    go_end0
    exact ⟨rfl, S1.out.less (by omega), _, A1.out⟩

end
end Go.Proofs.YthcbgijmnonckaaGreat
