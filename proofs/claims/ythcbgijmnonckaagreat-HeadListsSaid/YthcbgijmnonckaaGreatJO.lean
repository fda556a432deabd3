/- Layer 4: the walk, whichever way: a whole header. -/
import Derived.Test.YthcbgijmnonckaaGreatJLb
import Derived.Test.YthcbgijmnonckaaGreatJL
import Derived.Test.YthcbgijmnonckaaGreatJS
namespace Go.Proofs.YthcbgijmnonckaaGreat
open Go.RowKit Zo Zp
set_option linter.unusedVariables false
set_option linter.unusedSimpArgs false

section
variable {σ : Type} {C : Ctx} {F : WayFns σ} {fuel : σ → Nat} {way : World → σ → Prop}

set_option maxRecDepth 100000 in
set_option maxHeartbeats 20000000 in
theorem head_any (ok : WayOk C F fuel way) (W w : World) (n : Nat) (s : Ws σ) (hb : Nat) (h : HeadN) (A : Adr) (hst : St C fuel way (n + 1000) w s) (hat : At C W w hb h A) (hin : HeadIn C h) (hs : (0 ≤ C.s.fbits ∧ C.s.fbits ≤ 32) ∧ 0 ≤ C.s.pbits ∧ C.s.pbits ≤ 32) :
    Calls Tryz.prog 41 #[.pointer (some ⟨C.kb, 0, none⟩), .pointer (some ⟨hb, 0, none⟩)] w fun e w' =>
      e = .returned (.tuple #[]) ∧ St C fuel way n w' (fHead F C.s C.p C.ref C.key h s).2 ∧ ∃ A', At C W w' hb (fHead F C.s C.p C.ref C.key h s).1 A' := by
  obtain ⟨x_first, x_count, x_type, x_fnum, x_id, x_poc, x_spatial, x_act0, x_act1, x_mods0, x_mods1, x_log, x_logc, x_w0, x_w1, x_longkey, x_ops, x_qp, x_off, x_a, x_b⟩ := h
  have OK := Lib.hid ok
  have S0 := Lib.hid hst
  have A0 := Lib.hid hat
  obtain ⟨w0, hw0⟩ : ∃ x, x = w := ⟨_, rfl⟩
  subst hw0
  have IN := Lib.hid hin
  have hfb := hs.1
  have hpb := hs.2
  clear hin hs
  obtain ⟨⟨v1, t1⟩, h1⟩ : ∃ r, fUe F x_first 0 s = r := ⟨_, rfl⟩
  obtain ⟨⟨v2, t2⟩, h2⟩ : ∃ r, fUe F x_count 1 t1 = r := ⟨_, rfl⟩
  obtain ⟨⟨v3, t3⟩, h3⟩ : ∃ r, fUe F x_type 0 t2 = r := ⟨_, rfl⟩
  obtain ⟨t4, h4⟩ : ∃ r, fAsk (decide (v3 ≤ 2)) t3 = r := ⟨_, rfl⟩
  obtain ⟨⟨v5, t5⟩, h5⟩ : ∃ r, fPlain F x_fnum C.s.fbits t4 = r := ⟨_, rfl⟩
  obtain ⟨⟨v6, t6⟩, h6⟩ : ∃ r, (if C.key = true then fUe F x_id 0 t5 else (x_id, t5)) = r := ⟨_, rfl⟩
  obtain ⟨⟨v7, t7⟩, h7⟩ : ∃ r, (if (C.s.ptype == 0) = true then fPlain F x_poc C.s.pbits t6 else (x_poc, t6)) = r := ⟨_, rfl⟩
  obtain ⟨sp, a0, a1, n0, n1, t8, h8, hb8, hc8⟩ := lists_shape ok ⟨v1, v2, v3, v5, v6, v7, x_spatial, x_act0, x_act1, x_mods0, x_mods1, x_log, x_logc, x_w0, x_w1, x_longkey, x_ops, x_qp, x_off, x_a, x_b⟩ t7
  have h9 : ∃ (lg lc : Int) (q0 q1 : List WeightN) (t : Ws σ), (if weighsN v3 C.p = true then fWeights F ⟨v1, v2, v3, v5, v6, v7, sp, a0, a1, n0, n1, x_log, x_logc, x_w0, x_w1, x_longkey, x_ops, x_qp, x_off, x_a, x_b⟩ t8 else (⟨v1, v2, v3, v5, v6, v7, sp, a0, a1, n0, n1, x_log, x_logc, x_w0, x_w1, x_longkey, x_ops, x_qp, x_off, x_a, x_b⟩, t8)) = (⟨v1, v2, v3, v5, v6, v7, sp, a0, a1, n0, n1, lg, lc, q0, q1, x_longkey, x_ops, x_qp, x_off, x_a, x_b⟩, t) := by
    split
    · exact weights_shape _ _
    · exact ⟨_, _, _, _, _, rfl⟩
  obtain ⟨lg, lc, q0, q1, t9, h9⟩ := h9
  obtain ⟨lk, os, t10, h10⟩ := marks_shape (F := F) C.ref C.key ⟨v1, v2, v3, v5, v6, v7, sp, a0, a1, n0, n1, lg, lc, q0, q1, x_longkey, x_ops, x_qp, x_off, x_a, x_b⟩ t9
  obtain ⟨⟨v11, t11⟩, h11⟩ : ∃ r, fUe F x_qp 0 t10 = r := ⟨_, rfl⟩
  have h12 : ∃ (fo : Bool) (ea eb : Int) (t : Ws σ), (if C.p.deblock = true then fEdges F ⟨v1, v2, v3, v5, v6, v7, sp, a0, a1, n0, n1, lg, lc, q0, q1, lk, os, v11, x_off, x_a, x_b⟩ t11 else (⟨v1, v2, v3, v5, v6, v7, sp, a0, a1, n0, n1, lg, lc, q0, q1, lk, os, v11, x_off, x_a, x_b⟩, t11)) = (⟨v1, v2, v3, v5, v6, v7, sp, a0, a1, n0, n1, lg, lc, q0, q1, lk, os, v11, fo, ea, eb⟩, t) := by
    split
    · exact edges_shape _ _
    · exact ⟨_, _, _, _, rfl⟩
  obtain ⟨fo, ea, eb, t12, h12⟩ := h12
  have E : fHead F C.s C.p C.ref C.key ⟨x_first, x_count, x_type, x_fnum, x_id, x_poc, x_spatial, x_act0, x_act1, x_mods0, x_mods1, x_log, x_logc, x_w0, x_w1, x_longkey, x_ops, x_qp, x_off, x_a, x_b⟩ s = ((⟨v1, v2, v3, v5, v6, v7, sp, a0, a1, n0, n1, lg, lc, q0, q1, lk, os, v11, fo, ea, eb⟩ : HeadN), t12) := by
    simp only [fHead, fBegin, fEnd, h1, h2, h3, h4, h5, h6, h7]
    rw [h8]
    simp only
    rw [h9]
    simp only
    rw [h10]
    simp only [h11]
    exact h12
  rw [E]
  have hty : C.moves = false → v3 = x_type := fun hm => by have := fUe_calm ok hm x_type 0 t2; rw [h3] at this; exact this
  have hK0 : C.moves = false → weighsN v3 C.p = true → a0 ≤ x_w0.length ∧ a1 ≤ x_w1.length := fun hm hw => by rw [hty hm] at hw; rw [(hc8 hm).1, (hc8 hm).2]; exact IN.out.kw hm hw
  have HB8 := Lib.hid hb8
  have HK0 := Lib.hid hK0
  obtain ⟨ky, hky⟩ : ∃ b, C.key = b := ⟨_, rfl⟩
  obtain ⟨pt, hpt⟩ : ∃ b, (C.s.ptype == 0) = b := ⟨_, rfl⟩
  obtain ⟨wg, hwg⟩ : ∃ b, weighsN v3 C.p = b := ⟨_, rfl⟩
  obtain ⟨db, hdb⟩ : ∃ b, C.p.deblock = b := ⟨_, rfl⟩
  rw [hky] at h6
  rw [hpt] at h7
  rw [hwg] at h9
  rw [hdb] at h12
  have HKY := Lib.hid hky
  have HPT := Lib.hid hpt
  have HWG := Lib.hid hwg
  have HDB := Lib.hid hdb
  have H1 := Lib.hid h1
  have H2 := Lib.hid h2
  have H3 := Lib.hid h3
  have H4 := Lib.hid h4
  have H5 := Lib.hid h5
  have H6 := Lib.hid h6
  have H7 := Lib.hid h7
  have H8 := Lib.hid h8
  have H9 := Lib.hid h9
  have H10 := Lib.hid h10
  have H11 := Lib.hid h11
  have H12 := Lib.hid h12
  clear ok hst hat E hb8 hc8 hty hK0 hky hpt hwg hdb h1 h2 h3 h4 h5 h6 h7 h8 h9 h10 h11 h12
  go_enter Tryz.func41, Tryz.ntmps41
  go_wp2_with fail
  refine (OK.out.ue _ (n + 999) s hb 0 x_first 0 (S0.out.less (by omega)) (A0.out.cell 0 _ rfl) (by omega) (by omega)).mono ?_
  rintro e w1 ⟨rfl, s1, p1⟩
  rw [show fUe F x_first 0 s = (v1, t1) from H1.out] at s1 p1
  have S1 := Lib.hid s1
  have A1 := Lib.hid (A0.out.set p1 ⟨v1, x_count, x_type, x_fnum, x_id, x_poc, x_spatial, x_act0, x_act1, x_mods0, x_mods1, x_log, x_logc, x_w0, x_w1, x_longkey, x_ops, x_qp, x_off, x_a, x_b⟩ rfl rfl rfl rfl rfl rfl)
  clear s1 p1 H1 S0 A0
  go_wp2_with fail
  refine (OK.out.ue _ (n + 998) t1 hb 1 x_count 1 (S1.out.less (by omega)) (A1.out.cell 1 _ rfl) (by omega) (by omega)).mono ?_
  rintro e w2 ⟨rfl, s2, p2⟩
  rw [show fUe F x_count 1 t1 = (v2, t2) from H2.out] at s2 p2
  have S2 := Lib.hid s2
  have A2 := Lib.hid (A1.out.set p2 ⟨v1, v2, x_type, x_fnum, x_id, x_poc, x_spatial, x_act0, x_act1, x_mods0, x_mods1, x_log, x_logc, x_w0, x_w1, x_longkey, x_ops, x_qp, x_off, x_a, x_b⟩ rfl rfl rfl rfl rfl rfl)
  clear s2 p2 H2 S1 A1
  go_wp2_with fail
  refine (OK.out.ue _ (n + 997) t2 hb 2 x_type 0 (S2.out.less (by omega)) (A2.out.cell 2 _ rfl) (by omega) (by omega)).mono ?_
  rintro e w3 ⟨rfl, s3, p3⟩
  rw [show fUe F x_type 0 t2 = (v3, t3) from H3.out] at s3 p3
  have S3 := Lib.hid s3
  have A3 := Lib.hid (A2.out.set p3 ⟨v1, v2, v3, x_fnum, x_id, x_poc, x_spatial, x_act0, x_act1, x_mods0, x_mods1, x_log, x_logc, x_w0, x_w1, x_longkey, x_ops, x_qp, x_off, x_a, x_b⟩ rfl rfl rfl rfl rfl rfl)
  clear s3 p3 H3 S2 A2
  have c2 : w3.cell? ⟨hb, 2, none⟩ = some (.int .i64 v3) := (A3.out.cell 2 _ rfl).cell
  go_wp2_with fail
  try clear c2
  refine (ask_any OK.out _ (n + 997) t3 (decide (v3 ≤ 2)) S3.out).mono ?_
  rintro e w4 ⟨rfl, s4, f4⟩
  rw [show fAsk (decide (v3 ≤ 2)) t3 = t4 from H4.out] at s4
  have S4 := Lib.hid s4
  have A4 := Lib.hid (A3.out.stay f4)
  clear s4 f4 H4 S3 A3
  have c5 : w4.cell? ⟨C.kb, 2, none⟩ = some (.int .i64 C.s.fbits) := S4.out.k.cell 2 _ rfl
  have PI := Lib.hid (fun k => OK.out.plain (w4.drewN k) (n + 996) t4 hb 3 x_fnum C.s.fbits ((S4.out.drewN OK.out k).less (by omega)) ((A4.out.drewN k).cell 3 _ rfl) hfb.1 hfb.2)
  go_wp2_with fail
  go_region_with ((go_at_call 84; refine (PI.out 1).mono ?_; rintro e w5 ⟨rfl, s5, p5⟩))
  all_goals
    rw [show fPlain F x_fnum C.s.fbits t4 = (v5, t5) from H5.out] at s5 p5
    have S5 := Lib.hid s5
    have A5 := Lib.hid ((A4.out.drewN 1).set p5 ⟨v1, v2, v3, v5, x_id, x_poc, x_spatial, x_act0, x_act1, x_mods0, x_mods1, x_log, x_logc, x_w0, x_w1, x_longkey, x_ops, x_qp, x_off, x_a, x_b⟩ rfl rfl rfl rfl rfl rfl)
    clear s5 p5 H5 S4 A4 PI c5
    cases ky
    · have c19 : w5.cell? ⟨C.kb, 19, none⟩ = some (.bool false) := by
        have := S5.out.k.cell 19 _ rfl
        exact this.trans (congrArg some (congrArg Value.bool HKY.out))
      obtain ⟨rfl, rfl⟩ : x_id = v6 ∧ t5 = t6 := by have := H6.out; simpa using this
      clear H6
      cases pt
      · have cb3 : (C.s.ptype == 0) = false := HPT.out
        have c3 : w5.cell? ⟨C.kb, 3, none⟩ = some (.int .i64 C.s.ptype) := S5.out.k.cell 3 _ rfl
        obtain ⟨rfl, rfl⟩ : x_poc = v7 ∧ t5 = t7 := by have := H7.out; simpa using this
        clear H7
        go_wp2_with fail
        refine (lists_any OK.out W w5 (n + 596) t5 hb ⟨v1, v2, v3, v5, x_id, x_poc, x_spatial, x_act0, x_act1, x_mods0, x_mods1, x_log, x_logc, x_w0, x_w1, x_longkey, x_ops, x_qp, x_off, x_a, x_b⟩ A (S5.out.less (by omega)) A5.out IN.out.m0 IN.out.m1 IN.out.l0 IN.out.l1).mono ?_
        rintro e w6 ⟨rfl, s6, AD6, a6⟩
        rw [show fLists F ⟨v1, v2, v3, v5, x_id, x_poc, x_spatial, x_act0, x_act1, x_mods0, x_mods1, x_log, x_logc, x_w0, x_w1, x_longkey, x_ops, x_qp, x_off, x_a, x_b⟩ t5 = ((⟨v1, v2, v3, v5, x_id, x_poc, sp, a0, a1, n0, n1, x_log, x_logc, x_w0, x_w1, x_longkey, x_ops, x_qp, x_off, x_a, x_b⟩ : HeadN), t8) from H8.out] at s6 a6
        have S6 := Lib.hid s6
        have A6 := Lib.hid a6
        clear s6 a6 S5 A5
        go_wp2_with fail
        refine weighs_reg hb C t8.c ⟨v1, v2, v3, v5, x_id, x_poc, sp, a0, a1, n0, n1, x_log, x_logc, x_w0, x_w1, x_longkey, x_ops, x_qp, x_off, x_a, x_b⟩ AD6 S6.out.k.row A6.out.row rfl rfl rfl (fun w7 b7 => ?_)
        have hwg := HWG.out
        simp only [Act.put, List.setIfInBounds_toArray, List.set_cons_zero, List.set_cons_succ, hwg]
        clear hwg
        cases wg
        · have S7 := Lib.hid (S6.out.grow OK.out b7)
          have A7 := Lib.hid (A6.out.grow b7)
          clear b7 S6 A6
          obtain ⟨⟨rfl, rfl, rfl, rfl⟩, rfl⟩ : (x_log = lg ∧ x_logc = lc ∧ x_w0 = q0 ∧ x_w1 = q1) ∧ t8 = t9 := by have := H9.out; simpa using this
          clear H9
          go_wp2_with fail
          refine (marks_any OK.out W w7 (n + 446) t8 hb ⟨v1, v2, v3, v5, x_id, x_poc, sp, a0, a1, n0, n1, x_log, x_logc, x_w0, x_w1, x_longkey, x_ops, x_qp, x_off, x_a, x_b⟩ AD6 (S7.out.less (by omega)) A7.out IN.out.m4 IN.out.l4).mono ?_
          rintro e w8 ⟨rfl, s8, AD8, a8⟩
          rw [show fMarks F C.ref C.key ⟨v1, v2, v3, v5, x_id, x_poc, sp, a0, a1, n0, n1, x_log, x_logc, x_w0, x_w1, x_longkey, x_ops, x_qp, x_off, x_a, x_b⟩ t8 = ((⟨v1, v2, v3, v5, x_id, x_poc, sp, a0, a1, n0, n1, x_log, x_logc, x_w0, x_w1, lk, os, x_qp, x_off, x_a, x_b⟩ : HeadN), t10) from H10.out] at s8 a8
          have S8 := Lib.hid s8
          have A8 := Lib.hid a8
          clear s8 a8 S7 A7
          go_wp2_with fail
          refine (OK.out.ue _ (n + 445) t10 hb 17 x_qp 0 (S8.out.less (by omega)) (A8.out.cell 17 _ rfl) (by omega) (by omega)).mono ?_
          rintro e w9 ⟨rfl, s9, p9⟩
          rw [show fUe F x_qp 0 t10 = (v11, t11) from H11.out] at s9 p9
          have S9 := Lib.hid s9
          have A9 := Lib.hid (A8.out.set p9 ⟨v1, v2, v3, v5, x_id, x_poc, sp, a0, a1, n0, n1, x_log, x_logc, x_w0, x_w1, lk, os, v11, x_off, x_a, x_b⟩ rfl rfl rfl rfl rfl rfl)
          clear s9 p9 H11 S8 A8
          cases db
          · have c15 : w9.cell? ⟨C.kb, 15, none⟩ = some (.bool false) := by
              have := S9.out.k.cell 15 _ rfl
              exact this.trans (congrArg some (congrArg Value.bool HDB.out))
            obtain ⟨⟨rfl, rfl, rfl⟩, rfl⟩ : (x_off = fo ∧ x_a = ea ∧ x_b = eb) ∧ t11 = t12 := by have := H12.out; simpa using this
            clear H12
            go_wp2_with fail
            go_end0
            exact ⟨rfl, S9.out.less (by omega), _, A9.out⟩
          · have c15 : w9.cell? ⟨C.kb, 15, none⟩ = some (.bool true) := by
              have := S9.out.k.cell 15 _ rfl
              exact this.trans (congrArg some (congrArg Value.bool HDB.out))
            go_wp2_with fail
            refine (edges_any OK.out W w9 (n + 395) t11 hb ⟨v1, v2, v3, v5, x_id, x_poc, sp, a0, a1, n0, n1, x_log, x_logc, x_w0, x_w1, lk, os, v11, x_off, x_a, x_b⟩ AD8 (S9.out.less (by omega)) A9.out).mono ?_
            rintro e w10 ⟨rfl, s10, AD10, a10⟩
            rw [show fEdges F ⟨v1, v2, v3, v5, x_id, x_poc, sp, a0, a1, n0, n1, x_log, x_logc, x_w0, x_w1, lk, os, v11, x_off, x_a, x_b⟩ t11 = ((⟨v1, v2, v3, v5, x_id, x_poc, sp, a0, a1, n0, n1, x_log, x_logc, x_w0, x_w1, lk, os, v11, fo, ea, eb⟩ : HeadN), t12) from H12.out] at s10 a10
            have S10 := Lib.hid s10
            have A10 := Lib.hid a10
            clear s10 a10 S9 A9
            go_wp2_with fail
            go_end0
            exact ⟨rfl, S10.out.less (by omega), _, A10.out⟩
        · have S7 := Lib.hid (S6.out.grow OK.out b7)
          have A7 := Lib.hid (A6.out.grow b7)
          clear b7 S6 A6
          go_wp2_with fail
          refine (weights_any OK.out W w7 (n + 296) t8 hb ⟨v1, v2, v3, v5, x_id, x_poc, sp, a0, a1, n0, n1, x_log, x_logc, x_w0, x_w1, x_longkey, x_ops, x_qp, x_off, x_a, x_b⟩ AD6 (S7.out.less (by omega)) A7.out IN.out.m2 IN.out.m3 IN.out.l2 IN.out.l3 (fun e => (HB8.out e).1) (fun e => (HB8.out e).2) (fun hm => (HK0.out hm HWG.out).1) (fun hm => (HK0.out hm HWG.out).2)).mono ?_
          rintro e w8 ⟨rfl, s8, AD8, a8⟩
          rw [show fWeights F ⟨v1, v2, v3, v5, x_id, x_poc, sp, a0, a1, n0, n1, x_log, x_logc, x_w0, x_w1, x_longkey, x_ops, x_qp, x_off, x_a, x_b⟩ t8 = ((⟨v1, v2, v3, v5, x_id, x_poc, sp, a0, a1, n0, n1, lg, lc, q0, q1, x_longkey, x_ops, x_qp, x_off, x_a, x_b⟩ : HeadN), t9) from H9.out] at s8 a8
          have S8 := Lib.hid s8
          have A8 := Lib.hid a8
          clear s8 a8 S7 A7
          go_wp2_with fail
          refine (marks_any OK.out W w8 (n + 146) t9 hb ⟨v1, v2, v3, v5, x_id, x_poc, sp, a0, a1, n0, n1, lg, lc, q0, q1, x_longkey, x_ops, x_qp, x_off, x_a, x_b⟩ AD8 (S8.out.less (by omega)) A8.out IN.out.m4 IN.out.l4).mono ?_
          rintro e w9 ⟨rfl, s9, AD9, a9⟩
          rw [show fMarks F C.ref C.key ⟨v1, v2, v3, v5, x_id, x_poc, sp, a0, a1, n0, n1, lg, lc, q0, q1, x_longkey, x_ops, x_qp, x_off, x_a, x_b⟩ t9 = ((⟨v1, v2, v3, v5, x_id, x_poc, sp, a0, a1, n0, n1, lg, lc, q0, q1, lk, os, x_qp, x_off, x_a, x_b⟩ : HeadN), t10) from H10.out] at s9 a9
          have S9 := Lib.hid s9
          have A9 := Lib.hid a9
          clear s9 a9 S8 A8
          go_wp2_with fail
          refine (OK.out.ue _ (n + 145) t10 hb 17 x_qp 0 (S9.out.less (by omega)) (A9.out.cell 17 _ rfl) (by omega) (by omega)).mono ?_
          rintro e w10 ⟨rfl, s10, p10⟩
          rw [show fUe F x_qp 0 t10 = (v11, t11) from H11.out] at s10 p10
          have S10 := Lib.hid s10
          have A10 := Lib.hid (A9.out.set p10 ⟨v1, v2, v3, v5, x_id, x_poc, sp, a0, a1, n0, n1, lg, lc, q0, q1, lk, os, v11, x_off, x_a, x_b⟩ rfl rfl rfl rfl rfl rfl)
          clear s10 p10 H11 S9 A9
          cases db
          · have c15 : w10.cell? ⟨C.kb, 15, none⟩ = some (.bool false) := by
              have := S10.out.k.cell 15 _ rfl
              exact this.trans (congrArg some (congrArg Value.bool HDB.out))
            obtain ⟨⟨rfl, rfl, rfl⟩, rfl⟩ : (x_off = fo ∧ x_a = ea ∧ x_b = eb) ∧ t11 = t12 := by have := H12.out; simpa using this
            clear H12
            go_wp2_with fail
            go_end0
            exact ⟨rfl, S10.out.less (by omega), _, A10.out⟩
          · have c15 : w10.cell? ⟨C.kb, 15, none⟩ = some (.bool true) := by
              have := S10.out.k.cell 15 _ rfl
              exact this.trans (congrArg some (congrArg Value.bool HDB.out))
            go_wp2_with fail
            refine (edges_any OK.out W w10 (n + 95) t11 hb ⟨v1, v2, v3, v5, x_id, x_poc, sp, a0, a1, n0, n1, lg, lc, q0, q1, lk, os, v11, x_off, x_a, x_b⟩ AD9 (S10.out.less (by omega)) A10.out).mono ?_
            rintro e w11 ⟨rfl, s11, AD11, a11⟩
            rw [show fEdges F ⟨v1, v2, v3, v5, x_id, x_poc, sp, a0, a1, n0, n1, lg, lc, q0, q1, lk, os, v11, x_off, x_a, x_b⟩ t11 = ((⟨v1, v2, v3, v5, x_id, x_poc, sp, a0, a1, n0, n1, lg, lc, q0, q1, lk, os, v11, fo, ea, eb⟩ : HeadN), t12) from H12.out] at s11 a11
            have S11 := Lib.hid s11
            have A11 := Lib.hid a11
            clear s11 a11 S10 A10
            go_wp2_with fail
            go_end0
            exact ⟨rfl, S11.out.less (by omega), _, A11.out⟩
      · have c3 : w5.cell? ⟨C.kb, 3, none⟩ = some (.int .i64 0) := by
          have := S5.out.k.cell 3 _ rfl
          exact this.trans (congrArg some (congrArg (Value.int .i64) (by have := HPT.out; simpa using this)))
        have c6 : w5.cell? ⟨C.kb, 4, none⟩ = some (.int .i64 C.s.pbits) := S5.out.k.cell 4 _ rfl
        have PI := Lib.hid (fun k => OK.out.plain (w5.drewN k) (n + 995) t5 hb 5 x_poc C.s.pbits ((S5.out.drewN OK.out k).less (by omega)) ((A5.out.drewN k).cell 5 _ rfl) hpb.1 hpb.2)
        go_wp2_with fail
        go_region_with ((go_at_call 84; refine (PI.out 1).mono ?_; rintro e w6 ⟨rfl, s6, p6⟩))
        all_goals
          rw [show fPlain F x_poc C.s.pbits t5 = (v7, t7) from H7.out] at s6 p6
          have S6 := Lib.hid s6
          have A6 := Lib.hid ((A5.out.drewN 1).set p6 ⟨v1, v2, v3, v5, x_id, v7, x_spatial, x_act0, x_act1, x_mods0, x_mods1, x_log, x_logc, x_w0, x_w1, x_longkey, x_ops, x_qp, x_off, x_a, x_b⟩ rfl rfl rfl rfl rfl rfl)
          clear s6 p6 H7 S5 A5 PI c6
          go_wp2_with fail
          refine (lists_any OK.out W w6 (n + 595) t7 hb ⟨v1, v2, v3, v5, x_id, v7, x_spatial, x_act0, x_act1, x_mods0, x_mods1, x_log, x_logc, x_w0, x_w1, x_longkey, x_ops, x_qp, x_off, x_a, x_b⟩ A (S6.out.less (by omega)) A6.out IN.out.m0 IN.out.m1 IN.out.l0 IN.out.l1).mono ?_
          rintro e w7 ⟨rfl, s7, AD7, a7⟩
          rw [show fLists F ⟨v1, v2, v3, v5, x_id, v7, x_spatial, x_act0, x_act1, x_mods0, x_mods1, x_log, x_logc, x_w0, x_w1, x_longkey, x_ops, x_qp, x_off, x_a, x_b⟩ t7 = ((⟨v1, v2, v3, v5, x_id, v7, sp, a0, a1, n0, n1, x_log, x_logc, x_w0, x_w1, x_longkey, x_ops, x_qp, x_off, x_a, x_b⟩ : HeadN), t8) from H8.out] at s7 a7
          have S7 := Lib.hid s7
          have A7 := Lib.hid a7
          clear s7 a7 S6 A6
          go_wp2_with fail
          refine weighs_reg hb C t8.c ⟨v1, v2, v3, v5, x_id, v7, sp, a0, a1, n0, n1, x_log, x_logc, x_w0, x_w1, x_longkey, x_ops, x_qp, x_off, x_a, x_b⟩ AD7 S7.out.k.row A7.out.row rfl rfl rfl (fun w8 b8 => ?_)
          have hwg := HWG.out
          simp only [Act.put, List.setIfInBounds_toArray, List.set_cons_zero, List.set_cons_succ, hwg]
          clear hwg
          cases wg
          · have S8 := Lib.hid (S7.out.grow OK.out b8)
            have A8 := Lib.hid (A7.out.grow b8)
            clear b8 S7 A7
            obtain ⟨⟨rfl, rfl, rfl, rfl⟩, rfl⟩ : (x_log = lg ∧ x_logc = lc ∧ x_w0 = q0 ∧ x_w1 = q1) ∧ t8 = t9 := by have := H9.out; simpa using this
            clear H9
            go_wp2_with fail
            refine (marks_any OK.out W w8 (n + 445) t8 hb ⟨v1, v2, v3, v5, x_id, v7, sp, a0, a1, n0, n1, x_log, x_logc, x_w0, x_w1, x_longkey, x_ops, x_qp, x_off, x_a, x_b⟩ AD7 (S8.out.less (by omega)) A8.out IN.out.m4 IN.out.l4).mono ?_
            rintro e w9 ⟨rfl, s9, AD9, a9⟩
            rw [show fMarks F C.ref C.key ⟨v1, v2, v3, v5, x_id, v7, sp, a0, a1, n0, n1, x_log, x_logc, x_w0, x_w1, x_longkey, x_ops, x_qp, x_off, x_a, x_b⟩ t8 = ((⟨v1, v2, v3, v5, x_id, v7, sp, a0, a1, n0, n1, x_log, x_logc, x_w0, x_w1, lk, os, x_qp, x_off, x_a, x_b⟩ : HeadN), t10) from H10.out] at s9 a9
            have S9 := Lib.hid s9
            have A9 := Lib.hid a9
            clear s9 a9 S8 A8
            go_wp2_with fail
            refine (OK.out.ue _ (n + 444) t10 hb 17 x_qp 0 (S9.out.less (by omega)) (A9.out.cell 17 _ rfl) (by omega) (by omega)).mono ?_
            rintro e w10 ⟨rfl, s10, p10⟩
            rw [show fUe F x_qp 0 t10 = (v11, t11) from H11.out] at s10 p10
            have S10 := Lib.hid s10
            have A10 := Lib.hid (A9.out.set p10 ⟨v1, v2, v3, v5, x_id, v7, sp, a0, a1, n0, n1, x_log, x_logc, x_w0, x_w1, lk, os, v11, x_off, x_a, x_b⟩ rfl rfl rfl rfl rfl rfl)
            clear s10 p10 H11 S9 A9
            cases db
            · have c15 : w10.cell? ⟨C.kb, 15, none⟩ = some (.bool false) := by
                have := S10.out.k.cell 15 _ rfl
                exact this.trans (congrArg some (congrArg Value.bool HDB.out))
              obtain ⟨⟨rfl, rfl, rfl⟩, rfl⟩ : (x_off = fo ∧ x_a = ea ∧ x_b = eb) ∧ t11 = t12 := by have := H12.out; simpa using this
              clear H12
              go_wp2_with fail
              go_end0
              exact ⟨rfl, S10.out.less (by omega), _, A10.out⟩
            · have c15 : w10.cell? ⟨C.kb, 15, none⟩ = some (.bool true) := by
                have := S10.out.k.cell 15 _ rfl
                exact this.trans (congrArg some (congrArg Value.bool HDB.out))
              go_wp2_with fail
              refine (edges_any OK.out W w10 (n + 394) t11 hb ⟨v1, v2, v3, v5, x_id, v7, sp, a0, a1, n0, n1, x_log, x_logc, x_w0, x_w1, lk, os, v11, x_off, x_a, x_b⟩ AD9 (S10.out.less (by omega)) A10.out).mono ?_
              rintro e w11 ⟨rfl, s11, AD11, a11⟩
              rw [show fEdges F ⟨v1, v2, v3, v5, x_id, v7, sp, a0, a1, n0, n1, x_log, x_logc, x_w0, x_w1, lk, os, v11, x_off, x_a, x_b⟩ t11 = ((⟨v1, v2, v3, v5, x_id, v7, sp, a0, a1, n0, n1, x_log, x_logc, x_w0, x_w1, lk, os, v11, fo, ea, eb⟩ : HeadN), t12) from H12.out] at s11 a11
              have S11 := Lib.hid s11
              have A11 := Lib.hid a11
              clear s11 a11 S10 A10
              go_wp2_with fail
              go_end0
              exact ⟨rfl, S11.out.less (by omega), _, A11.out⟩
          · have S8 := Lib.hid (S7.out.grow OK.out b8)
            have A8 := Lib.hid (A7.out.grow b8)
            clear b8 S7 A7
            go_wp2_with fail
            refine (weights_any OK.out W w8 (n + 295) t8 hb ⟨v1, v2, v3, v5, x_id, v7, sp, a0, a1, n0, n1, x_log, x_logc, x_w0, x_w1, x_longkey, x_ops, x_qp, x_off, x_a, x_b⟩ AD7 (S8.out.less (by omega)) A8.out IN.out.m2 IN.out.m3 IN.out.l2 IN.out.l3 (fun e => (HB8.out e).1) (fun e => (HB8.out e).2) (fun hm => (HK0.out hm HWG.out).1) (fun hm => (HK0.out hm HWG.out).2)).mono ?_
            rintro e w9 ⟨rfl, s9, AD9, a9⟩
            rw [show fWeights F ⟨v1, v2, v3, v5, x_id, v7, sp, a0, a1, n0, n1, x_log, x_logc, x_w0, x_w1, x_longkey, x_ops, x_qp, x_off, x_a, x_b⟩ t8 = ((⟨v1, v2, v3, v5, x_id, v7, sp, a0, a1, n0, n1, lg, lc, q0, q1, x_longkey, x_ops, x_qp, x_off, x_a, x_b⟩ : HeadN), t9) from H9.out] at s9 a9
            have S9 := Lib.hid s9
            have A9 := Lib.hid a9
            clear s9 a9 S8 A8
            go_wp2_with fail
            refine (marks_any OK.out W w9 (n + 145) t9 hb ⟨v1, v2, v3, v5, x_id, v7, sp, a0, a1, n0, n1, lg, lc, q0, q1, x_longkey, x_ops, x_qp, x_off, x_a, x_b⟩ AD9 (S9.out.less (by omega)) A9.out IN.out.m4 IN.out.l4).mono ?_
            rintro e w10 ⟨rfl, s10, AD10, a10⟩
            rw [show fMarks F C.ref C.key ⟨v1, v2, v3, v5, x_id, v7, sp, a0, a1, n0, n1, lg, lc, q0, q1, x_longkey, x_ops, x_qp, x_off, x_a, x_b⟩ t9 = ((⟨v1, v2, v3, v5, x_id, v7, sp, a0, a1, n0, n1, lg, lc, q0, q1, lk, os, x_qp, x_off, x_a, x_b⟩ : HeadN), t10) from H10.out] at s10 a10
            have S10 := Lib.hid s10
            have A10 := Lib.hid a10
            clear s10 a10 S9 A9
            go_wp2_with fail
            refine (OK.out.ue _ (n + 144) t10 hb 17 x_qp 0 (S10.out.less (by omega)) (A10.out.cell 17 _ rfl) (by omega) (by omega)).mono ?_
            rintro e w11 ⟨rfl, s11, p11⟩
            rw [show fUe F x_qp 0 t10 = (v11, t11) from H11.out] at s11 p11
            have S11 := Lib.hid s11
            have A11 := Lib.hid (A10.out.set p11 ⟨v1, v2, v3, v5, x_id, v7, sp, a0, a1, n0, n1, lg, lc, q0, q1, lk, os, v11, x_off, x_a, x_b⟩ rfl rfl rfl rfl rfl rfl)
            clear s11 p11 H11 S10 A10
            cases db
            · have c15 : w11.cell? ⟨C.kb, 15, none⟩ = some (.bool false) := by
                have := S11.out.k.cell 15 _ rfl
                exact this.trans (congrArg some (congrArg Value.bool HDB.out))
              obtain ⟨⟨rfl, rfl, rfl⟩, rfl⟩ : (x_off = fo ∧ x_a = ea ∧ x_b = eb) ∧ t11 = t12 := by have := H12.out; simpa using this
              clear H12
              go_wp2_with fail
              go_end0
              exact ⟨rfl, S11.out.less (by omega), _, A11.out⟩
            · have c15 : w11.cell? ⟨C.kb, 15, none⟩ = some (.bool true) := by
                have := S11.out.k.cell 15 _ rfl
                exact this.trans (congrArg some (congrArg Value.bool HDB.out))
              go_wp2_with fail
              refine (edges_any OK.out W w11 (n + 94) t11 hb ⟨v1, v2, v3, v5, x_id, v7, sp, a0, a1, n0, n1, lg, lc, q0, q1, lk, os, v11, x_off, x_a, x_b⟩ AD10 (S11.out.less (by omega)) A11.out).mono ?_
              rintro e w12 ⟨rfl, s12, AD12, a12⟩
              rw [show fEdges F ⟨v1, v2, v3, v5, x_id, v7, sp, a0, a1, n0, n1, lg, lc, q0, q1, lk, os, v11, x_off, x_a, x_b⟩ t11 = ((⟨v1, v2, v3, v5, x_id, v7, sp, a0, a1, n0, n1, lg, lc, q0, q1, lk, os, v11, fo, ea, eb⟩ : HeadN), t12) from H12.out] at s12 a12
              have S12 := Lib.hid s12
              have A12 := Lib.hid a12
              clear s12 a12 S11 A11
              go_wp2_with fail
              go_end0
              exact ⟨rfl, S12.out.less (by omega), _, A12.out⟩
    · have c19 : w5.cell? ⟨C.kb, 19, none⟩ = some (.bool true) := by
        have := S5.out.k.cell 19 _ rfl
        exact this.trans (congrArg some (congrArg Value.bool HKY.out))
      go_wp2_with fail
      refine (OK.out.ue _ (n + 995) t5 hb 4 x_id 0 (S5.out.less (by omega)) (A5.out.cell 4 _ rfl) (by omega) (by omega)).mono ?_
      rintro e w6 ⟨rfl, s6, p6⟩
      rw [show fUe F x_id 0 t5 = (v6, t6) from H6.out] at s6 p6
      have S6 := Lib.hid s6
      have A6 := Lib.hid (A5.out.set p6 ⟨v1, v2, v3, v5, v6, x_poc, x_spatial, x_act0, x_act1, x_mods0, x_mods1, x_log, x_logc, x_w0, x_w1, x_longkey, x_ops, x_qp, x_off, x_a, x_b⟩ rfl rfl rfl rfl rfl rfl)
      clear s6 p6 H6 S5 A5
      cases pt
      · have cb3 : (C.s.ptype == 0) = false := HPT.out
        have c3 : w6.cell? ⟨C.kb, 3, none⟩ = some (.int .i64 C.s.ptype) := S6.out.k.cell 3 _ rfl
        obtain ⟨rfl, rfl⟩ : x_poc = v7 ∧ t6 = t7 := by have := H7.out; simpa using this
        clear H7
        go_wp2_with fail
        refine (lists_any OK.out W w6 (n + 595) t6 hb ⟨v1, v2, v3, v5, v6, x_poc, x_spatial, x_act0, x_act1, x_mods0, x_mods1, x_log, x_logc, x_w0, x_w1, x_longkey, x_ops, x_qp, x_off, x_a, x_b⟩ A (S6.out.less (by omega)) A6.out IN.out.m0 IN.out.m1 IN.out.l0 IN.out.l1).mono ?_
        rintro e w7 ⟨rfl, s7, AD7, a7⟩
        rw [show fLists F ⟨v1, v2, v3, v5, v6, x_poc, x_spatial, x_act0, x_act1, x_mods0, x_mods1, x_log, x_logc, x_w0, x_w1, x_longkey, x_ops, x_qp, x_off, x_a, x_b⟩ t6 = ((⟨v1, v2, v3, v5, v6, x_poc, sp, a0, a1, n0, n1, x_log, x_logc, x_w0, x_w1, x_longkey, x_ops, x_qp, x_off, x_a, x_b⟩ : HeadN), t8) from H8.out] at s7 a7
        have S7 := Lib.hid s7
        have A7 := Lib.hid a7
        clear s7 a7 S6 A6
        go_wp2_with fail
        refine weighs_reg hb C t8.c ⟨v1, v2, v3, v5, v6, x_poc, sp, a0, a1, n0, n1, x_log, x_logc, x_w0, x_w1, x_longkey, x_ops, x_qp, x_off, x_a, x_b⟩ AD7 S7.out.k.row A7.out.row rfl rfl rfl (fun w8 b8 => ?_)
        have hwg := HWG.out
        simp only [Act.put, List.setIfInBounds_toArray, List.set_cons_zero, List.set_cons_succ, hwg]
        clear hwg
        cases wg
        · have S8 := Lib.hid (S7.out.grow OK.out b8)
          have A8 := Lib.hid (A7.out.grow b8)
          clear b8 S7 A7
          obtain ⟨⟨rfl, rfl, rfl, rfl⟩, rfl⟩ : (x_log = lg ∧ x_logc = lc ∧ x_w0 = q0 ∧ x_w1 = q1) ∧ t8 = t9 := by have := H9.out; simpa using this
          clear H9
          go_wp2_with fail
          refine (marks_any OK.out W w8 (n + 445) t8 hb ⟨v1, v2, v3, v5, v6, x_poc, sp, a0, a1, n0, n1, x_log, x_logc, x_w0, x_w1, x_longkey, x_ops, x_qp, x_off, x_a, x_b⟩ AD7 (S8.out.less (by omega)) A8.out IN.out.m4 IN.out.l4).mono ?_
          rintro e w9 ⟨rfl, s9, AD9, a9⟩
          rw [show fMarks F C.ref C.key ⟨v1, v2, v3, v5, v6, x_poc, sp, a0, a1, n0, n1, x_log, x_logc, x_w0, x_w1, x_longkey, x_ops, x_qp, x_off, x_a, x_b⟩ t8 = ((⟨v1, v2, v3, v5, v6, x_poc, sp, a0, a1, n0, n1, x_log, x_logc, x_w0, x_w1, lk, os, x_qp, x_off, x_a, x_b⟩ : HeadN), t10) from H10.out] at s9 a9
          have S9 := Lib.hid s9
          have A9 := Lib.hid a9
          clear s9 a9 S8 A8
          go_wp2_with fail
          refine (OK.out.ue _ (n + 444) t10 hb 17 x_qp 0 (S9.out.less (by omega)) (A9.out.cell 17 _ rfl) (by omega) (by omega)).mono ?_
          rintro e w10 ⟨rfl, s10, p10⟩
          rw [show fUe F x_qp 0 t10 = (v11, t11) from H11.out] at s10 p10
          have S10 := Lib.hid s10
          have A10 := Lib.hid (A9.out.set p10 ⟨v1, v2, v3, v5, v6, x_poc, sp, a0, a1, n0, n1, x_log, x_logc, x_w0, x_w1, lk, os, v11, x_off, x_a, x_b⟩ rfl rfl rfl rfl rfl rfl)
          clear s10 p10 H11 S9 A9
          cases db
          · have c15 : w10.cell? ⟨C.kb, 15, none⟩ = some (.bool false) := by
              have := S10.out.k.cell 15 _ rfl
              exact this.trans (congrArg some (congrArg Value.bool HDB.out))
            obtain ⟨⟨rfl, rfl, rfl⟩, rfl⟩ : (x_off = fo ∧ x_a = ea ∧ x_b = eb) ∧ t11 = t12 := by have := H12.out; simpa using this
            clear H12
            go_wp2_with fail
            go_end0
            exact ⟨rfl, S10.out.less (by omega), _, A10.out⟩
          · have c15 : w10.cell? ⟨C.kb, 15, none⟩ = some (.bool true) := by
              have := S10.out.k.cell 15 _ rfl
              exact this.trans (congrArg some (congrArg Value.bool HDB.out))
            go_wp2_with fail
            refine (edges_any OK.out W w10 (n + 394) t11 hb ⟨v1, v2, v3, v5, v6, x_poc, sp, a0, a1, n0, n1, x_log, x_logc, x_w0, x_w1, lk, os, v11, x_off, x_a, x_b⟩ AD9 (S10.out.less (by omega)) A10.out).mono ?_
            rintro e w11 ⟨rfl, s11, AD11, a11⟩
            rw [show fEdges F ⟨v1, v2, v3, v5, v6, x_poc, sp, a0, a1, n0, n1, x_log, x_logc, x_w0, x_w1, lk, os, v11, x_off, x_a, x_b⟩ t11 = ((⟨v1, v2, v3, v5, v6, x_poc, sp, a0, a1, n0, n1, x_log, x_logc, x_w0, x_w1, lk, os, v11, fo, ea, eb⟩ : HeadN), t12) from H12.out] at s11 a11
            have S11 := Lib.hid s11
            have A11 := Lib.hid a11
            clear s11 a11 S10 A10
            go_wp2_with fail
            go_end0
            exact ⟨rfl, S11.out.less (by omega), _, A11.out⟩
        · have S8 := Lib.hid (S7.out.grow OK.out b8)
          have A8 := Lib.hid (A7.out.grow b8)
          clear b8 S7 A7
          go_wp2_with fail
          refine (weights_any OK.out W w8 (n + 295) t8 hb ⟨v1, v2, v3, v5, v6, x_poc, sp, a0, a1, n0, n1, x_log, x_logc, x_w0, x_w1, x_longkey, x_ops, x_qp, x_off, x_a, x_b⟩ AD7 (S8.out.less (by omega)) A8.out IN.out.m2 IN.out.m3 IN.out.l2 IN.out.l3 (fun e => (HB8.out e).1) (fun e => (HB8.out e).2) (fun hm => (HK0.out hm HWG.out).1) (fun hm => (HK0.out hm HWG.out).2)).mono ?_
          rintro e w9 ⟨rfl, s9, AD9, a9⟩
          rw [show fWeights F ⟨v1, v2, v3, v5, v6, x_poc, sp, a0, a1, n0, n1, x_log, x_logc, x_w0, x_w1, x_longkey, x_ops, x_qp, x_off, x_a, x_b⟩ t8 = ((⟨v1, v2, v3, v5, v6, x_poc, sp, a0, a1, n0, n1, lg, lc, q0, q1, x_longkey, x_ops, x_qp, x_off, x_a, x_b⟩ : HeadN), t9) from H9.out] at s9 a9
          have S9 := Lib.hid s9
          have A9 := Lib.hid a9
          clear s9 a9 S8 A8
          go_wp2_with fail
          refine (marks_any OK.out W w9 (n + 145) t9 hb ⟨v1, v2, v3, v5, v6, x_poc, sp, a0, a1, n0, n1, lg, lc, q0, q1, x_longkey, x_ops, x_qp, x_off, x_a, x_b⟩ AD9 (S9.out.less (by omega)) A9.out IN.out.m4 IN.out.l4).mono ?_
          rintro e w10 ⟨rfl, s10, AD10, a10⟩
          rw [show fMarks F C.ref C.key ⟨v1, v2, v3, v5, v6, x_poc, sp, a0, a1, n0, n1, lg, lc, q0, q1, x_longkey, x_ops, x_qp, x_off, x_a, x_b⟩ t9 = ((⟨v1, v2, v3, v5, v6, x_poc, sp, a0, a1, n0, n1, lg, lc, q0, q1, lk, os, x_qp, x_off, x_a, x_b⟩ : HeadN), t10) from H10.out] at s10 a10
          have S10 := Lib.hid s10
          have A10 := Lib.hid a10
          clear s10 a10 S9 A9
          go_wp2_with fail
          refine (OK.out.ue _ (n + 144) t10 hb 17 x_qp 0 (S10.out.less (by omega)) (A10.out.cell 17 _ rfl) (by omega) (by omega)).mono ?_
          rintro e w11 ⟨rfl, s11, p11⟩
          rw [show fUe F x_qp 0 t10 = (v11, t11) from H11.out] at s11 p11
          have S11 := Lib.hid s11
          have A11 := Lib.hid (A10.out.set p11 ⟨v1, v2, v3, v5, v6, x_poc, sp, a0, a1, n0, n1, lg, lc, q0, q1, lk, os, v11, x_off, x_a, x_b⟩ rfl rfl rfl rfl rfl rfl)
          clear s11 p11 H11 S10 A10
          cases db
          · have c15 : w11.cell? ⟨C.kb, 15, none⟩ = some (.bool false) := by
              have := S11.out.k.cell 15 _ rfl
              exact this.trans (congrArg some (congrArg Value.bool HDB.out))
            obtain ⟨⟨rfl, rfl, rfl⟩, rfl⟩ : (x_off = fo ∧ x_a = ea ∧ x_b = eb) ∧ t11 = t12 := by have := H12.out; simpa using this
            clear H12
            go_wp2_with fail
            go_end0
            exact ⟨rfl, S11.out.less (by omega), _, A11.out⟩
          · have c15 : w11.cell? ⟨C.kb, 15, none⟩ = some (.bool true) := by
              have := S11.out.k.cell 15 _ rfl
              exact this.trans (congrArg some (congrArg Value.bool HDB.out))
            go_wp2_with fail
            refine (edges_any OK.out W w11 (n + 94) t11 hb ⟨v1, v2, v3, v5, v6, x_poc, sp, a0, a1, n0, n1, lg, lc, q0, q1, lk, os, v11, x_off, x_a, x_b⟩ AD10 (S11.out.less (by omega)) A11.out).mono ?_
            rintro e w12 ⟨rfl, s12, AD12, a12⟩
            rw [show fEdges F ⟨v1, v2, v3, v5, v6, x_poc, sp, a0, a1, n0, n1, lg, lc, q0, q1, lk, os, v11, x_off, x_a, x_b⟩ t11 = ((⟨v1, v2, v3, v5, v6, x_poc, sp, a0, a1, n0, n1, lg, lc, q0, q1, lk, os, v11, fo, ea, eb⟩ : HeadN), t12) from H12.out] at s12 a12
            have S12 := Lib.hid s12
            have A12 := Lib.hid a12
            clear s12 a12 S11 A11
            go_wp2_with fail
            go_end0
            exact ⟨rfl, S12.out.less (by omega), _, A12.out⟩
      · have c3 : w6.cell? ⟨C.kb, 3, none⟩ = some (.int .i64 0) := by
          have := S6.out.k.cell 3 _ rfl
          exact this.trans (congrArg some (congrArg (Value.int .i64) (by have := HPT.out; simpa using this)))
        have c7 : w6.cell? ⟨C.kb, 4, none⟩ = some (.int .i64 C.s.pbits) := S6.out.k.cell 4 _ rfl
        have PI := Lib.hid (fun k => OK.out.plain (w6.drewN k) (n + 994) t6 hb 5 x_poc C.s.pbits ((S6.out.drewN OK.out k).less (by omega)) ((A6.out.drewN k).cell 5 _ rfl) hpb.1 hpb.2)
        go_wp2_with fail
        go_region_with ((go_at_call 84; refine (PI.out 1).mono ?_; rintro e w7 ⟨rfl, s7, p7⟩))
        all_goals
          rw [show fPlain F x_poc C.s.pbits t6 = (v7, t7) from H7.out] at s7 p7
          have S7 := Lib.hid s7
          have A7 := Lib.hid ((A6.out.drewN 1).set p7 ⟨v1, v2, v3, v5, v6, v7, x_spatial, x_act0, x_act1, x_mods0, x_mods1, x_log, x_logc, x_w0, x_w1, x_longkey, x_ops, x_qp, x_off, x_a, x_b⟩ rfl rfl rfl rfl rfl rfl)
          clear s7 p7 H7 S6 A6 PI c7
          go_wp2_with fail
          refine (lists_any OK.out W w7 (n + 594) t7 hb ⟨v1, v2, v3, v5, v6, v7, x_spatial, x_act0, x_act1, x_mods0, x_mods1, x_log, x_logc, x_w0, x_w1, x_longkey, x_ops, x_qp, x_off, x_a, x_b⟩ A (S7.out.less (by omega)) A7.out IN.out.m0 IN.out.m1 IN.out.l0 IN.out.l1).mono ?_
          rintro e w8 ⟨rfl, s8, AD8, a8⟩
          rw [show fLists F ⟨v1, v2, v3, v5, v6, v7, x_spatial, x_act0, x_act1, x_mods0, x_mods1, x_log, x_logc, x_w0, x_w1, x_longkey, x_ops, x_qp, x_off, x_a, x_b⟩ t7 = ((⟨v1, v2, v3, v5, v6, v7, sp, a0, a1, n0, n1, x_log, x_logc, x_w0, x_w1, x_longkey, x_ops, x_qp, x_off, x_a, x_b⟩ : HeadN), t8) from H8.out] at s8 a8
          have S8 := Lib.hid s8
          have A8 := Lib.hid a8
          clear s8 a8 S7 A7
          go_wp2_with fail
          refine weighs_reg hb C t8.c ⟨v1, v2, v3, v5, v6, v7, sp, a0, a1, n0, n1, x_log, x_logc, x_w0, x_w1, x_longkey, x_ops, x_qp, x_off, x_a, x_b⟩ AD8 S8.out.k.row A8.out.row rfl rfl rfl (fun w9 b9 => ?_)
          have hwg := HWG.out
          simp only [Act.put, List.setIfInBounds_toArray, List.set_cons_zero, List.set_cons_succ, hwg]
          clear hwg
          cases wg
          · have S9 := Lib.hid (S8.out.grow OK.out b9)
            have A9 := Lib.hid (A8.out.grow b9)
            clear b9 S8 A8
            obtain ⟨⟨rfl, rfl, rfl, rfl⟩, rfl⟩ : (x_log = lg ∧ x_logc = lc ∧ x_w0 = q0 ∧ x_w1 = q1) ∧ t8 = t9 := by have := H9.out; simpa using this
            clear H9
            go_wp2_with fail
            refine (marks_any OK.out W w9 (n + 444) t8 hb ⟨v1, v2, v3, v5, v6, v7, sp, a0, a1, n0, n1, x_log, x_logc, x_w0, x_w1, x_longkey, x_ops, x_qp, x_off, x_a, x_b⟩ AD8 (S9.out.less (by omega)) A9.out IN.out.m4 IN.out.l4).mono ?_
            rintro e w10 ⟨rfl, s10, AD10, a10⟩
            rw [show fMarks F C.ref C.key ⟨v1, v2, v3, v5, v6, v7, sp, a0, a1, n0, n1, x_log, x_logc, x_w0, x_w1, x_longkey, x_ops, x_qp, x_off, x_a, x_b⟩ t8 = ((⟨v1, v2, v3, v5, v6, v7, sp, a0, a1, n0, n1, x_log, x_logc, x_w0, x_w1, lk, os, x_qp, x_off, x_a, x_b⟩ : HeadN), t10) from H10.out] at s10 a10
            have S10 := Lib.hid s10
            have A10 := Lib.hid a10
            clear s10 a10 S9 A9
            go_wp2_with fail
            refine (OK.out.ue _ (n + 443) t10 hb 17 x_qp 0 (S10.out.less (by omega)) (A10.out.cell 17 _ rfl) (by omega) (by omega)).mono ?_
            rintro e w11 ⟨rfl, s11, p11⟩
            rw [show fUe F x_qp 0 t10 = (v11, t11) from H11.out] at s11 p11
            have S11 := Lib.hid s11
            have A11 := Lib.hid (A10.out.set p11 ⟨v1, v2, v3, v5, v6, v7, sp, a0, a1, n0, n1, x_log, x_logc, x_w0, x_w1, lk, os, v11, x_off, x_a, x_b⟩ rfl rfl rfl rfl rfl rfl)
            clear s11 p11 H11 S10 A10
            cases db
            · have c15 : w11.cell? ⟨C.kb, 15, none⟩ = some (.bool false) := by
                have := S11.out.k.cell 15 _ rfl
                exact this.trans (congrArg some (congrArg Value.bool HDB.out))
              obtain ⟨⟨rfl, rfl, rfl⟩, rfl⟩ : (x_off = fo ∧ x_a = ea ∧ x_b = eb) ∧ t11 = t12 := by have := H12.out; simpa using this
              clear H12
              go_wp2_with fail
              go_end0
              exact ⟨rfl, S11.out.less (by omega), _, A11.out⟩
            · have c15 : w11.cell? ⟨C.kb, 15, none⟩ = some (.bool true) := by
                have := S11.out.k.cell 15 _ rfl
                exact this.trans (congrArg some (congrArg Value.bool HDB.out))
              go_wp2_with fail
              refine (edges_any OK.out W w11 (n + 393) t11 hb ⟨v1, v2, v3, v5, v6, v7, sp, a0, a1, n0, n1, x_log, x_logc, x_w0, x_w1, lk, os, v11, x_off, x_a, x_b⟩ AD10 (S11.out.less (by omega)) A11.out).mono ?_
              rintro e w12 ⟨rfl, s12, AD12, a12⟩
              rw [show fEdges F ⟨v1, v2, v3, v5, v6, v7, sp, a0, a1, n0, n1, x_log, x_logc, x_w0, x_w1, lk, os, v11, x_off, x_a, x_b⟩ t11 = ((⟨v1, v2, v3, v5, v6, v7, sp, a0, a1, n0, n1, x_log, x_logc, x_w0, x_w1, lk, os, v11, fo, ea, eb⟩ : HeadN), t12) from H12.out] at s12 a12
              have S12 := Lib.hid s12
              have A12 := Lib.hid a12
              clear s12 a12 S11 A11
              go_wp2_with fail
              go_end0
              exact ⟨rfl, S12.out.less (by omega), _, A12.out⟩
          · have S9 := Lib.hid (S8.out.grow OK.out b9)
            have A9 := Lib.hid (A8.out.grow b9)
            clear b9 S8 A8
            go_wp2_with fail
            refine (weights_any OK.out W w9 (n + 294) t8 hb ⟨v1, v2, v3, v5, v6, v7, sp, a0, a1, n0, n1, x_log, x_logc, x_w0, x_w1, x_longkey, x_ops, x_qp, x_off, x_a, x_b⟩ AD8 (S9.out.less (by omega)) A9.out IN.out.m2 IN.out.m3 IN.out.l2 IN.out.l3 (fun e => (HB8.out e).1) (fun e => (HB8.out e).2) (fun hm => (HK0.out hm HWG.out).1) (fun hm => (HK0.out hm HWG.out).2)).mono ?_
            rintro e w10 ⟨rfl, s10, AD10, a10⟩
            rw [show fWeights F ⟨v1, v2, v3, v5, v6, v7, sp, a0, a1, n0, n1, x_log, x_logc, x_w0, x_w1, x_longkey, x_ops, x_qp, x_off, x_a, x_b⟩ t8 = ((⟨v1, v2, v3, v5, v6, v7, sp, a0, a1, n0, n1, lg, lc, q0, q1, x_longkey, x_ops, x_qp, x_off, x_a, x_b⟩ : HeadN), t9) from H9.out] at s10 a10
            have S10 := Lib.hid s10
            have A10 := Lib.hid a10
            clear s10 a10 S9 A9
            go_wp2_with fail
            refine (marks_any OK.out W w10 (n + 144) t9 hb ⟨v1, v2, v3, v5, v6, v7, sp, a0, a1, n0, n1, lg, lc, q0, q1, x_longkey, x_ops, x_qp, x_off, x_a, x_b⟩ AD10 (S10.out.less (by omega)) A10.out IN.out.m4 IN.out.l4).mono ?_
            rintro e w11 ⟨rfl, s11, AD11, a11⟩
            rw [show fMarks F C.ref C.key ⟨v1, v2, v3, v5, v6, v7, sp, a0, a1, n0, n1, lg, lc, q0, q1, x_longkey, x_ops, x_qp, x_off, x_a, x_b⟩ t9 = ((⟨v1, v2, v3, v5, v6, v7, sp, a0, a1, n0, n1, lg, lc, q0, q1, lk, os, x_qp, x_off, x_a, x_b⟩ : HeadN), t10) from H10.out] at s11 a11
            have S11 := Lib.hid s11
            have A11 := Lib.hid a11
            clear s11 a11 S10 A10
            go_wp2_with fail
            refine (OK.out.ue _ (n + 143) t10 hb 17 x_qp 0 (S11.out.less (by omega)) (A11.out.cell 17 _ rfl) (by omega) (by omega)).mono ?_
            rintro e w12 ⟨rfl, s12, p12⟩
            rw [show fUe F x_qp 0 t10 = (v11, t11) from H11.out] at s12 p12
            have S12 := Lib.hid s12
            have A12 := Lib.hid (A11.out.set p12 ⟨v1, v2, v3, v5, v6, v7, sp, a0, a1, n0, n1, lg, lc, q0, q1, lk, os, v11, x_off, x_a, x_b⟩ rfl rfl rfl rfl rfl rfl)
            clear s12 p12 H11 S11 A11
            cases db
            · have c15 : w12.cell? ⟨C.kb, 15, none⟩ = some (.bool false) := by
                have := S12.out.k.cell 15 _ rfl
                exact this.trans (congrArg some (congrArg Value.bool HDB.out))
              obtain ⟨⟨rfl, rfl, rfl⟩, rfl⟩ : (x_off = fo ∧ x_a = ea ∧ x_b = eb) ∧ t11 = t12 := by have := H12.out; simpa using this
              clear H12
              go_wp2_with fail
              go_end0
              exact ⟨rfl, S12.out.less (by omega), _, A12.out⟩
            · have c15 : w12.cell? ⟨C.kb, 15, none⟩ = some (.bool true) := by
                have := S12.out.k.cell 15 _ rfl
                exact this.trans (congrArg some (congrArg Value.bool HDB.out))
              go_wp2_with fail
              refine (edges_any OK.out W w12 (n + 93) t11 hb ⟨v1, v2, v3, v5, v6, v7, sp, a0, a1, n0, n1, lg, lc, q0, q1, lk, os, v11, x_off, x_a, x_b⟩ AD11 (S12.out.less (by omega)) A12.out).mono ?_
              rintro e w13 ⟨rfl, s13, AD13, a13⟩
              rw [show fEdges F ⟨v1, v2, v3, v5, v6, v7, sp, a0, a1, n0, n1, lg, lc, q0, q1, lk, os, v11, x_off, x_a, x_b⟩ t11 = ((⟨v1, v2, v3, v5, v6, v7, sp, a0, a1, n0, n1, lg, lc, q0, q1, lk, os, v11, fo, ea, eb⟩ : HeadN), t12) from H12.out] at s13 a13
              have S13 := Lib.hid s13
              have A13 := Lib.hid a13
              clear s13 a13 S12 A12
              go_wp2_with fail
              go_end0
              exact ⟨rfl, S13.out.less (by omega), _, A13.out⟩

end
end Go.Proofs.YthcbgijmnonckaaGreat
