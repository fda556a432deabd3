/- Layer 4: the program's mayMark as one call. -/
import Derived.Test.YthcbgijmnonckaaGreatHG
import Derived.Test.YthcbgijmnonckaaGreatHE
namespace Go.Proofs.YthcbgijmnonckaaGreat
open Go.RowKit Zo Zp
set_option linter.unusedVariables false

set_option maxRecDepth 100000 in
set_option maxHeartbeats 4000000 in
theorem mk_call (w : World) (s : SpsN) (sa : Option Addr) (scap : Nat) (p : PpsN) (ref : Int) (key : Bool) (h : HeadN) (m0 m1 q0 q1 os : Option Addr) (m0c m1c q0c q1c osc : Nat) (HO : ∀ wr : World, Below w.heap.size w wr → Calls Tryz.prog 108 #[.slice os h.ops.length osc, .func (.func 109) #[] #[]] wr fun e w' => e = .returned (.bool (h.ops.all fun x => decide x.may)) ∧ Below wr.heap.size wr w') : Calls Tryz.prog 81 #[.agg #[.int .i64 s.wide, .int .i64 s.high, .int .i64 s.fbits, .int .i64 s.ptype, .int .i64 s.pbits, .int .i64 s.nonref, .slice sa s.cycle.length scap, .int .i64 s.refs, .int .i64 s.delay, .bool p.cabac, .bool p.weighted, .int .i64 p.bipred, .int .i64 p.qp, .int .i64 p.chroma, .bool p.constrained, .bool p.deblock, .int .i64 p.act0, .int .i64 p.act1, .int .i64 ref, .bool key], .agg #[.int .i64 h.first, .int .i64 h.count, .int .i64 h.type, .int .i64 h.fnum, .int .i64 h.id, .int .i64 h.poc, .bool h.spatial, .int .i64 h.act0, .int .i64 h.act1, .slice m0 h.mods0.length m0c, .slice m1 h.mods1.length m1c, .int .i64 h.log, .int .i64 h.logc, .slice q0 h.w0.length q0c, .slice q1 h.w1.length q1c, .bool h.longkey, .slice os h.ops.length osc, .int .i64 h.qp, .bool h.off, .int .i64 h.a, .int .i64 h.b]] w fun e w' => e = .returned (.bool (((!h.longkey) || (key && decide (0 < ref))) && (decide ((h.ops.length : Int) ≤ if (!key && decide (0 < ref)) = true then 16 else 0) && h.ops.all fun x => decide x.may))) ∧ Below w.heap.size w w' := by
  obtain ⟨x2, h2⟩ : ∃ b : Bool, b = ((!h.longkey)) := ⟨_, rfl⟩
  obtain ⟨x5, h5⟩ : ∃ b : Bool, b = ((key && decide (0 < ref))) := ⟨_, rfl⟩
  obtain ⟨x6, h6⟩ : ∃ b : Bool, b = ((x2 || x5)) := ⟨_, rfl⟩
  obtain ⟨x12, h12⟩ : ∃ b : Bool, b = ((!key && decide (0 < ref))) := ⟨_, rfl⟩
  obtain ⟨x13, h13⟩ : ∃ b : Int, b = ((if x12 = true then 16 else 0)) := ⟨_, rfl⟩
  obtain ⟨x14, h14⟩ : ∃ b : Bool, b = ((decide ((h.ops.length : Int) ≤ x13))) := ⟨_, rfl⟩
  obtain ⟨x15, h15⟩ : ∃ b : Bool, b = ((x6 && x14)) := ⟨_, rfl⟩
  obtain ⟨x19, h19⟩ : ∃ b : Bool, b = ((h.ops.all fun x => decide x.may)) := ⟨_, rfl⟩
  obtain ⟨x20, h20⟩ : ∃ b : Bool, b = ((x15 && x19)) := ⟨_, rfl⟩
  have hres : x20 = (((!h.longkey) || (key && decide (0 < ref))) && (decide ((h.ops.length : Int) ≤ if (!key && decide (0 < ref)) = true then 16 else 0) && h.ops.all fun x => decide x.may)) := by subst_vars; simp only [Bool.and_assoc]
  rw [← hres]
  clear hres
  have K2 := Lib.hid h2
  clear h2
  have K5 := Lib.hid h5
  clear h5
  have K6 := Lib.hid h6
  clear h6
  have K12 := Lib.hid h12
  clear h12
  have K13 := Lib.hid h13
  clear h13
  have K14 := Lib.hid h14
  clear h14
  have K15 := Lib.hid h15
  clear h15
  have K19 := Lib.hid h19
  clear h19
  have K20 := Lib.hid h20
  clear h20
  obtain ⟨r1, r2, f0⟩ := two_boxes w #[.int .i64 s.wide, .int .i64 s.high, .int .i64 s.fbits, .int .i64 s.ptype, .int .i64 s.pbits, .int .i64 s.nonref, .slice sa s.cycle.length scap, .int .i64 s.refs, .int .i64 s.delay, .bool p.cabac, .bool p.weighted, .int .i64 p.bipred, .int .i64 p.qp, .int .i64 p.chroma, .bool p.constrained, .bool p.deblock, .int .i64 p.act0, .int .i64 p.act1, .int .i64 ref, .bool key] #[.int .i64 h.first, .int .i64 h.count, .int .i64 h.type, .int .i64 h.fnum, .int .i64 h.id, .int .i64 h.poc, .bool h.spatial, .int .i64 h.act0, .int .i64 h.act1, .slice m0 h.mods0.length m0c, .slice m1 h.mods1.length m1c, .int .i64 h.log, .int .i64 h.logc, .slice q0 h.w0.length q0c, .slice q1 h.w1.length q1c, .bool h.longkey, .slice os h.ops.length osc, .int .i64 h.qp, .bool h.off, .int .i64 h.a, .int .i64 h.b] 87 26
  have HB := Lib.hid (((Below.refl w.heap.size w).alloc (Nat.le_refl _) (.cells #[.int .i64 s.wide, .int .i64 s.high, .int .i64 s.fbits, .int .i64 s.ptype, .int .i64 s.pbits, .int .i64 s.nonref, .slice sa s.cycle.length scap, .int .i64 s.refs, .int .i64 s.delay, .bool p.cabac, .bool p.weighted, .int .i64 p.bipred, .int .i64 p.qp, .int .i64 p.chroma, .bool p.constrained, .bool p.deblock, .int .i64 p.act0, .int .i64 p.act1, .int .i64 ref, .bool key] 87)).alloc (by simp) (.cells #[.int .i64 h.first, .int .i64 h.count, .int .i64 h.type, .int .i64 h.fnum, .int .i64 h.id, .int .i64 h.poc, .bool h.spatial, .int .i64 h.act0, .int .i64 h.act1, .slice m0 h.mods0.length m0c, .slice m1 h.mods1.length m1c, .int .i64 h.log, .int .i64 h.logc, .slice q0 h.w0.length q0c, .slice q1 h.w1.length q1c, .bool h.longkey, .slice os h.ops.length osc, .int .i64 h.qp, .bool h.off, .int .i64 h.a, .int .i64 h.b] 26))
  have X := Lib.hid r1
  have Y := Lib.hid r2
  have HOO := Lib.hid HO
  clear r1 r2 f0 HO
  go_enter Tryz.func81, Tryz.ntmps81
  go_wp2_with fail
  refine wp_region_midst (ops := mk_ops) (qI ((w.alloc (.cells #[.int .i64 s.wide, .int .i64 s.high, .int .i64 s.fbits, .int .i64 s.ptype, .int .i64 s.pbits, .int .i64 s.nonref, .slice sa s.cycle.length scap, .int .i64 s.refs, .int .i64 s.delay, .bool p.cabac, .bool p.weighted, .int .i64 p.bipred, .int .i64 p.qp, .int .i64 p.chroma, .bool p.constrained, .bool p.deblock, .int .i64 p.act0, .int .i64 p.act1, .int .i64 ref, .bool key] 87)).alloc (.cells #[.int .i64 h.first, .int .i64 h.count, .int .i64 h.type, .int .i64 h.fnum, .int .i64 h.id, .int .i64 h.poc, .bool h.spatial, .int .i64 h.act0, .int .i64 h.act1, .slice m0 h.mods0.length m0c, .slice m1 h.mods1.length m1c, .int .i64 h.log, .int .i64 h.logc, .slice q0 h.w0.length q0c, .slice q1 h.w1.length q1c, .bool h.longkey, .slice os h.ops.length osc, .int .i64 h.qp, .bool h.off, .int .i64 h.a, .int .i64 h.b] 26))) (qV (mk_V w.heap.size (w.heap.size + 1) s sa scap p ref key h m0 m1 q0 q1 os m0c m1c q0c q1c osc x2 x5 x6 x12 x13 x14 x15 x19 x20)) (by kernel_rfl) (by kernel_rfl) ((Below.refl _ _).drew) (fun i hi => ?_) (fun a wz h => ?_)
  · match i, hi with | 0, _ => exact mk_s0 rfl | 1, _ => exact mk_s1 Y.out | 2, _ => exact mk_s2 K2.out | 3, _ => exact mk_s3 | 4, _ => exact mk_s4 X.out rfl | 5, _ => exact mk_s5 K5.out | 6, _ => exact mk_s6 K6.out | 7, _ => exact mk_s7 | 8, _ => exact mk_s8 rfl | 9, _ => exact mk_s9 Y.out | 10, _ => exact mk_s10 | 11, _ => exact mk_s11 X.out rfl | 12, _ => exact mk_s12 K12.out | 13, _ => exact mk_s13 K13.out | 14, _ => exact mk_s14 K14.out | 15, _ => exact mk_s15 K15.out | 16, _ => exact mk_s16 | 17, _ => exact mk_s17 rfl | 18, _ => exact mk_s18 Y.out | 19, _ => exact mk_s19 (fun wr b => HOO.out wr ((HB.out).trans (b.mono (by simp; omega)))) K19.out | 20, _ => exact mk_s20 K20.out | 21, _ => exact mk_s21 | k + 22, h => exact absurd h (by simp [mk_ops])
  · obtain ⟨v, t2, e2⟩ := h.get 21 4 (by kernel_rfl)
    have e3 := e2 (true, .bool x20) rfl
    rw [if_pos rfl] at e3
    subst e3
    have hd := h.defers
    have MF := h.inv
    clear h e2
    go_wp2_with fail
    refine bodyPost_ret (v := .bool x20) (by simp [results, Tryz.results81, go_sem, t2]) hd ⟨rfl, ?_⟩
    exact HB.out.trans (Below.mono MF (by simp; omega))

end Go.Proofs.YthcbgijmnonckaaGreat
/- Layer 4: the program's weighs, hasFirst, hasSecond, mayRefer. -/
namespace Go.Proofs.YthcbgijmnonckaaGreat
open Go.RowKit Zo Zp
set_option linter.unusedVariables false

set_option maxRecDepth 100000 in
set_option maxHeartbeats 4000000 in
theorem weighs_any (w : World) (s : SpsN) (sa : Option Addr) (scap : Nat) (p : PpsN) (ref : Int) (key : Bool) (h : HeadN) (m0 m1 q0 q1 os : Option Addr) (m0c m1c q0c q1c osc : Nat) : Calls Tryz.prog 86 #[.agg #[.int .i64 s.wide, .int .i64 s.high, .int .i64 s.fbits, .int .i64 s.ptype, .int .i64 s.pbits, .int .i64 s.nonref, .slice sa s.cycle.length scap, .int .i64 s.refs, .int .i64 s.delay, .bool p.cabac, .bool p.weighted, .int .i64 p.bipred, .int .i64 p.qp, .int .i64 p.chroma, .bool p.constrained, .bool p.deblock, .int .i64 p.act0, .int .i64 p.act1, .int .i64 ref, .bool key], .agg #[.int .i64 h.first, .int .i64 h.count, .int .i64 h.type, .int .i64 h.fnum, .int .i64 h.id, .int .i64 h.poc, .bool h.spatial, .int .i64 h.act0, .int .i64 h.act1, .slice m0 h.mods0.length m0c, .slice m1 h.mods1.length m1c, .int .i64 h.log, .int .i64 h.logc, .slice q0 h.w0.length q0c, .slice q1 h.w1.length q1c, .bool h.longkey, .slice os h.ops.length osc, .int .i64 h.qp, .bool h.off, .int .i64 h.a, .int .i64 h.b]] w fun e w' => e = .returned (.bool (weighsN h.type p)) ∧ Below w.heap.size w w' := by
  obtain ⟨r1, r2, f0⟩ := two_boxes w #[.int .i64 s.wide, .int .i64 s.high, .int .i64 s.fbits, .int .i64 s.ptype, .int .i64 s.pbits, .int .i64 s.nonref, .slice sa s.cycle.length scap, .int .i64 s.refs, .int .i64 s.delay, .bool p.cabac, .bool p.weighted, .int .i64 p.bipred, .int .i64 p.qp, .int .i64 p.chroma, .bool p.constrained, .bool p.deblock, .int .i64 p.act0, .int .i64 p.act1, .int .i64 ref, .bool key] #[.int .i64 h.first, .int .i64 h.count, .int .i64 h.type, .int .i64 h.fnum, .int .i64 h.id, .int .i64 h.poc, .bool h.spatial, .int .i64 h.act0, .int .i64 h.act1, .slice m0 h.mods0.length m0c, .slice m1 h.mods1.length m1c, .int .i64 h.log, .int .i64 h.logc, .slice q0 h.w0.length q0c, .slice q1 h.w1.length q1c, .bool h.longkey, .slice os h.ops.length osc, .int .i64 h.qp, .bool h.off, .int .i64 h.a, .int .i64 h.b] 87 26
  have HB := Lib.hid (((Below.refl w.heap.size w).alloc (Nat.le_refl _) (.cells #[.int .i64 s.wide, .int .i64 s.high, .int .i64 s.fbits, .int .i64 s.ptype, .int .i64 s.pbits, .int .i64 s.nonref, .slice sa s.cycle.length scap, .int .i64 s.refs, .int .i64 s.delay, .bool p.cabac, .bool p.weighted, .int .i64 p.bipred, .int .i64 p.qp, .int .i64 p.chroma, .bool p.constrained, .bool p.deblock, .int .i64 p.act0, .int .i64 p.act1, .int .i64 ref, .bool key] 87)).alloc (by simp) (.cells #[.int .i64 h.first, .int .i64 h.count, .int .i64 h.type, .int .i64 h.fnum, .int .i64 h.id, .int .i64 h.poc, .bool h.spatial, .int .i64 h.act0, .int .i64 h.act1, .slice m0 h.mods0.length m0c, .slice m1 h.mods1.length m1c, .int .i64 h.log, .int .i64 h.logc, .slice q0 h.w0.length q0c, .slice q1 h.w1.length q1c, .bool h.longkey, .slice os h.ops.length osc, .int .i64 h.qp, .bool h.off, .int .i64 h.a, .int .i64 h.b] 26))
  clear f0
  by_cases k0 : h.type = 0
  · go_enter Tryz.func86, Tryz.ntmps86
    go_wp2_with fail
    go_ret
    exact ⟨ret_bool (by simp [weighsN, k0]), by have b := HB.out; rw [k0] at b; exact b⟩
  · by_cases k1 : h.type = 1
    · go_enter Tryz.func86, Tryz.ntmps86
      go_wp2_with fail
      go_ret
      exact ⟨ret_bool (by simp [weighsN, k1]), by have b := HB.out; rw [k1] at b; exact b⟩
    · go_enter Tryz.func86, Tryz.ntmps86
      go_wp2_with fail
      go_ret
      exact ⟨ret_bool (by simp [weighsN, k0, k1]), HB.out⟩

set_option maxRecDepth 100000 in
set_option maxHeartbeats 4000000 in
theorem hasFirst_any (w : World) (h : HeadN) (m0 m1 q0 q1 os : Option Addr) (m0c m1c q0c q1c osc : Nat) : Calls Tryz.prog 78 #[.agg #[.int .i64 h.first, .int .i64 h.count, .int .i64 h.type, .int .i64 h.fnum, .int .i64 h.id, .int .i64 h.poc, .bool h.spatial, .int .i64 h.act0, .int .i64 h.act1, .slice m0 h.mods0.length m0c, .slice m1 h.mods1.length m1c, .int .i64 h.log, .int .i64 h.logc, .slice q0 h.w0.length q0c, .slice q1 h.w1.length q1c, .bool h.longkey, .slice os h.ops.length osc, .int .i64 h.qp, .bool h.off, .int .i64 h.a, .int .i64 h.b]] w fun e w' => e = .returned (.bool (h.type == 0 || h.type == 1)) ∧ Below w.heap.size w w' := by
  have HB := Lib.hid ((Below.refl w.heap.size w).alloc (Nat.le_refl _) (.cells #[.int .i64 h.first, .int .i64 h.count, .int .i64 h.type, .int .i64 h.fnum, .int .i64 h.id, .int .i64 h.poc, .bool h.spatial, .int .i64 h.act0, .int .i64 h.act1, .slice m0 h.mods0.length m0c, .slice m1 h.mods1.length m1c, .int .i64 h.log, .int .i64 h.logc, .slice q0 h.w0.length q0c, .slice q1 h.w1.length q1c, .bool h.longkey, .slice os h.ops.length osc, .int .i64 h.qp, .bool h.off, .int .i64 h.a, .int .i64 h.b] 26))
  by_cases k0 : h.type = 0
  all_goals
    go_enter Tryz.func78, Tryz.ntmps78
    go_wp2_with fail
    go_ret
    exact ⟨ret_bool (by simp [k0]), by first | exact HB.out | (have b := HB.out; rw [k0] at b; exact b)⟩

set_option maxRecDepth 100000 in
set_option maxHeartbeats 4000000 in
theorem hasSecond_any (w : World) (h : HeadN) (m0 m1 q0 q1 os : Option Addr) (m0c m1c q0c q1c osc : Nat) : Calls Tryz.prog 79 #[.agg #[.int .i64 h.first, .int .i64 h.count, .int .i64 h.type, .int .i64 h.fnum, .int .i64 h.id, .int .i64 h.poc, .bool h.spatial, .int .i64 h.act0, .int .i64 h.act1, .slice m0 h.mods0.length m0c, .slice m1 h.mods1.length m1c, .int .i64 h.log, .int .i64 h.logc, .slice q0 h.w0.length q0c, .slice q1 h.w1.length q1c, .bool h.longkey, .slice os h.ops.length osc, .int .i64 h.qp, .bool h.off, .int .i64 h.a, .int .i64 h.b]] w fun e w' => e = .returned (.bool (h.type == 1)) ∧ Below w.heap.size w w' := by
  have HB := Lib.hid ((Below.refl w.heap.size w).alloc (Nat.le_refl _) (.cells #[.int .i64 h.first, .int .i64 h.count, .int .i64 h.type, .int .i64 h.fnum, .int .i64 h.id, .int .i64 h.poc, .bool h.spatial, .int .i64 h.act0, .int .i64 h.act1, .slice m0 h.mods0.length m0c, .slice m1 h.mods1.length m1c, .int .i64 h.log, .int .i64 h.logc, .slice q0 h.w0.length q0c, .slice q1 h.w1.length q1c, .bool h.longkey, .slice os h.ops.length osc, .int .i64 h.qp, .bool h.off, .int .i64 h.a, .int .i64 h.b] 26))
  go_enter Tryz.func79, Tryz.ntmps79
  go_wp2_with fail
  go_ret
  exact ⟨ret_bool (by simp), HB.out⟩

def referB (act : Int) (mods : List ModN) (is : Bool) : Bool := if is then inB act 1 8 && (decide ((mods.length : Int) ≤ 16) && mods.all fun x => decide x.may) else act == 0 && decide (mods.length = 0)

set_option maxRecDepth 100000 in
set_option maxHeartbeats 4000000 in
theorem mayRefer_any (w : World) (act : Int) (mods : List ModN) (a : Option Addr) (cap : Nat) (is : Bool)
    (HM : Calls Tryz.prog 102 #[.slice a mods.length cap, .func (.func 103) #[] #[]] w fun e w' => e = .returned (.bool (mods.all fun x => decide x.may)) ∧ Below w.heap.size w w') :
    Calls Tryz.prog 77 #[.int .i64 act, .slice a mods.length cap, .bool is] w fun e w' => e = .returned (.bool (referB act mods is)) ∧ Below w.heap.size w w' := by
  have K := Lib.hid HM
  clear HM
  have HB := Lib.hid (Below.refl w.heap.size w)
  cases is
  · by_cases k0 : act = 0
    all_goals
      go_enter Tryz.func77, Tryz.ntmps77
      go_wp2_with fail
      go_ret
      exact ⟨ret_bool (by cases mods <;> simp [referB, k0] <;> omega), HB.out⟩
  · obtain ⟨b1, h1⟩ : ∃ b, inB act 1 8 = b := ⟨_, rfl⟩
    have W1 := fun w => within_any w act 1 8
    rw [h1] at W1
    have KW := Lib.hid W1
    have H1 := Lib.hid h1
    clear W1 h1
    by_cases k1 : (mods.length : Int) ≤ 16
    · cases b1
      · go_enter Tryz.func77, Tryz.ntmps77
        go_wp2_with fail
        refine (KW.out _).mono ?_
        rintro e w' ⟨rfl, rfl⟩
        go_wp2_with fail
        go_ret
        exact ⟨ret_bool (by simp [referB, H1.out]), HB.out⟩
      · go_enter Tryz.func77, Tryz.ntmps77
        go_wp2_with fail
        refine (KW.out _).mono ?_
        rintro e w' ⟨rfl, rfl⟩
        go_wp2_with fail
        refine K.out.mono ?_
        rintro e w' ⟨rfl, B⟩
        have D := Lib.hid B
        clear B
        go_wp2_with fail
        go_ret
        exact ⟨ret_bool (by simp [referB, H1.out, k1]), D.out⟩
    · cases b1
      all_goals
        go_enter Tryz.func77, Tryz.ntmps77
        go_wp2_with fail
        refine (KW.out _).mono ?_
        rintro e w' ⟨rfl, rfl⟩
        go_wp2_with fail
        go_ret
        exact ⟨ret_bool (by simp [referB, H1.out]; try omega), HB.out⟩
end Go.Proofs.YthcbgijmnonckaaGreat
