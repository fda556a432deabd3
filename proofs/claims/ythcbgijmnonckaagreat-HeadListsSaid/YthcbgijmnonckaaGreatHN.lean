/- Layer 4: the program's may as one call, told what its six answer. -/
import Derived.Test.YthcbgijmnonckaaGreatHM
namespace Go.Proofs.YthcbgijmnonckaaGreat
open Go.RowKit Zo Zp
set_option linter.unusedVariables false

set_option maxRecDepth 100000 in
set_option maxHeartbeats 4000000 in
theorem my_call (w : World) (s : SpsN) (sa : Option Addr) (scap : Nat) (p : PpsN) (ref : Int) (key : Bool) (h : HeadN) (m0 m1 q0 q1 os : Option Addr) (m0c m1c q0c q1c osc : Nat) (cb cw cm ce : Bool) (HBG : ∀ wr : World, Below w.heap.size w wr → Calls Tryz.prog 76 #[.agg #[.int .i64 s.wide, .int .i64 s.high, .int .i64 s.fbits, .int .i64 s.ptype, .int .i64 s.pbits, .int .i64 s.nonref, .slice sa s.cycle.length scap, .int .i64 s.refs, .int .i64 s.delay, .bool p.cabac, .bool p.weighted, .int .i64 p.bipred, .int .i64 p.qp, .int .i64 p.chroma, .bool p.constrained, .bool p.deblock, .int .i64 p.act0, .int .i64 p.act1, .int .i64 ref, .bool key], .agg #[.int .i64 h.first, .int .i64 h.count, .int .i64 h.type, .int .i64 h.fnum, .int .i64 h.id, .int .i64 h.poc, .bool h.spatial, .int .i64 h.act0, .int .i64 h.act1, .slice m0 h.mods0.length m0c, .slice m1 h.mods1.length m1c, .int .i64 h.log, .int .i64 h.logc, .slice q0 h.w0.length q0c, .slice q1 h.w1.length q1c, .bool h.longkey, .slice os h.ops.length osc, .int .i64 h.qp, .bool h.off, .int .i64 h.a, .int .i64 h.b]] wr fun e w' => e = .returned (.bool cb) ∧ Below wr.heap.size wr w') (HR0 : ∀ wr : World, Below w.heap.size w wr → ∀ is : Bool, Calls Tryz.prog 77 #[.int .i64 h.act0, .slice m0 h.mods0.length m0c, .bool is] wr fun e w' => e = .returned (.bool (referB h.act0 h.mods0 is)) ∧ Below wr.heap.size wr w') (HR1 : ∀ wr : World, Below w.heap.size w wr → ∀ is : Bool, Calls Tryz.prog 77 #[.int .i64 h.act1, .slice m1 h.mods1.length m1c, .bool is] wr fun e w' => e = .returned (.bool (referB h.act1 h.mods1 is)) ∧ Below wr.heap.size wr w') (HWG : ∀ wr : World, Below w.heap.size w wr → Calls Tryz.prog 80 #[.agg #[.int .i64 s.wide, .int .i64 s.high, .int .i64 s.fbits, .int .i64 s.ptype, .int .i64 s.pbits, .int .i64 s.nonref, .slice sa s.cycle.length scap, .int .i64 s.refs, .int .i64 s.delay, .bool p.cabac, .bool p.weighted, .int .i64 p.bipred, .int .i64 p.qp, .int .i64 p.chroma, .bool p.constrained, .bool p.deblock, .int .i64 p.act0, .int .i64 p.act1, .int .i64 ref, .bool key], .agg #[.int .i64 h.first, .int .i64 h.count, .int .i64 h.type, .int .i64 h.fnum, .int .i64 h.id, .int .i64 h.poc, .bool h.spatial, .int .i64 h.act0, .int .i64 h.act1, .slice m0 h.mods0.length m0c, .slice m1 h.mods1.length m1c, .int .i64 h.log, .int .i64 h.logc, .slice q0 h.w0.length q0c, .slice q1 h.w1.length q1c, .bool h.longkey, .slice os h.ops.length osc, .int .i64 h.qp, .bool h.off, .int .i64 h.a, .int .i64 h.b]] wr fun e w' => e = .returned (.bool cw) ∧ Below wr.heap.size wr w') (HMK : ∀ wr : World, Below w.heap.size w wr → Calls Tryz.prog 81 #[.agg #[.int .i64 s.wide, .int .i64 s.high, .int .i64 s.fbits, .int .i64 s.ptype, .int .i64 s.pbits, .int .i64 s.nonref, .slice sa s.cycle.length scap, .int .i64 s.refs, .int .i64 s.delay, .bool p.cabac, .bool p.weighted, .int .i64 p.bipred, .int .i64 p.qp, .int .i64 p.chroma, .bool p.constrained, .bool p.deblock, .int .i64 p.act0, .int .i64 p.act1, .int .i64 ref, .bool key], .agg #[.int .i64 h.first, .int .i64 h.count, .int .i64 h.type, .int .i64 h.fnum, .int .i64 h.id, .int .i64 h.poc, .bool h.spatial, .int .i64 h.act0, .int .i64 h.act1, .slice m0 h.mods0.length m0c, .slice m1 h.mods1.length m1c, .int .i64 h.log, .int .i64 h.logc, .slice q0 h.w0.length q0c, .slice q1 h.w1.length q1c, .bool h.longkey, .slice os h.ops.length osc, .int .i64 h.qp, .bool h.off, .int .i64 h.a, .int .i64 h.b]] wr fun e w' => e = .returned (.bool cm) ∧ Below wr.heap.size wr w') (HEN : ∀ wr : World, Below w.heap.size w wr → Calls Tryz.prog 82 #[.agg #[.int .i64 s.wide, .int .i64 s.high, .int .i64 s.fbits, .int .i64 s.ptype, .int .i64 s.pbits, .int .i64 s.nonref, .slice sa s.cycle.length scap, .int .i64 s.refs, .int .i64 s.delay, .bool p.cabac, .bool p.weighted, .int .i64 p.bipred, .int .i64 p.qp, .int .i64 p.chroma, .bool p.constrained, .bool p.deblock, .int .i64 p.act0, .int .i64 p.act1, .int .i64 ref, .bool key], .agg #[.int .i64 h.first, .int .i64 h.count, .int .i64 h.type, .int .i64 h.fnum, .int .i64 h.id, .int .i64 h.poc, .bool h.spatial, .int .i64 h.act0, .int .i64 h.act1, .slice m0 h.mods0.length m0c, .slice m1 h.mods1.length m1c, .int .i64 h.log, .int .i64 h.logc, .slice q0 h.w0.length q0c, .slice q1 h.w1.length q1c, .bool h.longkey, .slice os h.ops.length osc, .int .i64 h.qp, .bool h.off, .int .i64 h.a, .int .i64 h.b]] wr fun e w' => e = .returned (.bool ce) ∧ Below wr.heap.size wr w') : Calls Tryz.prog 40 #[.agg #[.int .i64 s.wide, .int .i64 s.high, .int .i64 s.fbits, .int .i64 s.ptype, .int .i64 s.pbits, .int .i64 s.nonref, .slice sa s.cycle.length scap, .int .i64 s.refs, .int .i64 s.delay, .bool p.cabac, .bool p.weighted, .int .i64 p.bipred, .int .i64 p.qp, .int .i64 p.chroma, .bool p.constrained, .bool p.deblock, .int .i64 p.act0, .int .i64 p.act1, .int .i64 ref, .bool key], .agg #[.int .i64 h.first, .int .i64 h.count, .int .i64 h.type, .int .i64 h.fnum, .int .i64 h.id, .int .i64 h.poc, .bool h.spatial, .int .i64 h.act0, .int .i64 h.act1, .slice m0 h.mods0.length m0c, .slice m1 h.mods1.length m1c, .int .i64 h.log, .int .i64 h.logc, .slice q0 h.w0.length q0c, .slice q1 h.w1.length q1c, .bool h.longkey, .slice os h.ops.length osc, .int .i64 h.qp, .bool h.off, .int .i64 h.a, .int .i64 h.b]] w fun e w' => e = .returned (.bool (cb && (referB h.act0 h.mods0 (h.type == 0 || h.type == 1) && (referB h.act1 h.mods1 (h.type == 1) && (cw && (cm && ce)))))) ∧ Below w.heap.size w w' := by
  obtain ⟨x2, h2⟩ : ∃ b : Bool, b = ((cb)) := ⟨_, rfl⟩
  obtain ⟨x9, h9⟩ : ∃ b : Bool, b = ((h.type == 0 || h.type == 1)) := ⟨_, rfl⟩
  obtain ⟨x10, h10⟩ : ∃ b : Bool, b = ((referB h.act0 h.mods0 x9)) := ⟨_, rfl⟩
  obtain ⟨x11, h11⟩ : ∃ b : Bool, b = ((x2 && x10)) := ⟨_, rfl⟩
  obtain ⟨x18, h18⟩ : ∃ b : Bool, b = ((h.type == 1)) := ⟨_, rfl⟩
  obtain ⟨x19, h19⟩ : ∃ b : Bool, b = ((referB h.act1 h.mods1 x18)) := ⟨_, rfl⟩
  obtain ⟨x20, h20⟩ : ∃ b : Bool, b = ((x11 && x19)) := ⟨_, rfl⟩
  obtain ⟨x24, h24⟩ : ∃ b : Bool, b = ((cw)) := ⟨_, rfl⟩
  obtain ⟨x25, h25⟩ : ∃ b : Bool, b = ((x20 && x24)) := ⟨_, rfl⟩
  obtain ⟨x29, h29⟩ : ∃ b : Bool, b = ((cm)) := ⟨_, rfl⟩
  obtain ⟨x30, h30⟩ : ∃ b : Bool, b = ((x25 && x29)) := ⟨_, rfl⟩
  obtain ⟨x34, h34⟩ : ∃ b : Bool, b = ((ce)) := ⟨_, rfl⟩
  obtain ⟨x35, h35⟩ : ∃ b : Bool, b = ((x30 && x34)) := ⟨_, rfl⟩
  have hres : x35 = (cb && (referB h.act0 h.mods0 (h.type == 0 || h.type == 1) && (referB h.act1 h.mods1 (h.type == 1) && (cw && (cm && ce))))) := by subst_vars; simp only [Bool.and_assoc]
  rw [← hres]
  clear hres
  have K2 := Lib.hid h2
  clear h2
  have K9 := Lib.hid h9
  clear h9
  have K10 := Lib.hid h10
  clear h10
  have K11 := Lib.hid h11
  clear h11
  have K18 := Lib.hid h18
  clear h18
  have K19 := Lib.hid h19
  clear h19
  have K20 := Lib.hid h20
  clear h20
  have K24 := Lib.hid h24
  clear h24
  have K25 := Lib.hid h25
  clear h25
  have K29 := Lib.hid h29
  clear h29
  have K30 := Lib.hid h30
  clear h30
  have K34 := Lib.hid h34
  clear h34
  have K35 := Lib.hid h35
  clear h35
  obtain ⟨r1, r2, f0⟩ := two_boxes w #[.int .i64 s.wide, .int .i64 s.high, .int .i64 s.fbits, .int .i64 s.ptype, .int .i64 s.pbits, .int .i64 s.nonref, .slice sa s.cycle.length scap, .int .i64 s.refs, .int .i64 s.delay, .bool p.cabac, .bool p.weighted, .int .i64 p.bipred, .int .i64 p.qp, .int .i64 p.chroma, .bool p.constrained, .bool p.deblock, .int .i64 p.act0, .int .i64 p.act1, .int .i64 ref, .bool key] #[.int .i64 h.first, .int .i64 h.count, .int .i64 h.type, .int .i64 h.fnum, .int .i64 h.id, .int .i64 h.poc, .bool h.spatial, .int .i64 h.act0, .int .i64 h.act1, .slice m0 h.mods0.length m0c, .slice m1 h.mods1.length m1c, .int .i64 h.log, .int .i64 h.logc, .slice q0 h.w0.length q0c, .slice q1 h.w1.length q1c, .bool h.longkey, .slice os h.ops.length osc, .int .i64 h.qp, .bool h.off, .int .i64 h.a, .int .i64 h.b] 87 26
  have HB := Lib.hid (((Below.refl w.heap.size w).alloc (Nat.le_refl _) (.cells #[.int .i64 s.wide, .int .i64 s.high, .int .i64 s.fbits, .int .i64 s.ptype, .int .i64 s.pbits, .int .i64 s.nonref, .slice sa s.cycle.length scap, .int .i64 s.refs, .int .i64 s.delay, .bool p.cabac, .bool p.weighted, .int .i64 p.bipred, .int .i64 p.qp, .int .i64 p.chroma, .bool p.constrained, .bool p.deblock, .int .i64 p.act0, .int .i64 p.act1, .int .i64 ref, .bool key] 87)).alloc (by simp) (.cells #[.int .i64 h.first, .int .i64 h.count, .int .i64 h.type, .int .i64 h.fnum, .int .i64 h.id, .int .i64 h.poc, .bool h.spatial, .int .i64 h.act0, .int .i64 h.act1, .slice m0 h.mods0.length m0c, .slice m1 h.mods1.length m1c, .int .i64 h.log, .int .i64 h.logc, .slice q0 h.w0.length q0c, .slice q1 h.w1.length q1c, .bool h.longkey, .slice os h.ops.length osc, .int .i64 h.qp, .bool h.off, .int .i64 h.a, .int .i64 h.b] 26))
  have X := Lib.hid r1
  have Y := Lib.hid r2
  have HBGO := Lib.hid HBG
  have HR0O := Lib.hid HR0
  have HR1O := Lib.hid HR1
  have HWGO := Lib.hid HWG
  have HMKO := Lib.hid HMK
  have HENO := Lib.hid HEN
  clear r1 r2 f0 HBG HR0 HR1 HWG HMK HEN
  go_enter Tryz.func40, Tryz.ntmps40
  go_wp2_with fail
  refine wp_region_midst (ops := my_ops) (qI ((w.alloc (.cells #[.int .i64 s.wide, .int .i64 s.high, .int .i64 s.fbits, .int .i64 s.ptype, .int .i64 s.pbits, .int .i64 s.nonref, .slice sa s.cycle.length scap, .int .i64 s.refs, .int .i64 s.delay, .bool p.cabac, .bool p.weighted, .int .i64 p.bipred, .int .i64 p.qp, .int .i64 p.chroma, .bool p.constrained, .bool p.deblock, .int .i64 p.act0, .int .i64 p.act1, .int .i64 ref, .bool key] 87)).alloc (.cells #[.int .i64 h.first, .int .i64 h.count, .int .i64 h.type, .int .i64 h.fnum, .int .i64 h.id, .int .i64 h.poc, .bool h.spatial, .int .i64 h.act0, .int .i64 h.act1, .slice m0 h.mods0.length m0c, .slice m1 h.mods1.length m1c, .int .i64 h.log, .int .i64 h.logc, .slice q0 h.w0.length q0c, .slice q1 h.w1.length q1c, .bool h.longkey, .slice os h.ops.length osc, .int .i64 h.qp, .bool h.off, .int .i64 h.a, .int .i64 h.b] 26))) (qV (my_V w.heap.size (w.heap.size + 1) s sa scap p ref key h m0 m1 q0 q1 os m0c m1c q0c q1c osc cb cw cm ce x2 x9 x10 x11 x18 x19 x20 x24 x25 x29 x30 x34 x35)) (by kernel_rfl) (by kernel_rfl) ((Below.refl _ _).drew) (fun i hi => ?_) (fun a wz h => ?_)
  · match i, hi with | 0, _ => exact my_s0 X.out rfl | 1, _ => exact my_s1 Y.out rfl | 2, _ => exact my_s2 (fun wr b => HBGO.out wr ((HB.out).trans (b.mono (by simp; omega)))) K2.out | 3, _ => exact my_s3 | 4, _ => exact my_s4 rfl | 5, _ => exact my_s5 Y.out | 6, _ => exact my_s6 rfl | 7, _ => exact my_s7 Y.out | 8, _ => exact my_s8 Y.out rfl | 9, _ => exact my_s9 K9.out | 10, _ => exact my_s10 (fun wr b => HR0O.out wr ((HB.out).trans (b.mono (by simp; omega)))) K10.out | 11, _ => exact my_s11 K11.out | 12, _ => exact my_s12 | 13, _ => exact my_s13 rfl | 14, _ => exact my_s14 Y.out | 15, _ => exact my_s15 rfl | 16, _ => exact my_s16 Y.out | 17, _ => exact my_s17 Y.out rfl | 18, _ => exact my_s18 K18.out | 19, _ => exact my_s19 (fun wr b => HR1O.out wr ((HB.out).trans (b.mono (by simp; omega)))) K19.out | 20, _ => exact my_s20 K20.out | 21, _ => exact my_s21 | 22, _ => exact my_s22 X.out rfl | 23, _ => exact my_s23 Y.out rfl | 24, _ => exact my_s24 (fun wr b => HWGO.out wr ((HB.out).trans (b.mono (by simp; omega)))) K24.out | 25, _ => exact my_s25 K25.out | 26, _ => exact my_s26 | 27, _ => exact my_s27 X.out rfl | 28, _ => exact my_s28 Y.out rfl | 29, _ => exact my_s29 (fun wr b => HMKO.out wr ((HB.out).trans (b.mono (by simp; omega)))) K29.out | 30, _ => exact my_s30 K30.out | 31, _ => exact my_s31 | 32, _ => exact my_s32 X.out rfl | 33, _ => exact my_s33 Y.out rfl | 34, _ => exact my_s34 (fun wr b => HENO.out wr ((HB.out).trans (b.mono (by simp; omega)))) K34.out | 35, _ => exact my_s35 K35.out | 36, _ => exact my_s36 | k + 37, h => exact absurd h (by simp [my_ops])
  · obtain ⟨v, t2, e2⟩ := h.get 36 4 (by kernel_rfl)
    have e3 := e2 (true, .bool x35) rfl
    rw [if_pos rfl] at e3
    subst e3
    have hd := h.defers
    have MF := h.inv
    clear h e2
    go_wp2_with fail
    refine bodyPost_ret (v := .bool x35) (by simp [results, Tryz.results40, go_sem, t2]) hd ⟨rfl, ?_⟩
    exact HB.out.trans (Below.mono MF (by simp; omega))

end Go.Proofs.YthcbgijmnonckaaGreat
