/- Layer 4: the program's mayWeigh as one call. -/
import Derived.Test.YthcbgijmnonckaaGreatHJ
namespace Go.Proofs.YthcbgijmnonckaaGreat
open Go.RowKit Zo Zp
set_option linter.unusedVariables false

set_option maxRecDepth 100000 in
set_option maxHeartbeats 4000000 in
theorem mw_call (w : World) (s : SpsN) (sa : Option Addr) (scap : Nat) (p : PpsN) (ref : Int) (key : Bool) (h : HeadN) (m0 m1 q0 q1 os : Option Addr) (m0c m1c q0c q1c osc : Nat) (HQ0 : ∀ wr : World, Below w.heap.size w wr → Calls Tryz.prog 104 #[.slice q0 h.w0.length q0c, .func (.func 105) #[] #[]] wr fun e w' => e = .returned (.bool (h.w0.all fun x => decide x.may)) ∧ Below wr.heap.size wr w') (HQ1 : ∀ wr : World, Below w.heap.size w wr → Calls Tryz.prog 104 #[.slice q1 h.w1.length q1c, .func (.func 105) #[] #[]] wr fun e w' => e = .returned (.bool (h.w1.all fun x => decide x.may)) ∧ Below wr.heap.size wr w') : Calls Tryz.prog 80 #[.agg #[.int .i64 s.wide, .int .i64 s.high, .int .i64 s.fbits, .int .i64 s.ptype, .int .i64 s.pbits, .int .i64 s.nonref, .slice sa s.cycle.length scap, .int .i64 s.refs, .int .i64 s.delay, .bool p.cabac, .bool p.weighted, .int .i64 p.bipred, .int .i64 p.qp, .int .i64 p.chroma, .bool p.constrained, .bool p.deblock, .int .i64 p.act0, .int .i64 p.act1, .int .i64 ref, .bool key], .agg #[.int .i64 h.first, .int .i64 h.count, .int .i64 h.type, .int .i64 h.fnum, .int .i64 h.id, .int .i64 h.poc, .bool h.spatial, .int .i64 h.act0, .int .i64 h.act1, .slice m0 h.mods0.length m0c, .slice m1 h.mods1.length m1c, .int .i64 h.log, .int .i64 h.logc, .slice q0 h.w0.length q0c, .slice q1 h.w1.length q1c, .bool h.longkey, .slice os h.ops.length osc, .int .i64 h.qp, .bool h.off, .int .i64 h.a, .int .i64 h.b]] w fun e w' => e = .returned (.bool (inB h.log 0 (if weighsN h.type p = true then 7 else 0) && (inB h.logc 0 (if weighsN h.type p = true then 7 else 0) && (((h.w0.length : Int) == if weighsN h.type p = true then h.act0 else 0) && ((h.w0.all fun x => decide x.may) && (((h.w1.length : Int) == if weighsN h.type p = true then h.act1 else 0) && h.w1.all fun x => decide x.may)))))) ∧ Below w.heap.size w w' := by
  obtain ⟨wq, hw⟩ : ∃ b, weighsN h.type p = b := ⟨_, rfl⟩
  obtain ⟨x3, h3⟩ : ∃ b : Int, b = ((if wq = true then 7 else 0)) := ⟨_, rfl⟩
  obtain ⟨x4, h4⟩ : ∃ b : Bool, b = ((inB h.log 0 x3)) := ⟨_, rfl⟩
  obtain ⟨x9, h9⟩ : ∃ b : Int, b = ((if wq = true then 7 else 0)) := ⟨_, rfl⟩
  obtain ⟨x10, h10⟩ : ∃ b : Bool, b = ((inB h.logc 0 x9)) := ⟨_, rfl⟩
  obtain ⟨x11, h11⟩ : ∃ b : Bool, b = ((x4 && x10)) := ⟨_, rfl⟩
  obtain ⟨x19, h19⟩ : ∃ b : Int, b = ((if wq = true then h.act0 else 0)) := ⟨_, rfl⟩
  obtain ⟨x20, h20⟩ : ∃ b : Bool, b = (((h.w0.length : Int) == x19)) := ⟨_, rfl⟩
  obtain ⟨x21, h21⟩ : ∃ b : Bool, b = ((x11 && x20)) := ⟨_, rfl⟩
  obtain ⟨x25, h25⟩ : ∃ b : Bool, b = ((h.w0.all fun x => decide x.may)) := ⟨_, rfl⟩
  obtain ⟨x26, h26⟩ : ∃ b : Bool, b = ((x21 && x25)) := ⟨_, rfl⟩
  obtain ⟨x34, h34⟩ : ∃ b : Int, b = ((if wq = true then h.act1 else 0)) := ⟨_, rfl⟩
  obtain ⟨x35, h35⟩ : ∃ b : Bool, b = (((h.w1.length : Int) == x34)) := ⟨_, rfl⟩
  obtain ⟨x36, h36⟩ : ∃ b : Bool, b = ((x26 && x35)) := ⟨_, rfl⟩
  obtain ⟨x40, h40⟩ : ∃ b : Bool, b = ((h.w1.all fun x => decide x.may)) := ⟨_, rfl⟩
  obtain ⟨x41, h41⟩ : ∃ b : Bool, b = ((x36 && x40)) := ⟨_, rfl⟩
  have hres : x41 = (inB h.log 0 (if weighsN h.type p = true then 7 else 0) && (inB h.logc 0 (if weighsN h.type p = true then 7 else 0) && (((h.w0.length : Int) == if weighsN h.type p = true then h.act0 else 0) && ((h.w0.all fun x => decide x.may) && (((h.w1.length : Int) == if weighsN h.type p = true then h.act1 else 0) && h.w1.all fun x => decide x.may))))) := by rw [hw]; subst_vars; simp only [Bool.and_assoc]
  rw [← hres]
  clear hres
  have HW := Lib.hid hw
  clear hw
  have K3 := Lib.hid h3
  clear h3
  have K4 := Lib.hid h4
  clear h4
  have K9 := Lib.hid h9
  clear h9
  have K10 := Lib.hid h10
  clear h10
  have K11 := Lib.hid h11
  clear h11
  have K19 := Lib.hid h19
  clear h19
  have K20 := Lib.hid h20
  clear h20
  have K21 := Lib.hid h21
  clear h21
  have K25 := Lib.hid h25
  clear h25
  have K26 := Lib.hid h26
  clear h26
  have K34 := Lib.hid h34
  clear h34
  have K35 := Lib.hid h35
  clear h35
  have K36 := Lib.hid h36
  clear h36
  have K40 := Lib.hid h40
  clear h40
  have K41 := Lib.hid h41
  clear h41
  obtain ⟨r1, r2, f0⟩ := two_boxes w #[.int .i64 s.wide, .int .i64 s.high, .int .i64 s.fbits, .int .i64 s.ptype, .int .i64 s.pbits, .int .i64 s.nonref, .slice sa s.cycle.length scap, .int .i64 s.refs, .int .i64 s.delay, .bool p.cabac, .bool p.weighted, .int .i64 p.bipred, .int .i64 p.qp, .int .i64 p.chroma, .bool p.constrained, .bool p.deblock, .int .i64 p.act0, .int .i64 p.act1, .int .i64 ref, .bool key] #[.int .i64 h.first, .int .i64 h.count, .int .i64 h.type, .int .i64 h.fnum, .int .i64 h.id, .int .i64 h.poc, .bool h.spatial, .int .i64 h.act0, .int .i64 h.act1, .slice m0 h.mods0.length m0c, .slice m1 h.mods1.length m1c, .int .i64 h.log, .int .i64 h.logc, .slice q0 h.w0.length q0c, .slice q1 h.w1.length q1c, .bool h.longkey, .slice os h.ops.length osc, .int .i64 h.qp, .bool h.off, .int .i64 h.a, .int .i64 h.b] 87 26
  have HB := Lib.hid (((Below.refl w.heap.size w).alloc (Nat.le_refl _) (.cells #[.int .i64 s.wide, .int .i64 s.high, .int .i64 s.fbits, .int .i64 s.ptype, .int .i64 s.pbits, .int .i64 s.nonref, .slice sa s.cycle.length scap, .int .i64 s.refs, .int .i64 s.delay, .bool p.cabac, .bool p.weighted, .int .i64 p.bipred, .int .i64 p.qp, .int .i64 p.chroma, .bool p.constrained, .bool p.deblock, .int .i64 p.act0, .int .i64 p.act1, .int .i64 ref, .bool key] 87)).alloc (by simp) (.cells #[.int .i64 h.first, .int .i64 h.count, .int .i64 h.type, .int .i64 h.fnum, .int .i64 h.id, .int .i64 h.poc, .bool h.spatial, .int .i64 h.act0, .int .i64 h.act1, .slice m0 h.mods0.length m0c, .slice m1 h.mods1.length m1c, .int .i64 h.log, .int .i64 h.logc, .slice q0 h.w0.length q0c, .slice q1 h.w1.length q1c, .bool h.longkey, .slice os h.ops.length osc, .int .i64 h.qp, .bool h.off, .int .i64 h.a, .int .i64 h.b] 26))
  have X := Lib.hid r1
  have Y := Lib.hid r2
  have HQ0O := Lib.hid HQ0
  have HQ1O := Lib.hid HQ1
  clear r1 r2 f0 HQ0 HQ1
  go_enter Tryz.func80, Tryz.ntmps80
  go_wp2_with (first | (refine wpList_load_mid rfl 87 (.tmp 2) rfl (w.heap.size) 0 rfl [.int .i64 s.wide, .int .i64 s.high, .int .i64 s.fbits, .int .i64 s.ptype, .int .i64 s.pbits, .int .i64 s.nonref, .slice sa s.cycle.length scap, .int .i64 s.refs, .int .i64 s.delay, .bool p.cabac, .bool p.weighted, .int .i64 p.bipred, .int .i64 p.qp, .int .i64 p.chroma, .bool p.constrained, .bool p.deblock, .int .i64 p.act0, .int .i64 p.act1, .int .i64 ref, .bool key] _ (fun j v hv => qcell (Below.refl _ _) X.out (0 + j) v (by rw [Nat.zero_add]; simpa using hv)) Tryz.underlying87 rfl (by kernel_rfl) ?_) | (refine wpList_load_mid rfl 26 (.tmp 3) rfl (w.heap.size + 1) 0 rfl [.int .i64 h.first, .int .i64 h.count, .int .i64 h.type, .int .i64 h.fnum, .int .i64 h.id, .int .i64 h.poc, .bool h.spatial, .int .i64 h.act0, .int .i64 h.act1, .slice m0 h.mods0.length m0c, .slice m1 h.mods1.length m1c, .int .i64 h.log, .int .i64 h.logc, .slice q0 h.w0.length q0c, .slice q1 h.w1.length q1c, .bool h.longkey, .slice os h.ops.length osc, .int .i64 h.qp, .bool h.off, .int .i64 h.a, .int .i64 h.b] _ (fun j v hv => qcell (Below.refl _ _) Y.out (0 + j) v (by rw [Nat.zero_add]; simpa using hv)) Tryz.underlying26 rfl (by kernel_rfl) ?_))
  refine (weighs_any _ s sa scap p ref key h m0 m1 q0 q1 os m0c m1c q0c q1c osc).mono ?_
  rintro e w' ⟨rfl, B⟩
  rw [HW.out]
  have IW := Lib.hid (show qI ((w.alloc (.cells #[.int .i64 s.wide, .int .i64 s.high, .int .i64 s.fbits, .int .i64 s.ptype, .int .i64 s.pbits, .int .i64 s.nonref, .slice sa s.cycle.length scap, .int .i64 s.refs, .int .i64 s.delay, .bool p.cabac, .bool p.weighted, .int .i64 p.bipred, .int .i64 p.qp, .int .i64 p.chroma, .bool p.constrained, .bool p.deblock, .int .i64 p.act0, .int .i64 p.act1, .int .i64 ref, .bool key] 87)).alloc (.cells #[.int .i64 h.first, .int .i64 h.count, .int .i64 h.type, .int .i64 h.fnum, .int .i64 h.id, .int .i64 h.poc, .bool h.spatial, .int .i64 h.act0, .int .i64 h.act1, .slice m0 h.mods0.length m0c, .slice m1 h.mods1.length m1c, .int .i64 h.log, .int .i64 h.logc, .slice q0 h.w0.length q0c, .slice q1 h.w1.length q1c, .bool h.longkey, .slice os h.ops.length osc, .int .i64 h.qp, .bool h.off, .int .i64 h.a, .int .i64 h.b] 26)) w' from B)
  clear B
  go_wp2_with fail
  refine wp_region_midst (ops := mw_ops) (qI ((w.alloc (.cells #[.int .i64 s.wide, .int .i64 s.high, .int .i64 s.fbits, .int .i64 s.ptype, .int .i64 s.pbits, .int .i64 s.nonref, .slice sa s.cycle.length scap, .int .i64 s.refs, .int .i64 s.delay, .bool p.cabac, .bool p.weighted, .int .i64 p.bipred, .int .i64 p.qp, .int .i64 p.chroma, .bool p.constrained, .bool p.deblock, .int .i64 p.act0, .int .i64 p.act1, .int .i64 ref, .bool key] 87)).alloc (.cells #[.int .i64 h.first, .int .i64 h.count, .int .i64 h.type, .int .i64 h.fnum, .int .i64 h.id, .int .i64 h.poc, .bool h.spatial, .int .i64 h.act0, .int .i64 h.act1, .slice m0 h.mods0.length m0c, .slice m1 h.mods1.length m1c, .int .i64 h.log, .int .i64 h.logc, .slice q0 h.w0.length q0c, .slice q1 h.w1.length q1c, .bool h.longkey, .slice os h.ops.length osc, .int .i64 h.qp, .bool h.off, .int .i64 h.a, .int .i64 h.b] 26))) (qV (mw_V w.heap.size (w.heap.size + 1) s sa scap p ref key h m0 m1 q0 q1 os m0c m1c q0c q1c osc wq x3 x4 x9 x10 x11 x19 x20 x21 x25 x26 x34 x35 x36 x40 x41)) (by kernel_rfl) (by kernel_rfl) ((IW.out).drew) (fun i hi => ?_) (fun a wz h => ?_)
  · match i, hi with | 0, _ => exact mw_s0 rfl | 1, _ => exact mw_s1 Y.out | 2, _ => exact mw_s2 rfl | 3, _ => exact mw_s3 K3.out | 4, _ => exact mw_s4 K4.out | 5, _ => exact mw_s5 | 6, _ => exact mw_s6 rfl | 7, _ => exact mw_s7 Y.out | 8, _ => exact mw_s8 rfl | 9, _ => exact mw_s9 K9.out | 10, _ => exact mw_s10 K10.out | 11, _ => exact mw_s11 K11.out | 12, _ => exact mw_s12 | 13, _ => exact mw_s13 rfl | 14, _ => exact mw_s14 Y.out | 15, _ => exact mw_s15 | 16, _ => exact mw_s16 rfl | 17, _ => exact mw_s17 rfl | 18, _ => exact mw_s18 Y.out | 19, _ => exact mw_s19 K19.out | 20, _ => exact mw_s20 K20.out | 21, _ => exact mw_s21 K21.out | 22, _ => exact mw_s22 | 23, _ => exact mw_s23 rfl | 24, _ => exact mw_s24 Y.out | 25, _ => exact mw_s25 (fun wr b => HQ0O.out wr ((HB.out).trans (b.mono (by simp; omega)))) K25.out | 26, _ => exact mw_s26 K26.out | 27, _ => exact mw_s27 | 28, _ => exact mw_s28 rfl | 29, _ => exact mw_s29 Y.out | 30, _ => exact mw_s30 | 31, _ => exact mw_s31 rfl | 32, _ => exact mw_s32 rfl | 33, _ => exact mw_s33 Y.out | 34, _ => exact mw_s34 K34.out | 35, _ => exact mw_s35 K35.out | 36, _ => exact mw_s36 K36.out | 37, _ => exact mw_s37 | 38, _ => exact mw_s38 rfl | 39, _ => exact mw_s39 Y.out | 40, _ => exact mw_s40 (fun wr b => HQ1O.out wr ((HB.out).trans (b.mono (by simp; omega)))) K40.out | 41, _ => exact mw_s41 K41.out | 42, _ => exact mw_s42 | k + 43, h => exact absurd h (by simp [mw_ops])
  · obtain ⟨v, t2, e2⟩ := h.get 42 4 (by kernel_rfl)
    have e3 := e2 (true, .bool x41) rfl
    rw [if_pos rfl] at e3
    subst e3
    have hd := h.defers
    have MF := h.inv
    clear h e2
    go_wp2_with fail
    refine bodyPost_ret (v := .bool x41) (by simp [results, Tryz.results80, go_sem, t2]) hd ⟨rfl, ?_⟩
    exact HB.out.trans (Below.mono MF (by simp; omega))

end Go.Proofs.YthcbgijmnonckaaGreat
