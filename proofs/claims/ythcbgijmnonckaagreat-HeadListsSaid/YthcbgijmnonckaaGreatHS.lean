/- Layer 4: the program's mayBegin as one call. -/
import Derived.Test.YthcbgijmnonckaaGreatHR
namespace Go.Proofs.YthcbgijmnonckaaGreat
open Go.RowKit Zo Zp
set_option linter.unusedVariables false

set_option maxRecDepth 100000 in
set_option maxHeartbeats 4000000 in
theorem mb_call (w : World) (s : SpsN) (sa : Option Addr) (scap : Nat) (p : PpsN) (ref : Int) (key : Bool) (h : HeadN) (m0 m1 q0 q1 os : Option Addr) (m0c m1c q0c q1c osc : Nat) (hw : 1 ≤ s.wide ∧ s.wide ≤ 8) (hh : 1 ≤ s.high ∧ s.high ≤ 8) (hf : 4 ≤ s.fbits ∧ s.fbits ≤ 8) (hp : 4 ≤ s.pbits ∧ s.pbits ≤ 8) : Calls Tryz.prog 76 #[.agg #[.int .i64 s.wide, .int .i64 s.high, .int .i64 s.fbits, .int .i64 s.ptype, .int .i64 s.pbits, .int .i64 s.nonref, .slice sa s.cycle.length scap, .int .i64 s.refs, .int .i64 s.delay, .bool p.cabac, .bool p.weighted, .int .i64 p.bipred, .int .i64 p.qp, .int .i64 p.chroma, .bool p.constrained, .bool p.deblock, .int .i64 p.act0, .int .i64 p.act1, .int .i64 ref, .bool key], .agg #[.int .i64 h.first, .int .i64 h.count, .int .i64 h.type, .int .i64 h.fnum, .int .i64 h.id, .int .i64 h.poc, .bool h.spatial, .int .i64 h.act0, .int .i64 h.act1, .slice m0 h.mods0.length m0c, .slice m1 h.mods1.length m1c, .int .i64 h.log, .int .i64 h.logc, .slice q0 h.w0.length q0c, .slice q1 h.w1.length q1c, .bool h.longkey, .slice os h.ops.length osc, .int .i64 h.qp, .bool h.off, .int .i64 h.a, .int .i64 h.b]] w fun e w' => e = .returned (.bool (inB h.first 0 (s.wide * s.high) && (inB h.count 1 (s.wide * s.high - h.first) && (inB h.type 0 2 && ((h.type == 2 || !key) && (inB h.fnum 0 (if (!key) = true then 2 ^ s.fbits.toNat - 1 else 0) && (inB h.id 0 (if key = true then 255 else 0) && (inB h.poc 0 (if (s.ptype == 0) = true then 2 ^ s.pbits.toNat - 1 else 0) && (h.type == 1 || !h.spatial))))))))) ∧ Below w.heap.size w w' := by
  obtain ⟨room, hr0⟩ : ∃ z, s.wide * s.high = z := ⟨_, rfl⟩
  have hr : 0 ≤ room ∧ room ≤ 64 := by
    rw [← hr0]
    exact ⟨Int.mul_nonneg (by omega) (by omega), Int.mul_le_mul hw.2 hh.2 (by omega) (by omega)⟩
  have hm : IntKind.i64.wrap (s.wide * s.high) = room := by
    rw [hr0, IntKind.wrap_i64]
    omega
  have HR := Lib.hid hr
  have HF := Lib.hid hf
  have HP := Lib.hid hp
  obtain ⟨x3, h3⟩ : ∃ b : Bool, b = ((inB h.first 0 room)) := ⟨_, rfl⟩
  obtain ⟨x10, h10⟩ : ∃ b : Int, b = ((room - h.first)) := ⟨_, rfl⟩
  obtain ⟨x11, h11⟩ : ∃ b : Bool, b = ((inB h.count 1 x10)) := ⟨_, rfl⟩
  obtain ⟨x12, h12⟩ : ∃ b : Bool, b = ((x3 && x11)) := ⟨_, rfl⟩
  obtain ⟨x16, h16⟩ : ∃ b : Bool, b = ((inB h.type 0 2)) := ⟨_, rfl⟩
  obtain ⟨x17, h17⟩ : ∃ b : Bool, b = ((x12 && x16)) := ⟨_, rfl⟩
  obtain ⟨x21, h21⟩ : ∃ b : Bool, b = ((h.type == 2)) := ⟨_, rfl⟩
  obtain ⟨x25, h25⟩ : ∃ b : Bool, b = ((!key)) := ⟨_, rfl⟩
  obtain ⟨x26, h26⟩ : ∃ b : Bool, b = ((x21 || x25)) := ⟨_, rfl⟩
  obtain ⟨x27, h27⟩ : ∃ b : Bool, b = ((x17 && x26)) := ⟨_, rfl⟩
  obtain ⟨x33, h33⟩ : ∃ b : Bool, b = ((!key)) := ⟨_, rfl⟩
  obtain ⟨x37, h37⟩ : ∃ b : Int, b = ((2 ^ s.fbits.toNat : Int)) := ⟨_, rfl⟩
  obtain ⟨x38, h38⟩ : ∃ b : Int, b = ((x37 - 1)) := ⟨_, rfl⟩
  obtain ⟨x39, h39⟩ : ∃ b : Int, b = ((if x33 = true then x38 else 0)) := ⟨_, rfl⟩
  obtain ⟨x40, h40⟩ : ∃ b : Bool, b = ((inB h.fnum 0 x39)) := ⟨_, rfl⟩
  obtain ⟨x41, h41⟩ : ∃ b : Bool, b = ((x27 && x40)) := ⟨_, rfl⟩
  obtain ⟨x47, h47⟩ : ∃ b : Int, b = ((if key = true then 255 else 0)) := ⟨_, rfl⟩
  obtain ⟨x48, h48⟩ : ∃ b : Bool, b = ((inB h.id 0 x47)) := ⟨_, rfl⟩
  obtain ⟨x49, h49⟩ : ∃ b : Bool, b = ((x41 && x48)) := ⟨_, rfl⟩
  obtain ⟨x56, h56⟩ : ∃ b : Bool, b = ((s.ptype == 0)) := ⟨_, rfl⟩
  obtain ⟨x60, h60⟩ : ∃ b : Int, b = ((2 ^ s.pbits.toNat : Int)) := ⟨_, rfl⟩
  obtain ⟨x61, h61⟩ : ∃ b : Int, b = ((x60 - 1)) := ⟨_, rfl⟩
  obtain ⟨x62, h62⟩ : ∃ b : Int, b = ((if x56 = true then x61 else 0)) := ⟨_, rfl⟩
  obtain ⟨x63, h63⟩ : ∃ b : Bool, b = ((inB h.poc 0 x62)) := ⟨_, rfl⟩
  obtain ⟨x64, h64⟩ : ∃ b : Bool, b = ((x49 && x63)) := ⟨_, rfl⟩
  obtain ⟨x68, h68⟩ : ∃ b : Bool, b = ((h.type == 1)) := ⟨_, rfl⟩
  obtain ⟨x72, h72⟩ : ∃ b : Bool, b = ((!h.spatial)) := ⟨_, rfl⟩
  obtain ⟨x73, h73⟩ : ∃ b : Bool, b = ((x68 || x72)) := ⟨_, rfl⟩
  obtain ⟨x74, h74⟩ : ∃ b : Bool, b = ((x64 && x73)) := ⟨_, rfl⟩
  have hres : x74 = (inB h.first 0 (s.wide * s.high) && (inB h.count 1 (s.wide * s.high - h.first) && (inB h.type 0 2 && ((h.type == 2 || !key) && (inB h.fnum 0 (if (!key) = true then 2 ^ s.fbits.toNat - 1 else 0) && (inB h.id 0 (if key = true then 255 else 0) && (inB h.poc 0 (if (s.ptype == 0) = true then 2 ^ s.pbits.toNat - 1 else 0) && (h.type == 1 || !h.spatial)))))))) := by subst_vars; simp only [Bool.and_assoc]
  rw [← hres]
  clear hres
  clear hr hr0 hw hh hf hp
  have K3 := Lib.hid h3
  clear h3
  have K10 := Lib.hid h10
  clear h10
  have K11 := Lib.hid h11
  clear h11
  have K12 := Lib.hid h12
  clear h12
  have K16 := Lib.hid h16
  clear h16
  have K17 := Lib.hid h17
  clear h17
  have K21 := Lib.hid h21
  clear h21
  have K25 := Lib.hid h25
  clear h25
  have K26 := Lib.hid h26
  clear h26
  have K27 := Lib.hid h27
  clear h27
  have K33 := Lib.hid h33
  clear h33
  have K37 := Lib.hid h37
  clear h37
  have K38 := Lib.hid h38
  clear h38
  have K39 := Lib.hid h39
  clear h39
  have K40 := Lib.hid h40
  clear h40
  have K41 := Lib.hid h41
  clear h41
  have K47 := Lib.hid h47
  clear h47
  have K48 := Lib.hid h48
  clear h48
  have K49 := Lib.hid h49
  clear h49
  have K56 := Lib.hid h56
  clear h56
  have K60 := Lib.hid h60
  clear h60
  have K61 := Lib.hid h61
  clear h61
  have K62 := Lib.hid h62
  clear h62
  have K63 := Lib.hid h63
  clear h63
  have K64 := Lib.hid h64
  clear h64
  have K68 := Lib.hid h68
  clear h68
  have K72 := Lib.hid h72
  clear h72
  have K73 := Lib.hid h73
  clear h73
  have K74 := Lib.hid h74
  clear h74
  obtain ⟨r1, r2, f0⟩ := two_boxes w #[.int .i64 s.wide, .int .i64 s.high, .int .i64 s.fbits, .int .i64 s.ptype, .int .i64 s.pbits, .int .i64 s.nonref, .slice sa s.cycle.length scap, .int .i64 s.refs, .int .i64 s.delay, .bool p.cabac, .bool p.weighted, .int .i64 p.bipred, .int .i64 p.qp, .int .i64 p.chroma, .bool p.constrained, .bool p.deblock, .int .i64 p.act0, .int .i64 p.act1, .int .i64 ref, .bool key] #[.int .i64 h.first, .int .i64 h.count, .int .i64 h.type, .int .i64 h.fnum, .int .i64 h.id, .int .i64 h.poc, .bool h.spatial, .int .i64 h.act0, .int .i64 h.act1, .slice m0 h.mods0.length m0c, .slice m1 h.mods1.length m1c, .int .i64 h.log, .int .i64 h.logc, .slice q0 h.w0.length q0c, .slice q1 h.w1.length q1c, .bool h.longkey, .slice os h.ops.length osc, .int .i64 h.qp, .bool h.off, .int .i64 h.a, .int .i64 h.b] 87 26
  have HB := Lib.hid (((Below.refl w.heap.size w).alloc (Nat.le_refl _) (.cells #[.int .i64 s.wide, .int .i64 s.high, .int .i64 s.fbits, .int .i64 s.ptype, .int .i64 s.pbits, .int .i64 s.nonref, .slice sa s.cycle.length scap, .int .i64 s.refs, .int .i64 s.delay, .bool p.cabac, .bool p.weighted, .int .i64 p.bipred, .int .i64 p.qp, .int .i64 p.chroma, .bool p.constrained, .bool p.deblock, .int .i64 p.act0, .int .i64 p.act1, .int .i64 ref, .bool key] 87)).alloc (by simp) (.cells #[.int .i64 h.first, .int .i64 h.count, .int .i64 h.type, .int .i64 h.fnum, .int .i64 h.id, .int .i64 h.poc, .bool h.spatial, .int .i64 h.act0, .int .i64 h.act1, .slice m0 h.mods0.length m0c, .slice m1 h.mods1.length m1c, .int .i64 h.log, .int .i64 h.logc, .slice q0 h.w0.length q0c, .slice q1 h.w1.length q1c, .bool h.longkey, .slice os h.ops.length osc, .int .i64 h.qp, .bool h.off, .int .i64 h.a, .int .i64 h.b] 26))
  have X := Lib.hid r1
  have Y := Lib.hid r2
  clear r1 r2 f0
  go_enter Tryz.func76, Tryz.ntmps76
  go_wp2_with fail
  refine wp_region_midst (ops := mb_ops) (qI ((w.alloc (.cells #[.int .i64 s.wide, .int .i64 s.high, .int .i64 s.fbits, .int .i64 s.ptype, .int .i64 s.pbits, .int .i64 s.nonref, .slice sa s.cycle.length scap, .int .i64 s.refs, .int .i64 s.delay, .bool p.cabac, .bool p.weighted, .int .i64 p.bipred, .int .i64 p.qp, .int .i64 p.chroma, .bool p.constrained, .bool p.deblock, .int .i64 p.act0, .int .i64 p.act1, .int .i64 ref, .bool key] 87)).alloc (.cells #[.int .i64 h.first, .int .i64 h.count, .int .i64 h.type, .int .i64 h.fnum, .int .i64 h.id, .int .i64 h.poc, .bool h.spatial, .int .i64 h.act0, .int .i64 h.act1, .slice m0 h.mods0.length m0c, .slice m1 h.mods1.length m1c, .int .i64 h.log, .int .i64 h.logc, .slice q0 h.w0.length q0c, .slice q1 h.w1.length q1c, .bool h.longkey, .slice os h.ops.length osc, .int .i64 h.qp, .bool h.off, .int .i64 h.a, .int .i64 h.b] 26))) (qV (mb_V w.heap.size (w.heap.size + 1) s sa scap p ref key h m0 m1 q0 q1 os m0c m1c q0c q1c osc room x3 x10 x11 x12 x16 x17 x21 x25 x26 x27 x33 x37 x38 x39 x40 x41 x47 x48 x49 x56 x60 x61 x62 x63 x64 x68 x72 x73 x74)) (by kernel_rfl) (by kernel_rfl) ((Below.refl _ _).drew) (fun i hi => ?_) (fun a wz h => ?_)
  · match i, hi with | 0, _ => exact mb_s0 rfl | 1, _ => exact mb_s1 Y.out | 2, _ => exact mb_s2 rfl | 3, _ => exact mb_s3 K3.out | 4, _ => exact mb_s4 | 5, _ => exact mb_s5 rfl | 6, _ => exact mb_s6 Y.out | 7, _ => exact mb_s7 rfl | 8, _ => exact mb_s8 rfl | 9, _ => exact mb_s9 Y.out | 10, _ => exact mb_s10 K10.out K3.out HR.out | 11, _ => exact mb_s11 K11.out | 12, _ => exact mb_s12 K12.out | 13, _ => exact mb_s13 | 14, _ => exact mb_s14 rfl | 15, _ => exact mb_s15 Y.out | 16, _ => exact mb_s16 K16.out | 17, _ => exact mb_s17 K17.out | 18, _ => exact mb_s18 | 19, _ => exact mb_s19 rfl | 20, _ => exact mb_s20 Y.out | 21, _ => exact mb_s21 K21.out | 22, _ => exact mb_s22 | 23, _ => exact mb_s23 rfl | 24, _ => exact mb_s24 X.out | 25, _ => exact mb_s25 K25.out | 26, _ => exact mb_s26 K26.out | 27, _ => exact mb_s27 K27.out | 28, _ => exact mb_s28 | 29, _ => exact mb_s29 rfl | 30, _ => exact mb_s30 Y.out | 31, _ => exact mb_s31 rfl | 32, _ => exact mb_s32 X.out | 33, _ => exact mb_s33 K33.out | 34, _ => exact mb_s34 rfl | 35, _ => exact mb_s35 | 36, _ => exact mb_s36 X.out | 37, _ => exact mb_s37 K37.out HF.out | 38, _ => exact mb_s38 K38.out HF.out K37.out | 39, _ => exact mb_s39 K39.out | 40, _ => exact mb_s40 K40.out | 41, _ => exact mb_s41 K41.out | 42, _ => exact mb_s42 | 43, _ => exact mb_s43 rfl | 44, _ => exact mb_s44 Y.out | 45, _ => exact mb_s45 rfl | 46, _ => exact mb_s46 X.out | 47, _ => exact mb_s47 K47.out | 48, _ => exact mb_s48 K48.out | 49, _ => exact mb_s49 K49.out | 50, _ => exact mb_s50 | 51, _ => exact mb_s51 rfl | 52, _ => exact mb_s52 Y.out | 53, _ => exact mb_s53 rfl | 54, _ => exact mb_s54 | 55, _ => exact mb_s55 X.out | 56, _ => exact mb_s56 K56.out | 57, _ => exact mb_s57 rfl | 58, _ => exact mb_s58 | 59, _ => exact mb_s59 X.out | 60, _ => exact mb_s60 K60.out HP.out | 61, _ => exact mb_s61 K61.out HP.out K60.out | 62, _ => exact mb_s62 K62.out | 63, _ => exact mb_s63 K63.out | 64, _ => exact mb_s64 K64.out | 65, _ => exact mb_s65 | 66, _ => exact mb_s66 rfl | 67, _ => exact mb_s67 Y.out | 68, _ => exact mb_s68 K68.out | 69, _ => exact mb_s69 | 70, _ => exact mb_s70 rfl | 71, _ => exact mb_s71 Y.out | 72, _ => exact mb_s72 K72.out | 73, _ => exact mb_s73 K73.out | 74, _ => exact mb_s74 K74.out | 75, _ => exact mb_s75 | k + 76, h => exact absurd h (by simp [mb_ops])
  · obtain ⟨v, t2, e2⟩ := h.get 75 4 (by kernel_rfl)
    have e3 := e2 (true, .bool x74) rfl
    rw [if_pos rfl] at e3
    subst e3
    have hd := h.defers
    have MF := h.inv
    clear h e2
    go_wp2_with fail
    refine bodyPost_ret (v := .bool x74) (by simp [results, Tryz.results76, go_sem, t2]) hd ⟨rfl, ?_⟩
    exact HB.out.trans (Below.mono MF (by simp; omega))

end Go.Proofs.YthcbgijmnonckaaGreat
