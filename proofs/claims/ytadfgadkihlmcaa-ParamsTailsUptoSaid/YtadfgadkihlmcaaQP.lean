/- Layer 3: how the program's getters end, told that its ranges answer as they should. -/
import Derived.Test.YtadfgadkihlmcaaQO
namespace Go.Proofs.Ytadfgadkihlmcaa
open Go.RowKit Zo Zp

theorem pTrail3 (w : World) (base b rb : Nat) (s : ByteArray) (p : Nat) (h : PRd w base b rb s (some p)) (hs : s.size ≤ 1048576) {q : Nat} (hq : IsPast (bitAt s) (8 * s.size) q) :
    Calls Try.prog 69 #[.pointer (some ⟨rb, 0, none⟩)] w fun e w' => e = .returned (.int .i64 (if Trails (bitAt s) (8 * s.size) p then 0 else 101)) ∧ Fr (fun k => k = rb) w w' := by
  obtain ⟨_, _, p0, hp, hpq⟩ := h
  obtain rfl := hpq p rfl
  have hple := hp.block.2.2
  refine (trailR_any w base rb s p0 q hp hq (by omega)).mono ?_
  rintro e w' ⟨rfl, r⟩
  refine ⟨?_, r.2⟩
  have ht := trails_q (by omega) (fun i hi => Go.Proofs.Ytadfgadkihlmcaa.bitAt_end s i hi) hq hple
  by_cases hc : p0 + 1 = q ∧ 8 * s.size - p0 ≤ 8
  · rw [if_pos hc, if_pos (ht.1 hc)]
  · rw [if_neg hc, if_neg (fun h => hc (ht.2 h))]

theorem three_boxes (w : World) (c1 c2 c3 : Array Value) (t : TypeId) :
    (((w.alloc (.cells c1 t)).alloc (.cells c2 t)).alloc (.cells c3 t)).heap[w.heap.size]? = some (.cells c1 t (0, 0)) ∧ (((w.alloc (.cells c1 t)).alloc (.cells c2 t)).alloc (.cells c3 t)).heap[w.heap.size + 1]? = some (.cells c2 t (0, 0)) ∧
      (((w.alloc (.cells c1 t)).alloc (.cells c2 t)).alloc (.cells c3 t)).heap[w.heap.size + 2]? = some (.cells c3 t (0, 0)) ∧ Fr (fun _ => False) w (((w.alloc (.cells c1 t)).alloc (.cells c2 t)).alloc (.cells c3 t)) := by
  have e1 : (w.alloc (.cells c1 t)).heap.size = w.heap.size + 1 := by simp
  have e2 : ((w.alloc (.cells c1 t)).alloc (.cells c2 t)).heap.size = w.heap.size + 2 := by simp
  have r2 := heap_alloc_last (w.alloc (.cells c1 t)) (.cells c2 t)
  have r3 := heap_alloc_last ((w.alloc (.cells c1 t)).alloc (.cells c2 t)) (.cells c3 t)
  rw [e1] at r2
  rw [e2] at r3
  refine ⟨?_, ?_, r3, (((Fr.refl _ _).alloc _).alloc _).alloc _⟩
  · rw [heap_alloc_other (by simp; omega), heap_alloc_other (by simp)]
    exact heap_alloc_last _ _
  · rw [heap_alloc_other (by simp)]
    exact r2

set_option maxRecDepth 100000 in
set_option maxHeartbeats 4000000 in
theorem endedPpsNone (w : World) (base b rb : Nat) (s : ByteArray) (cabac weighted : Bool) (bipred qp chroma : Int) (constrained deblock : Bool) (act0 act1 : Int) (h : PRd w base b rb s none) :
    Calls Try.prog 57 #[.pointer (some ⟨b, 0, none⟩), .agg #[.bool cabac, .bool weighted, .int .i64 bipred, .int .i64 qp, .int .i64 chroma, .bool constrained, .bool deblock, .int .i64 act0, .int .i64 act1], .func (.func 26) #[] #[]] w fun e w' => e = .returned (.tuple #[.agg #[.bool false, .bool false, .int .i64 0, .int .i64 0, .int .i64 0, .bool false, .bool false, .int .i64 0, .int .i64 0], .int .i64 300]) ∧ Fr (fun k => k = rb) w w' := by
  obtain ⟨x1, x2, x3, f0⟩ := three_boxes w #[.bool cabac, .bool weighted, .int .i64 bipred, .int .i64 qp, .int .i64 chroma, .bool constrained, .bool deblock, .int .i64 act0, .int .i64 act1] #[.bool false, .bool false, .int .i64 0, .int .i64 0, .int .i64 0, .bool false, .bool false, .int .i64 0, .int .i64 0] #[.bool false, .bool false, .int .i64 0, .int .i64 0, .int .i64 0, .bool false, .bool false, .int .i64 0, .int .i64 0] 43
  have hr := h.keep f0 (fun e => e) (fun e => e)
  obtain ⟨r0, r1, _⟩ := prd_cells hr
  simp only [Option.isNone_none] at r1
  have X2 := Lib.hid x2
  have F0 := Lib.hid f0
  have y0 := cell_of_row _ (w.heap.size + 2) 0 _ _ _ x3
  have y1 := cell_of_row _ (w.heap.size + 2) 1 _ _ _ x3
  have y2 := cell_of_row _ (w.heap.size + 2) 2 _ _ _ x3
  have y3 := cell_of_row _ (w.heap.size + 2) 3 _ _ _ x3
  have y4 := cell_of_row _ (w.heap.size + 2) 4 _ _ _ x3
  have y5 := cell_of_row _ (w.heap.size + 2) 5 _ _ _ x3
  have y6 := cell_of_row _ (w.heap.size + 2) 6 _ _ _ x3
  have y7 := cell_of_row _ (w.heap.size + 2) 7 _ _ _ x3
  have y8 := cell_of_row _ (w.heap.size + 2) 8 _ _ _ x3
  simp at y0 y1 y2 y3 y4 y5 y6 y7 y8
  clear x1 x2 x3 f0 h hr
  go_enter Try.func57, Try.ntmps57
  go_wp2_with (refine wpList_store_whole rfl 43 (.tmp 6) (.tmp 21) rfl (w.heap.size + 1) #[.bool false, .bool false, .int .i64 0, .int .i64 0, .int .i64 0, .bool false, .bool false, .int .i64 0, .int .i64 0] ?_ ?_ 43 _ X2.out ?_ ?_ ?_ ?_; rfl; rfl; kernel_rfl; rfl; (simp [Value.oneCell']); intro wz hz fz)
  have z0 := cell_of_row _ (w.heap.size + 1) 0 _ _ _ hz
  have z1 := cell_of_row _ (w.heap.size + 1) 1 _ _ _ hz
  have z2 := cell_of_row _ (w.heap.size + 1) 2 _ _ _ hz
  have z3 := cell_of_row _ (w.heap.size + 1) 3 _ _ _ hz
  have z4 := cell_of_row _ (w.heap.size + 1) 4 _ _ _ hz
  have z5 := cell_of_row _ (w.heap.size + 1) 5 _ _ _ hz
  have z6 := cell_of_row _ (w.heap.size + 1) 6 _ _ _ hz
  have z7 := cell_of_row _ (w.heap.size + 1) 7 _ _ _ hz
  have z8 := cell_of_row _ (w.heap.size + 1) 8 _ _ _ hz
  simp at z0 z1 z2 z3 z4 z5 z6 z7 z8
  refine bodyPost_ret (v := .tuple #[.agg #[.bool false, .bool false, .int .i64 0, .int .i64 0, .int .i64 0, .bool false, .bool false, .int .i64 0, .int .i64 0], .int .i64 300]) (by simp [results, Try.results57, go_sem, z0, z1, z2, z3, z4, z5, z6, z7, z8]) rfl ⟨rfl, ?_⟩
  exact (F0.out.mono (T := fun k => k = rb) (fun _ _ h => h.elim)).trans fz (fun i hi e => by omega)

set_option maxRecDepth 100000 in
set_option maxHeartbeats 4000000 in
theorem endedPpsForm (w : World) (base b rb : Nat) (s : ByteArray) (cabac weighted : Bool) (bipred qp chroma : Int) (constrained deblock : Bool) (act0 act1 : Int) (p q : Nat) (h : PRd w base b rb s (some p)) (hs : s.size ≤ 1048576) (hq : IsPast (bitAt s) (8 * s.size) q) (ht : ¬ Trails (bitAt s) (8 * s.size) p) :
    Calls Try.prog 57 #[.pointer (some ⟨b, 0, none⟩), .agg #[.bool cabac, .bool weighted, .int .i64 bipred, .int .i64 qp, .int .i64 chroma, .bool constrained, .bool deblock, .int .i64 act0, .int .i64 act1], .func (.func 26) #[] #[]] w fun e w' => e = .returned (.tuple #[.agg #[.bool false, .bool false, .int .i64 0, .int .i64 0, .int .i64 0, .bool false, .bool false, .int .i64 0, .int .i64 0], .int .i64 300]) ∧ Fr (fun k => k = rb) w w' := by
  obtain ⟨x1, x2, x3, f0⟩ := three_boxes w #[.bool cabac, .bool weighted, .int .i64 bipred, .int .i64 qp, .int .i64 chroma, .bool constrained, .bool deblock, .int .i64 act0, .int .i64 act1] #[.bool false, .bool false, .int .i64 0, .int .i64 0, .int .i64 0, .bool false, .bool false, .int .i64 0, .int .i64 0] #[.bool false, .bool false, .int .i64 0, .int .i64 0, .int .i64 0, .bool false, .bool false, .int .i64 0, .int .i64 0] 43
  have hr := h.keep f0 (fun e => e) (fun e => e)
  obtain ⟨r0, r1, _⟩ := prd_cells hr
  simp only [Option.isNone_some] at r1
  have htr := pTrail3 _ base b rb s p hr hs hq
  rw [if_neg ht] at htr
  obtain ⟨⟨rc, hrc⟩, _⟩ : (∃ cs, ((((w.alloc (.cells #[.bool cabac, .bool weighted, .int .i64 bipred, .int .i64 qp, .int .i64 chroma, .bool constrained, .bool deblock, .int .i64 act0, .int .i64 act1] 43)).alloc (.cells #[.bool false, .bool false, .int .i64 0, .int .i64 0, .int .i64 0, .bool false, .bool false, .int .i64 0, .int .i64 0] 43)).alloc (.cells #[.bool false, .bool false, .int .i64 0, .int .i64 0, .int .i64 0, .bool false, .bool false, .int .i64 0, .int .i64 0] 43))).heap[rb]? = some (.cells cs 116 (0,0))) ∧ True := by
    obtain ⟨_, _, p0, hp, _⟩ := hr
    exact ⟨hp.block.1, trivial⟩
  have HTR := Lib.hid htr
  have X1 := Lib.hid x1
  have X2 := Lib.hid x2
  have X3 := Lib.hid x3
  have F0 := Lib.hid f0
  have RC := Lib.hid hrc
  clear x1 x2 x3 f0 h hr htr ht hrc
  go_enter Try.func57, Try.ntmps57
  go_wp2_with fail
  refine HTR.out.mono ?_
  rintro e wt ⟨rfl, ft⟩
  have y1_ := (ft.block _ (row_lt X1.out) (fun e => ne_of_type X1.out RC.out (by decide) e)).trans X1.out
  have y2_ := (ft.block _ (row_lt X2.out) (fun e => ne_of_type X2.out RC.out (by decide) e)).trans X2.out
  have y3_ := (ft.block _ (row_lt X3.out) (fun e => ne_of_type X3.out RC.out (by decide) e)).trans X3.out
  have FT : Hid (Fr (fun k => k = rb) w wt) := (F0.out.mono (fun _ _ h => h.elim)).trans ft (fun i hi e => e)
  have y0 := cell_of_row _ (w.heap.size + 2) 0 _ _ _ y3_
  have y1 := cell_of_row _ (w.heap.size + 2) 1 _ _ _ y3_
  have y2 := cell_of_row _ (w.heap.size + 2) 2 _ _ _ y3_
  have y3 := cell_of_row _ (w.heap.size + 2) 3 _ _ _ y3_
  have y4 := cell_of_row _ (w.heap.size + 2) 4 _ _ _ y3_
  have y5 := cell_of_row _ (w.heap.size + 2) 5 _ _ _ y3_
  have y6 := cell_of_row _ (w.heap.size + 2) 6 _ _ _ y3_
  have y7 := cell_of_row _ (w.heap.size + 2) 7 _ _ _ y3_
  have y8 := cell_of_row _ (w.heap.size + 2) 8 _ _ _ y3_
  simp at y0 y1 y2 y3 y4 y5 y6 y7 y8
  have Y2 := Lib.hid y2_
  clear y1_ y2_ y3_ ft r0 r1
  go_wp2_with (refine wpList_store_whole rfl 43 (.tmp 6) (.tmp 21) rfl (w.heap.size + 1) #[.bool false, .bool false, .int .i64 0, .int .i64 0, .int .i64 0, .bool false, .bool false, .int .i64 0, .int .i64 0] ?_ ?_ 43 _ Y2.out ?_ ?_ ?_ ?_; rfl; rfl; kernel_rfl; rfl; (simp [Value.oneCell']); intro wz hz fz)
  have z0 := cell_of_row _ (w.heap.size + 1) 0 _ _ _ hz
  have z1 := cell_of_row _ (w.heap.size + 1) 1 _ _ _ hz
  have z2 := cell_of_row _ (w.heap.size + 1) 2 _ _ _ hz
  have z3 := cell_of_row _ (w.heap.size + 1) 3 _ _ _ hz
  have z4 := cell_of_row _ (w.heap.size + 1) 4 _ _ _ hz
  have z5 := cell_of_row _ (w.heap.size + 1) 5 _ _ _ hz
  have z6 := cell_of_row _ (w.heap.size + 1) 6 _ _ _ hz
  have z7 := cell_of_row _ (w.heap.size + 1) 7 _ _ _ hz
  have z8 := cell_of_row _ (w.heap.size + 1) 8 _ _ _ hz
  simp at z0 z1 z2 z3 z4 z5 z6 z7 z8
  refine bodyPost_ret (v := .tuple #[.agg #[.bool false, .bool false, .int .i64 0, .int .i64 0, .int .i64 0, .bool false, .bool false, .int .i64 0, .int .i64 0], .int .i64 300]) (by simp [results, Try.results57, go_sem, z0, z1, z2, z3, z4, z5, z6, z7, z8]) rfl ⟨rfl, ?_⟩
  exact FT.out.trans fz (fun i hi e => by omega)

set_option maxRecDepth 100000 in
set_option maxHeartbeats 4000000 in
theorem endedPpsRange (w : World) (base b rb : Nat) (s : ByteArray) (cabac weighted : Bool) (bipred qp chroma : Int) (constrained deblock : Bool) (act0 act1 : Int) (HM : MayPpsOk) (p q : Nat) (h : PRd w base b rb s (some p)) (hs : s.size ≤ 1048576) (hq : IsPast (bitAt s) (8 * s.size) q) (ht : Trails (bitAt s) (8 * s.size) p) (hm : ¬ PpsN.may ⟨cabac, weighted, bipred, qp, chroma, constrained, deblock, act0, act1⟩) :
    Calls Try.prog 57 #[.pointer (some ⟨b, 0, none⟩), .agg #[.bool cabac, .bool weighted, .int .i64 bipred, .int .i64 qp, .int .i64 chroma, .bool constrained, .bool deblock, .int .i64 act0, .int .i64 act1], .func (.func 26) #[] #[]] w fun e w' => e = .returned (.tuple #[.agg #[.bool false, .bool false, .int .i64 0, .int .i64 0, .int .i64 0, .bool false, .bool false, .int .i64 0, .int .i64 0], .int .i64 301]) ∧ Fr (fun k => k = rb) w w' := by
  obtain ⟨x1, x2, x3, f0⟩ := three_boxes w #[.bool cabac, .bool weighted, .int .i64 bipred, .int .i64 qp, .int .i64 chroma, .bool constrained, .bool deblock, .int .i64 act0, .int .i64 act1] #[.bool false, .bool false, .int .i64 0, .int .i64 0, .int .i64 0, .bool false, .bool false, .int .i64 0, .int .i64 0] #[.bool false, .bool false, .int .i64 0, .int .i64 0, .int .i64 0, .bool false, .bool false, .int .i64 0, .int .i64 0] 43
  have hm2 := decide_eq_false hm
  have HMM : Hid (∀ w1, Calls Try.prog 26 #[.agg #[.bool cabac, .bool weighted, .int .i64 bipred, .int .i64 qp, .int .i64 chroma, .bool constrained, .bool deblock, .int .i64 act0, .int .i64 act1]] w1 fun e w' => e = .returned (.bool false) ∧ Below w1.heap.size w1 w') := fun w1 => by
    have := HM ⟨cabac, weighted, bipred, qp, chroma, constrained, deblock, act0, act1⟩ w1
    rwa [hm2] at this
  clear hm hm2 HM
  have hr := h.keep f0 (fun e => e) (fun e => e)
  obtain ⟨r0, r1, _⟩ := prd_cells hr
  simp only [Option.isNone_some] at r1
  have htr := pTrail3 _ base b rb s p hr hs hq
  rw [if_pos ht] at htr
  obtain ⟨⟨rc, hrc⟩, _⟩ : (∃ cs, ((((w.alloc (.cells #[.bool cabac, .bool weighted, .int .i64 bipred, .int .i64 qp, .int .i64 chroma, .bool constrained, .bool deblock, .int .i64 act0, .int .i64 act1] 43)).alloc (.cells #[.bool false, .bool false, .int .i64 0, .int .i64 0, .int .i64 0, .bool false, .bool false, .int .i64 0, .int .i64 0] 43)).alloc (.cells #[.bool false, .bool false, .int .i64 0, .int .i64 0, .int .i64 0, .bool false, .bool false, .int .i64 0, .int .i64 0] 43))).heap[rb]? = some (.cells cs 116 (0,0))) ∧ True := by
    obtain ⟨_, _, p0, hp, _⟩ := hr
    exact ⟨hp.block.1, trivial⟩
  have HTR := Lib.hid htr
  have X1 := Lib.hid x1
  have X2 := Lib.hid x2
  have X3 := Lib.hid x3
  have F0 := Lib.hid f0
  have RC := Lib.hid hrc
  clear x1 x2 x3 f0 h hr htr ht hrc
  go_enter Try.func57, Try.ntmps57
  go_wp2_with fail
  refine HTR.out.mono ?_
  rintro e wt ⟨rfl, ft⟩
  have y1_ := (ft.block _ (row_lt X1.out) (fun e => ne_of_type X1.out RC.out (by decide) e)).trans X1.out
  have y2_ := (ft.block _ (row_lt X2.out) (fun e => ne_of_type X2.out RC.out (by decide) e)).trans X2.out
  have y3_ := (ft.block _ (row_lt X3.out) (fun e => ne_of_type X3.out RC.out (by decide) e)).trans X3.out
  have FT : Hid (Fr (fun k => k = rb) w wt) := (F0.out.mono (fun _ _ h => h.elim)).trans ft (fun i hi e => e)
  have u0 := cell_of_row _ w.heap.size 0 _ _ _ y1_
  have u1 := cell_of_row _ w.heap.size 1 _ _ _ y1_
  have u2 := cell_of_row _ w.heap.size 2 _ _ _ y1_
  have u3 := cell_of_row _ w.heap.size 3 _ _ _ y1_
  have u4 := cell_of_row _ w.heap.size 4 _ _ _ y1_
  have u5 := cell_of_row _ w.heap.size 5 _ _ _ y1_
  have u6 := cell_of_row _ w.heap.size 6 _ _ _ y1_
  have u7 := cell_of_row _ w.heap.size 7 _ _ _ y1_
  have u8 := cell_of_row _ w.heap.size 8 _ _ _ y1_
  simp at u0 u1 u2 u3 u4 u5 u6 u7 u8
  have Y1 := Lib.hid y1_
  have Y2 := Lib.hid y2_
  have Y3 := Lib.hid y3_
  clear y1_ y2_ y3_ ft r0 r1
  go_wp2_with fail
  refine (HMM.out _).mono ?_
  rintro e wm ⟨rfl, bm⟩
  have v1_ := (bm.block _ (row_lt Y1.out)).trans Y1.out
  have v2_ := (bm.block _ (row_lt Y2.out)).trans Y2.out
  have v3_ := (bm.block _ (row_lt Y3.out)).trans Y3.out
  have FM : Hid (Fr (fun k => k = rb) w wm) := FT.out.trans (Fr.of_below (S := fun k => k = rb) bm) (fun i hi e => e)
  clear bm u0 u1 u2 u3 u4 u5 u6 u7 u8
  have y0 := cell_of_row _ (w.heap.size + 2) 0 _ _ _ v3_
  have y1 := cell_of_row _ (w.heap.size + 2) 1 _ _ _ v3_
  have y2 := cell_of_row _ (w.heap.size + 2) 2 _ _ _ v3_
  have y3 := cell_of_row _ (w.heap.size + 2) 3 _ _ _ v3_
  have y4 := cell_of_row _ (w.heap.size + 2) 4 _ _ _ v3_
  have y5 := cell_of_row _ (w.heap.size + 2) 5 _ _ _ v3_
  have y6 := cell_of_row _ (w.heap.size + 2) 6 _ _ _ v3_
  have y7 := cell_of_row _ (w.heap.size + 2) 7 _ _ _ v3_
  have y8 := cell_of_row _ (w.heap.size + 2) 8 _ _ _ v3_
  simp at y0 y1 y2 y3 y4 y5 y6 y7 y8
  have V2 := Lib.hid v2_
  clear v1_ v2_ v3_
  go_wp2_with (refine wpList_store_whole rfl 43 (.tmp 6) (.tmp 26) rfl (w.heap.size + 1) #[.bool false, .bool false, .int .i64 0, .int .i64 0, .int .i64 0, .bool false, .bool false, .int .i64 0, .int .i64 0] ?_ ?_ 43 _ V2.out ?_ ?_ ?_ ?_; rfl; rfl; kernel_rfl; rfl; (simp [Value.oneCell']); intro wz hz fz)
  have z0 := cell_of_row _ (w.heap.size + 1) 0 _ _ _ hz
  have z1 := cell_of_row _ (w.heap.size + 1) 1 _ _ _ hz
  have z2 := cell_of_row _ (w.heap.size + 1) 2 _ _ _ hz
  have z3 := cell_of_row _ (w.heap.size + 1) 3 _ _ _ hz
  have z4 := cell_of_row _ (w.heap.size + 1) 4 _ _ _ hz
  have z5 := cell_of_row _ (w.heap.size + 1) 5 _ _ _ hz
  have z6 := cell_of_row _ (w.heap.size + 1) 6 _ _ _ hz
  have z7 := cell_of_row _ (w.heap.size + 1) 7 _ _ _ hz
  have z8 := cell_of_row _ (w.heap.size + 1) 8 _ _ _ hz
  simp at z0 z1 z2 z3 z4 z5 z6 z7 z8
  refine bodyPost_ret (v := .tuple #[.agg #[.bool false, .bool false, .int .i64 0, .int .i64 0, .int .i64 0, .bool false, .bool false, .int .i64 0, .int .i64 0], .int .i64 301]) (by simp [results, Try.results57, go_sem, z0, z1, z2, z3, z4, z5, z6, z7, z8]) rfl ⟨rfl, ?_⟩
  exact FM.out.trans fz (fun i hi e => by omega)

set_option maxRecDepth 100000 in
set_option maxHeartbeats 4000000 in
theorem endedPpsFine (w : World) (base b rb : Nat) (s : ByteArray) (cabac weighted : Bool) (bipred qp chroma : Int) (constrained deblock : Bool) (act0 act1 : Int) (HM : MayPpsOk) (p q : Nat) (h : PRd w base b rb s (some p)) (hs : s.size ≤ 1048576) (hq : IsPast (bitAt s) (8 * s.size) q) (ht : Trails (bitAt s) (8 * s.size) p) (hm : PpsN.may ⟨cabac, weighted, bipred, qp, chroma, constrained, deblock, act0, act1⟩) :
    Calls Try.prog 57 #[.pointer (some ⟨b, 0, none⟩), .agg #[.bool cabac, .bool weighted, .int .i64 bipred, .int .i64 qp, .int .i64 chroma, .bool constrained, .bool deblock, .int .i64 act0, .int .i64 act1], .func (.func 26) #[] #[]] w fun e w' => e = .returned (.tuple #[.agg #[.bool cabac, .bool weighted, .int .i64 bipred, .int .i64 qp, .int .i64 chroma, .bool constrained, .bool deblock, .int .i64 act0, .int .i64 act1], .int .i64 0]) ∧ Fr (fun k => k = rb) w w' := by
  obtain ⟨x1, x2, x3, f0⟩ := three_boxes w #[.bool cabac, .bool weighted, .int .i64 bipred, .int .i64 qp, .int .i64 chroma, .bool constrained, .bool deblock, .int .i64 act0, .int .i64 act1] #[.bool false, .bool false, .int .i64 0, .int .i64 0, .int .i64 0, .bool false, .bool false, .int .i64 0, .int .i64 0] #[.bool false, .bool false, .int .i64 0, .int .i64 0, .int .i64 0, .bool false, .bool false, .int .i64 0, .int .i64 0] 43
  have hm2 := decide_eq_true hm
  have HMM : Hid (∀ w1, Calls Try.prog 26 #[.agg #[.bool cabac, .bool weighted, .int .i64 bipred, .int .i64 qp, .int .i64 chroma, .bool constrained, .bool deblock, .int .i64 act0, .int .i64 act1]] w1 fun e w' => e = .returned (.bool true) ∧ Below w1.heap.size w1 w') := fun w1 => by
    have := HM ⟨cabac, weighted, bipred, qp, chroma, constrained, deblock, act0, act1⟩ w1
    rwa [hm2] at this
  clear hm hm2 HM
  have hr := h.keep f0 (fun e => e) (fun e => e)
  obtain ⟨r0, r1, _⟩ := prd_cells hr
  simp only [Option.isNone_some] at r1
  have htr := pTrail3 _ base b rb s p hr hs hq
  rw [if_pos ht] at htr
  obtain ⟨⟨rc, hrc⟩, _⟩ : (∃ cs, ((((w.alloc (.cells #[.bool cabac, .bool weighted, .int .i64 bipred, .int .i64 qp, .int .i64 chroma, .bool constrained, .bool deblock, .int .i64 act0, .int .i64 act1] 43)).alloc (.cells #[.bool false, .bool false, .int .i64 0, .int .i64 0, .int .i64 0, .bool false, .bool false, .int .i64 0, .int .i64 0] 43)).alloc (.cells #[.bool false, .bool false, .int .i64 0, .int .i64 0, .int .i64 0, .bool false, .bool false, .int .i64 0, .int .i64 0] 43))).heap[rb]? = some (.cells cs 116 (0,0))) ∧ True := by
    obtain ⟨_, _, p0, hp, _⟩ := hr
    exact ⟨hp.block.1, trivial⟩
  have HTR := Lib.hid htr
  have X1 := Lib.hid x1
  have X2 := Lib.hid x2
  have X3 := Lib.hid x3
  have F0 := Lib.hid f0
  have RC := Lib.hid hrc
  clear x1 x2 x3 f0 h hr htr ht hrc
  go_enter Try.func57, Try.ntmps57
  go_wp2_with fail
  refine HTR.out.mono ?_
  rintro e wt ⟨rfl, ft⟩
  have y1_ := (ft.block _ (row_lt X1.out) (fun e => ne_of_type X1.out RC.out (by decide) e)).trans X1.out
  have y2_ := (ft.block _ (row_lt X2.out) (fun e => ne_of_type X2.out RC.out (by decide) e)).trans X2.out
  have y3_ := (ft.block _ (row_lt X3.out) (fun e => ne_of_type X3.out RC.out (by decide) e)).trans X3.out
  have FT : Hid (Fr (fun k => k = rb) w wt) := (F0.out.mono (fun _ _ h => h.elim)).trans ft (fun i hi e => e)
  have u0 := cell_of_row _ w.heap.size 0 _ _ _ y1_
  have u1 := cell_of_row _ w.heap.size 1 _ _ _ y1_
  have u2 := cell_of_row _ w.heap.size 2 _ _ _ y1_
  have u3 := cell_of_row _ w.heap.size 3 _ _ _ y1_
  have u4 := cell_of_row _ w.heap.size 4 _ _ _ y1_
  have u5 := cell_of_row _ w.heap.size 5 _ _ _ y1_
  have u6 := cell_of_row _ w.heap.size 6 _ _ _ y1_
  have u7 := cell_of_row _ w.heap.size 7 _ _ _ y1_
  have u8 := cell_of_row _ w.heap.size 8 _ _ _ y1_
  simp at u0 u1 u2 u3 u4 u5 u6 u7 u8
  have Y1 := Lib.hid y1_
  have Y2 := Lib.hid y2_
  have Y3 := Lib.hid y3_
  clear y1_ y2_ y3_ ft r0 r1
  go_wp2_with fail
  refine (HMM.out _).mono ?_
  rintro e wm ⟨rfl, bm⟩
  have v1_ := (bm.block _ (row_lt Y1.out)).trans Y1.out
  have v2_ := (bm.block _ (row_lt Y2.out)).trans Y2.out
  have v3_ := (bm.block _ (row_lt Y3.out)).trans Y3.out
  have FM : Hid (Fr (fun k => k = rb) w wm) := FT.out.trans (Fr.of_below (S := fun k => k = rb) bm) (fun i hi e => e)
  clear bm u0 u1 u2 u3 u4 u5 u6 u7 u8
  have y0 := cell_of_row _ w.heap.size 0 _ _ _ v1_
  have y1 := cell_of_row _ w.heap.size 1 _ _ _ v1_
  have y2 := cell_of_row _ w.heap.size 2 _ _ _ v1_
  have y3 := cell_of_row _ w.heap.size 3 _ _ _ v1_
  have y4 := cell_of_row _ w.heap.size 4 _ _ _ v1_
  have y5 := cell_of_row _ w.heap.size 5 _ _ _ v1_
  have y6 := cell_of_row _ w.heap.size 6 _ _ _ v1_
  have y7 := cell_of_row _ w.heap.size 7 _ _ _ v1_
  have y8 := cell_of_row _ w.heap.size 8 _ _ _ v1_
  simp at y0 y1 y2 y3 y4 y5 y6 y7 y8
  have V2 := Lib.hid v2_
  clear v1_ v2_ v3_
  go_wp2_with (refine wpList_store_whole rfl 43 (.tmp 6) (.tmp 27) rfl (w.heap.size + 1) #[.bool cabac, .bool weighted, .int .i64 bipred, .int .i64 qp, .int .i64 chroma, .bool constrained, .bool deblock, .int .i64 act0, .int .i64 act1] ?_ ?_ 43 _ V2.out ?_ ?_ ?_ ?_; rfl; rfl; kernel_rfl; rfl; (simp [Value.oneCell']); intro wz hz fz)
  have z0 := cell_of_row _ (w.heap.size + 1) 0 _ _ _ hz
  have z1 := cell_of_row _ (w.heap.size + 1) 1 _ _ _ hz
  have z2 := cell_of_row _ (w.heap.size + 1) 2 _ _ _ hz
  have z3 := cell_of_row _ (w.heap.size + 1) 3 _ _ _ hz
  have z4 := cell_of_row _ (w.heap.size + 1) 4 _ _ _ hz
  have z5 := cell_of_row _ (w.heap.size + 1) 5 _ _ _ hz
  have z6 := cell_of_row _ (w.heap.size + 1) 6 _ _ _ hz
  have z7 := cell_of_row _ (w.heap.size + 1) 7 _ _ _ hz
  have z8 := cell_of_row _ (w.heap.size + 1) 8 _ _ _ hz
  simp at z0 z1 z2 z3 z4 z5 z6 z7 z8
  refine bodyPost_ret (v := .tuple #[.agg #[.bool cabac, .bool weighted, .int .i64 bipred, .int .i64 qp, .int .i64 chroma, .bool constrained, .bool deblock, .int .i64 act0, .int .i64 act1], .int .i64 0]) (by simp [results, Try.results57, go_sem, z0, z1, z2, z3, z4, z5, z6, z7, z8]) rfl ⟨rfl, ?_⟩
  exact FM.out.trans fz (fun i hi e => by omega)

set_option maxRecDepth 100000 in
set_option maxHeartbeats 4000000 in
theorem endedSpsNone (w : World) (base b rb : Nat) (s : ByteArray) (wide high fbits ptype pbits nonref : Int) (cycle : List Int) (refs delay : Int) (a : Option Addr) (cap : Nat) (h : PRd w base b rb s none) :
    Calls Try.prog 43 #[.pointer (some ⟨b, 0, none⟩), .agg #[.int .i64 wide, .int .i64 high, .int .i64 fbits, .int .i64 ptype, .int .i64 pbits, .int .i64 nonref, .slice a cycle.length cap, .int .i64 refs, .int .i64 delay], .func (.func 15) #[] #[]] w fun e w' => e = .returned (.tuple #[.agg #[.int .i64 0, .int .i64 0, .int .i64 0, .int .i64 0, .int .i64 0, .int .i64 0, .slice none 0 0, .int .i64 0, .int .i64 0], .int .i64 300]) ∧ Fr (fun k => k = rb) w w' := by
  obtain ⟨x1, x2, x3, f0⟩ := three_boxes w #[.int .i64 wide, .int .i64 high, .int .i64 fbits, .int .i64 ptype, .int .i64 pbits, .int .i64 nonref, .slice a cycle.length cap, .int .i64 refs, .int .i64 delay] #[.int .i64 0, .int .i64 0, .int .i64 0, .int .i64 0, .int .i64 0, .int .i64 0, .slice none 0 0, .int .i64 0, .int .i64 0] #[.int .i64 0, .int .i64 0, .int .i64 0, .int .i64 0, .int .i64 0, .int .i64 0, .slice none 0 0, .int .i64 0, .int .i64 0] 24
  have hr := h.keep f0 (fun e => e) (fun e => e)
  obtain ⟨r0, r1, _⟩ := prd_cells hr
  simp only [Option.isNone_none] at r1
  have X2 := Lib.hid x2
  have F0 := Lib.hid f0
  have y0 := cell_of_row _ (w.heap.size + 2) 0 _ _ _ x3
  have y1 := cell_of_row _ (w.heap.size + 2) 1 _ _ _ x3
  have y2 := cell_of_row _ (w.heap.size + 2) 2 _ _ _ x3
  have y3 := cell_of_row _ (w.heap.size + 2) 3 _ _ _ x3
  have y4 := cell_of_row _ (w.heap.size + 2) 4 _ _ _ x3
  have y5 := cell_of_row _ (w.heap.size + 2) 5 _ _ _ x3
  have y6 := cell_of_row _ (w.heap.size + 2) 6 _ _ _ x3
  have y7 := cell_of_row _ (w.heap.size + 2) 7 _ _ _ x3
  have y8 := cell_of_row _ (w.heap.size + 2) 8 _ _ _ x3
  simp at y0 y1 y2 y3 y4 y5 y6 y7 y8
  clear x1 x2 x3 f0 h hr
  go_enter Try.func43, Try.ntmps43
  go_wp2_with (refine wpList_store_whole rfl 24 (.tmp 6) (.tmp 21) rfl (w.heap.size + 1) #[.int .i64 0, .int .i64 0, .int .i64 0, .int .i64 0, .int .i64 0, .int .i64 0, .slice none 0 0, .int .i64 0, .int .i64 0] ?_ ?_ 24 _ X2.out ?_ ?_ ?_ ?_; rfl; rfl; kernel_rfl; rfl; (simp [Value.oneCell']); intro wz hz fz)
  have z0 := cell_of_row _ (w.heap.size + 1) 0 _ _ _ hz
  have z1 := cell_of_row _ (w.heap.size + 1) 1 _ _ _ hz
  have z2 := cell_of_row _ (w.heap.size + 1) 2 _ _ _ hz
  have z3 := cell_of_row _ (w.heap.size + 1) 3 _ _ _ hz
  have z4 := cell_of_row _ (w.heap.size + 1) 4 _ _ _ hz
  have z5 := cell_of_row _ (w.heap.size + 1) 5 _ _ _ hz
  have z6 := cell_of_row _ (w.heap.size + 1) 6 _ _ _ hz
  have z7 := cell_of_row _ (w.heap.size + 1) 7 _ _ _ hz
  have z8 := cell_of_row _ (w.heap.size + 1) 8 _ _ _ hz
  simp at z0 z1 z2 z3 z4 z5 z6 z7 z8
  refine bodyPost_ret (v := .tuple #[.agg #[.int .i64 0, .int .i64 0, .int .i64 0, .int .i64 0, .int .i64 0, .int .i64 0, .slice none 0 0, .int .i64 0, .int .i64 0], .int .i64 300]) (by simp [results, Try.results43, go_sem, z0, z1, z2, z3, z4, z5, z6, z7, z8]) rfl ⟨rfl, ?_⟩
  exact (F0.out.mono (T := fun k => k = rb) (fun _ _ h => h.elim)).trans fz (fun i hi e => by omega)

set_option maxRecDepth 100000 in
set_option maxHeartbeats 4000000 in
theorem endedSpsForm (w : World) (base b rb : Nat) (s : ByteArray) (wide high fbits ptype pbits nonref : Int) (cycle : List Int) (refs delay : Int) (a : Option Addr) (cap : Nat) (p q : Nat) (h : PRd w base b rb s (some p)) (hs : s.size ≤ 1048576) (hq : IsPast (bitAt s) (8 * s.size) q) (ht : ¬ Trails (bitAt s) (8 * s.size) p) :
    Calls Try.prog 43 #[.pointer (some ⟨b, 0, none⟩), .agg #[.int .i64 wide, .int .i64 high, .int .i64 fbits, .int .i64 ptype, .int .i64 pbits, .int .i64 nonref, .slice a cycle.length cap, .int .i64 refs, .int .i64 delay], .func (.func 15) #[] #[]] w fun e w' => e = .returned (.tuple #[.agg #[.int .i64 0, .int .i64 0, .int .i64 0, .int .i64 0, .int .i64 0, .int .i64 0, .slice none 0 0, .int .i64 0, .int .i64 0], .int .i64 300]) ∧ Fr (fun k => k = rb) w w' := by
  obtain ⟨x1, x2, x3, f0⟩ := three_boxes w #[.int .i64 wide, .int .i64 high, .int .i64 fbits, .int .i64 ptype, .int .i64 pbits, .int .i64 nonref, .slice a cycle.length cap, .int .i64 refs, .int .i64 delay] #[.int .i64 0, .int .i64 0, .int .i64 0, .int .i64 0, .int .i64 0, .int .i64 0, .slice none 0 0, .int .i64 0, .int .i64 0] #[.int .i64 0, .int .i64 0, .int .i64 0, .int .i64 0, .int .i64 0, .int .i64 0, .slice none 0 0, .int .i64 0, .int .i64 0] 24
  have hr := h.keep f0 (fun e => e) (fun e => e)
  obtain ⟨r0, r1, _⟩ := prd_cells hr
  simp only [Option.isNone_some] at r1
  have htr := pTrail3 _ base b rb s p hr hs hq
  rw [if_neg ht] at htr
  obtain ⟨⟨rc, hrc⟩, _⟩ : (∃ cs, ((((w.alloc (.cells #[.int .i64 wide, .int .i64 high, .int .i64 fbits, .int .i64 ptype, .int .i64 pbits, .int .i64 nonref, .slice a cycle.length cap, .int .i64 refs, .int .i64 delay] 24)).alloc (.cells #[.int .i64 0, .int .i64 0, .int .i64 0, .int .i64 0, .int .i64 0, .int .i64 0, .slice none 0 0, .int .i64 0, .int .i64 0] 24)).alloc (.cells #[.int .i64 0, .int .i64 0, .int .i64 0, .int .i64 0, .int .i64 0, .int .i64 0, .slice none 0 0, .int .i64 0, .int .i64 0] 24))).heap[rb]? = some (.cells cs 116 (0,0))) ∧ True := by
    obtain ⟨_, _, p0, hp, _⟩ := hr
    exact ⟨hp.block.1, trivial⟩
  have HTR := Lib.hid htr
  have X1 := Lib.hid x1
  have X2 := Lib.hid x2
  have X3 := Lib.hid x3
  have F0 := Lib.hid f0
  have RC := Lib.hid hrc
  clear x1 x2 x3 f0 h hr htr ht hrc
  go_enter Try.func43, Try.ntmps43
  go_wp2_with fail
  refine HTR.out.mono ?_
  rintro e wt ⟨rfl, ft⟩
  have y1_ := (ft.block _ (row_lt X1.out) (fun e => ne_of_type X1.out RC.out (by decide) e)).trans X1.out
  have y2_ := (ft.block _ (row_lt X2.out) (fun e => ne_of_type X2.out RC.out (by decide) e)).trans X2.out
  have y3_ := (ft.block _ (row_lt X3.out) (fun e => ne_of_type X3.out RC.out (by decide) e)).trans X3.out
  have FT : Hid (Fr (fun k => k = rb) w wt) := (F0.out.mono (fun _ _ h => h.elim)).trans ft (fun i hi e => e)
  have y0 := cell_of_row _ (w.heap.size + 2) 0 _ _ _ y3_
  have y1 := cell_of_row _ (w.heap.size + 2) 1 _ _ _ y3_
  have y2 := cell_of_row _ (w.heap.size + 2) 2 _ _ _ y3_
  have y3 := cell_of_row _ (w.heap.size + 2) 3 _ _ _ y3_
  have y4 := cell_of_row _ (w.heap.size + 2) 4 _ _ _ y3_
  have y5 := cell_of_row _ (w.heap.size + 2) 5 _ _ _ y3_
  have y6 := cell_of_row _ (w.heap.size + 2) 6 _ _ _ y3_
  have y7 := cell_of_row _ (w.heap.size + 2) 7 _ _ _ y3_
  have y8 := cell_of_row _ (w.heap.size + 2) 8 _ _ _ y3_
  simp at y0 y1 y2 y3 y4 y5 y6 y7 y8
  have Y2 := Lib.hid y2_
  clear y1_ y2_ y3_ ft r0 r1
  go_wp2_with (refine wpList_store_whole rfl 24 (.tmp 6) (.tmp 21) rfl (w.heap.size + 1) #[.int .i64 0, .int .i64 0, .int .i64 0, .int .i64 0, .int .i64 0, .int .i64 0, .slice none 0 0, .int .i64 0, .int .i64 0] ?_ ?_ 24 _ Y2.out ?_ ?_ ?_ ?_; rfl; rfl; kernel_rfl; rfl; (simp [Value.oneCell']); intro wz hz fz)
  have z0 := cell_of_row _ (w.heap.size + 1) 0 _ _ _ hz
  have z1 := cell_of_row _ (w.heap.size + 1) 1 _ _ _ hz
  have z2 := cell_of_row _ (w.heap.size + 1) 2 _ _ _ hz
  have z3 := cell_of_row _ (w.heap.size + 1) 3 _ _ _ hz
  have z4 := cell_of_row _ (w.heap.size + 1) 4 _ _ _ hz
  have z5 := cell_of_row _ (w.heap.size + 1) 5 _ _ _ hz
  have z6 := cell_of_row _ (w.heap.size + 1) 6 _ _ _ hz
  have z7 := cell_of_row _ (w.heap.size + 1) 7 _ _ _ hz
  have z8 := cell_of_row _ (w.heap.size + 1) 8 _ _ _ hz
  simp at z0 z1 z2 z3 z4 z5 z6 z7 z8
  refine bodyPost_ret (v := .tuple #[.agg #[.int .i64 0, .int .i64 0, .int .i64 0, .int .i64 0, .int .i64 0, .int .i64 0, .slice none 0 0, .int .i64 0, .int .i64 0], .int .i64 300]) (by simp [results, Try.results43, go_sem, z0, z1, z2, z3, z4, z5, z6, z7, z8]) rfl ⟨rfl, ?_⟩
  exact FT.out.trans fz (fun i hi e => by omega)

set_option maxRecDepth 100000 in
set_option maxHeartbeats 4000000 in
theorem endedSpsRange (w : World) (base b rb : Nat) (s : ByteArray) (wide high fbits ptype pbits nonref : Int) (cycle : List Int) (refs delay : Int) (a : Option Addr) (cap : Nat) (HM : MaySpsOk) (p q : Nat) (h : PRd w base b rb s (some p)) (hs : s.size ≤ 1048576) (hq : IsPast (bitAt s) (8 * s.size) q) (ht : Trails (bitAt s) (8 * s.size) p) (hi : ∀ w1, Fr (fun k => k = rb) w w1 → IntRow w1 a cycle) (hl : cycle.length ≤ 1000000000) (hm : ¬ SpsN.may ⟨wide, high, fbits, ptype, pbits, nonref, cycle, refs, delay⟩) :
    Calls Try.prog 43 #[.pointer (some ⟨b, 0, none⟩), .agg #[.int .i64 wide, .int .i64 high, .int .i64 fbits, .int .i64 ptype, .int .i64 pbits, .int .i64 nonref, .slice a cycle.length cap, .int .i64 refs, .int .i64 delay], .func (.func 15) #[] #[]] w fun e w' => e = .returned (.tuple #[.agg #[.int .i64 0, .int .i64 0, .int .i64 0, .int .i64 0, .int .i64 0, .int .i64 0, .slice none 0 0, .int .i64 0, .int .i64 0], .int .i64 301]) ∧ Fr (fun k => k = rb) w w' := by
  obtain ⟨x1, x2, x3, f0⟩ := three_boxes w #[.int .i64 wide, .int .i64 high, .int .i64 fbits, .int .i64 ptype, .int .i64 pbits, .int .i64 nonref, .slice a cycle.length cap, .int .i64 refs, .int .i64 delay] #[.int .i64 0, .int .i64 0, .int .i64 0, .int .i64 0, .int .i64 0, .int .i64 0, .slice none 0 0, .int .i64 0, .int .i64 0] #[.int .i64 0, .int .i64 0, .int .i64 0, .int .i64 0, .int .i64 0, .int .i64 0, .slice none 0 0, .int .i64 0, .int .i64 0] 24
  have hm2 := decide_eq_false hm
  have HMM : Hid (∀ w1, Fr (fun k => k = rb) w w1 → Calls Try.prog 15 #[.agg #[.int .i64 wide, .int .i64 high, .int .i64 fbits, .int .i64 ptype, .int .i64 pbits, .int .i64 nonref, .slice a cycle.length cap, .int .i64 refs, .int .i64 delay]] w1 fun e w' => e = .returned (.bool false) ∧ Below w1.heap.size w1 w') := fun w1 f1 => by
    have := HM ⟨wide, high, fbits, ptype, pbits, nonref, cycle, refs, delay⟩ a cap w1 (hi w1 f1) hl
    rwa [hm2] at this
  clear hm hm2 HM hi
  have hr := h.keep f0 (fun e => e) (fun e => e)
  obtain ⟨r0, r1, _⟩ := prd_cells hr
  simp only [Option.isNone_some] at r1
  have htr := pTrail3 _ base b rb s p hr hs hq
  rw [if_pos ht] at htr
  obtain ⟨⟨rc, hrc⟩, _⟩ : (∃ cs, ((((w.alloc (.cells #[.int .i64 wide, .int .i64 high, .int .i64 fbits, .int .i64 ptype, .int .i64 pbits, .int .i64 nonref, .slice a cycle.length cap, .int .i64 refs, .int .i64 delay] 24)).alloc (.cells #[.int .i64 0, .int .i64 0, .int .i64 0, .int .i64 0, .int .i64 0, .int .i64 0, .slice none 0 0, .int .i64 0, .int .i64 0] 24)).alloc (.cells #[.int .i64 0, .int .i64 0, .int .i64 0, .int .i64 0, .int .i64 0, .int .i64 0, .slice none 0 0, .int .i64 0, .int .i64 0] 24))).heap[rb]? = some (.cells cs 116 (0,0))) ∧ True := by
    obtain ⟨_, _, p0, hp, _⟩ := hr
    exact ⟨hp.block.1, trivial⟩
  have HTR := Lib.hid htr
  have X1 := Lib.hid x1
  have X2 := Lib.hid x2
  have X3 := Lib.hid x3
  have F0 := Lib.hid f0
  have RC := Lib.hid hrc
  clear x1 x2 x3 f0 h hr htr ht hrc
  go_enter Try.func43, Try.ntmps43
  go_wp2_with fail
  refine HTR.out.mono ?_
  rintro e wt ⟨rfl, ft⟩
  have y1_ := (ft.block _ (row_lt X1.out) (fun e => ne_of_type X1.out RC.out (by decide) e)).trans X1.out
  have y2_ := (ft.block _ (row_lt X2.out) (fun e => ne_of_type X2.out RC.out (by decide) e)).trans X2.out
  have y3_ := (ft.block _ (row_lt X3.out) (fun e => ne_of_type X3.out RC.out (by decide) e)).trans X3.out
  have FT : Hid (Fr (fun k => k = rb) w wt) := (F0.out.mono (fun _ _ h => h.elim)).trans ft (fun i hi e => e)
  have u0 := cell_of_row _ w.heap.size 0 _ _ _ y1_
  have u1 := cell_of_row _ w.heap.size 1 _ _ _ y1_
  have u2 := cell_of_row _ w.heap.size 2 _ _ _ y1_
  have u3 := cell_of_row _ w.heap.size 3 _ _ _ y1_
  have u4 := cell_of_row _ w.heap.size 4 _ _ _ y1_
  have u5 := cell_of_row _ w.heap.size 5 _ _ _ y1_
  have u6 := cell_of_row _ w.heap.size 6 _ _ _ y1_
  have u7 := cell_of_row _ w.heap.size 7 _ _ _ y1_
  have u8 := cell_of_row _ w.heap.size 8 _ _ _ y1_
  simp at u0 u1 u2 u3 u4 u5 u6 u7 u8
  have Y1 := Lib.hid y1_
  have Y2 := Lib.hid y2_
  have Y3 := Lib.hid y3_
  clear y1_ y2_ y3_ ft r0 r1
  go_wp2_with fail
  refine (HMM.out _ FT.out).mono ?_
  rintro e wm ⟨rfl, bm⟩
  have v1_ := (bm.block _ (row_lt Y1.out)).trans Y1.out
  have v2_ := (bm.block _ (row_lt Y2.out)).trans Y2.out
  have v3_ := (bm.block _ (row_lt Y3.out)).trans Y3.out
  have FM : Hid (Fr (fun k => k = rb) w wm) := FT.out.trans (Fr.of_below (S := fun k => k = rb) bm) (fun i hi e => e)
  clear bm u0 u1 u2 u3 u4 u5 u6 u7 u8
  have y0 := cell_of_row _ (w.heap.size + 2) 0 _ _ _ v3_
  have y1 := cell_of_row _ (w.heap.size + 2) 1 _ _ _ v3_
  have y2 := cell_of_row _ (w.heap.size + 2) 2 _ _ _ v3_
  have y3 := cell_of_row _ (w.heap.size + 2) 3 _ _ _ v3_
  have y4 := cell_of_row _ (w.heap.size + 2) 4 _ _ _ v3_
  have y5 := cell_of_row _ (w.heap.size + 2) 5 _ _ _ v3_
  have y6 := cell_of_row _ (w.heap.size + 2) 6 _ _ _ v3_
  have y7 := cell_of_row _ (w.heap.size + 2) 7 _ _ _ v3_
  have y8 := cell_of_row _ (w.heap.size + 2) 8 _ _ _ v3_
  simp at y0 y1 y2 y3 y4 y5 y6 y7 y8
  have V2 := Lib.hid v2_
  clear v1_ v2_ v3_
  go_wp2_with (refine wpList_store_whole rfl 24 (.tmp 6) (.tmp 26) rfl (w.heap.size + 1) #[.int .i64 0, .int .i64 0, .int .i64 0, .int .i64 0, .int .i64 0, .int .i64 0, .slice none 0 0, .int .i64 0, .int .i64 0] ?_ ?_ 24 _ V2.out ?_ ?_ ?_ ?_; rfl; rfl; kernel_rfl; rfl; (simp [Value.oneCell']); intro wz hz fz)
  have z0 := cell_of_row _ (w.heap.size + 1) 0 _ _ _ hz
  have z1 := cell_of_row _ (w.heap.size + 1) 1 _ _ _ hz
  have z2 := cell_of_row _ (w.heap.size + 1) 2 _ _ _ hz
  have z3 := cell_of_row _ (w.heap.size + 1) 3 _ _ _ hz
  have z4 := cell_of_row _ (w.heap.size + 1) 4 _ _ _ hz
  have z5 := cell_of_row _ (w.heap.size + 1) 5 _ _ _ hz
  have z6 := cell_of_row _ (w.heap.size + 1) 6 _ _ _ hz
  have z7 := cell_of_row _ (w.heap.size + 1) 7 _ _ _ hz
  have z8 := cell_of_row _ (w.heap.size + 1) 8 _ _ _ hz
  simp at z0 z1 z2 z3 z4 z5 z6 z7 z8
  refine bodyPost_ret (v := .tuple #[.agg #[.int .i64 0, .int .i64 0, .int .i64 0, .int .i64 0, .int .i64 0, .int .i64 0, .slice none 0 0, .int .i64 0, .int .i64 0], .int .i64 301]) (by simp [results, Try.results43, go_sem, z0, z1, z2, z3, z4, z5, z6, z7, z8]) rfl ⟨rfl, ?_⟩
  exact FM.out.trans fz (fun i hi e => by omega)

set_option maxRecDepth 100000 in
set_option maxHeartbeats 4000000 in
theorem endedSpsFine (w : World) (base b rb : Nat) (s : ByteArray) (wide high fbits ptype pbits nonref : Int) (cycle : List Int) (refs delay : Int) (a : Option Addr) (cap : Nat) (HM : MaySpsOk) (p q : Nat) (h : PRd w base b rb s (some p)) (hs : s.size ≤ 1048576) (hq : IsPast (bitAt s) (8 * s.size) q) (ht : Trails (bitAt s) (8 * s.size) p) (hi : ∀ w1, Fr (fun k => k = rb) w w1 → IntRow w1 a cycle) (hl : cycle.length ≤ 1000000000) (hm : SpsN.may ⟨wide, high, fbits, ptype, pbits, nonref, cycle, refs, delay⟩) :
    Calls Try.prog 43 #[.pointer (some ⟨b, 0, none⟩), .agg #[.int .i64 wide, .int .i64 high, .int .i64 fbits, .int .i64 ptype, .int .i64 pbits, .int .i64 nonref, .slice a cycle.length cap, .int .i64 refs, .int .i64 delay], .func (.func 15) #[] #[]] w fun e w' => e = .returned (.tuple #[.agg #[.int .i64 wide, .int .i64 high, .int .i64 fbits, .int .i64 ptype, .int .i64 pbits, .int .i64 nonref, .slice a cycle.length cap, .int .i64 refs, .int .i64 delay], .int .i64 0]) ∧ Fr (fun k => k = rb) w w' := by
  obtain ⟨x1, x2, x3, f0⟩ := three_boxes w #[.int .i64 wide, .int .i64 high, .int .i64 fbits, .int .i64 ptype, .int .i64 pbits, .int .i64 nonref, .slice a cycle.length cap, .int .i64 refs, .int .i64 delay] #[.int .i64 0, .int .i64 0, .int .i64 0, .int .i64 0, .int .i64 0, .int .i64 0, .slice none 0 0, .int .i64 0, .int .i64 0] #[.int .i64 0, .int .i64 0, .int .i64 0, .int .i64 0, .int .i64 0, .int .i64 0, .slice none 0 0, .int .i64 0, .int .i64 0] 24
  have hm2 := decide_eq_true hm
  have HMM : Hid (∀ w1, Fr (fun k => k = rb) w w1 → Calls Try.prog 15 #[.agg #[.int .i64 wide, .int .i64 high, .int .i64 fbits, .int .i64 ptype, .int .i64 pbits, .int .i64 nonref, .slice a cycle.length cap, .int .i64 refs, .int .i64 delay]] w1 fun e w' => e = .returned (.bool true) ∧ Below w1.heap.size w1 w') := fun w1 f1 => by
    have := HM ⟨wide, high, fbits, ptype, pbits, nonref, cycle, refs, delay⟩ a cap w1 (hi w1 f1) hl
    rwa [hm2] at this
  clear hm hm2 HM hi
  have hr := h.keep f0 (fun e => e) (fun e => e)
  obtain ⟨r0, r1, _⟩ := prd_cells hr
  simp only [Option.isNone_some] at r1
  have htr := pTrail3 _ base b rb s p hr hs hq
  rw [if_pos ht] at htr
  obtain ⟨⟨rc, hrc⟩, _⟩ : (∃ cs, ((((w.alloc (.cells #[.int .i64 wide, .int .i64 high, .int .i64 fbits, .int .i64 ptype, .int .i64 pbits, .int .i64 nonref, .slice a cycle.length cap, .int .i64 refs, .int .i64 delay] 24)).alloc (.cells #[.int .i64 0, .int .i64 0, .int .i64 0, .int .i64 0, .int .i64 0, .int .i64 0, .slice none 0 0, .int .i64 0, .int .i64 0] 24)).alloc (.cells #[.int .i64 0, .int .i64 0, .int .i64 0, .int .i64 0, .int .i64 0, .int .i64 0, .slice none 0 0, .int .i64 0, .int .i64 0] 24))).heap[rb]? = some (.cells cs 116 (0,0))) ∧ True := by
    obtain ⟨_, _, p0, hp, _⟩ := hr
    exact ⟨hp.block.1, trivial⟩
  have HTR := Lib.hid htr
  have X1 := Lib.hid x1
  have X2 := Lib.hid x2
  have X3 := Lib.hid x3
  have F0 := Lib.hid f0
  have RC := Lib.hid hrc
  clear x1 x2 x3 f0 h hr htr ht hrc
  go_enter Try.func43, Try.ntmps43
  go_wp2_with fail
  refine HTR.out.mono ?_
  rintro e wt ⟨rfl, ft⟩
  have y1_ := (ft.block _ (row_lt X1.out) (fun e => ne_of_type X1.out RC.out (by decide) e)).trans X1.out
  have y2_ := (ft.block _ (row_lt X2.out) (fun e => ne_of_type X2.out RC.out (by decide) e)).trans X2.out
  have y3_ := (ft.block _ (row_lt X3.out) (fun e => ne_of_type X3.out RC.out (by decide) e)).trans X3.out
  have FT : Hid (Fr (fun k => k = rb) w wt) := (F0.out.mono (fun _ _ h => h.elim)).trans ft (fun i hi e => e)
  have u0 := cell_of_row _ w.heap.size 0 _ _ _ y1_
  have u1 := cell_of_row _ w.heap.size 1 _ _ _ y1_
  have u2 := cell_of_row _ w.heap.size 2 _ _ _ y1_
  have u3 := cell_of_row _ w.heap.size 3 _ _ _ y1_
  have u4 := cell_of_row _ w.heap.size 4 _ _ _ y1_
  have u5 := cell_of_row _ w.heap.size 5 _ _ _ y1_
  have u6 := cell_of_row _ w.heap.size 6 _ _ _ y1_
  have u7 := cell_of_row _ w.heap.size 7 _ _ _ y1_
  have u8 := cell_of_row _ w.heap.size 8 _ _ _ y1_
  simp at u0 u1 u2 u3 u4 u5 u6 u7 u8
  have Y1 := Lib.hid y1_
  have Y2 := Lib.hid y2_
  have Y3 := Lib.hid y3_
  clear y1_ y2_ y3_ ft r0 r1
  go_wp2_with fail
  refine (HMM.out _ FT.out).mono ?_
  rintro e wm ⟨rfl, bm⟩
  have v1_ := (bm.block _ (row_lt Y1.out)).trans Y1.out
  have v2_ := (bm.block _ (row_lt Y2.out)).trans Y2.out
  have v3_ := (bm.block _ (row_lt Y3.out)).trans Y3.out
  have FM : Hid (Fr (fun k => k = rb) w wm) := FT.out.trans (Fr.of_below (S := fun k => k = rb) bm) (fun i hi e => e)
  clear bm u0 u1 u2 u3 u4 u5 u6 u7 u8
  have y0 := cell_of_row _ w.heap.size 0 _ _ _ v1_
  have y1 := cell_of_row _ w.heap.size 1 _ _ _ v1_
  have y2 := cell_of_row _ w.heap.size 2 _ _ _ v1_
  have y3 := cell_of_row _ w.heap.size 3 _ _ _ v1_
  have y4 := cell_of_row _ w.heap.size 4 _ _ _ v1_
  have y5 := cell_of_row _ w.heap.size 5 _ _ _ v1_
  have y6 := cell_of_row _ w.heap.size 6 _ _ _ v1_
  have y7 := cell_of_row _ w.heap.size 7 _ _ _ v1_
  have y8 := cell_of_row _ w.heap.size 8 _ _ _ v1_
  simp at y0 y1 y2 y3 y4 y5 y6 y7 y8
  have V2 := Lib.hid v2_
  clear v1_ v2_ v3_
  go_wp2_with (refine wpList_store_whole rfl 24 (.tmp 6) (.tmp 27) rfl (w.heap.size + 1) #[.int .i64 wide, .int .i64 high, .int .i64 fbits, .int .i64 ptype, .int .i64 pbits, .int .i64 nonref, .slice a cycle.length cap, .int .i64 refs, .int .i64 delay] ?_ ?_ 24 _ V2.out ?_ ?_ ?_ ?_; rfl; rfl; kernel_rfl; rfl; (simp [Value.oneCell']); intro wz hz fz)
  have z0 := cell_of_row _ (w.heap.size + 1) 0 _ _ _ hz
  have z1 := cell_of_row _ (w.heap.size + 1) 1 _ _ _ hz
  have z2 := cell_of_row _ (w.heap.size + 1) 2 _ _ _ hz
  have z3 := cell_of_row _ (w.heap.size + 1) 3 _ _ _ hz
  have z4 := cell_of_row _ (w.heap.size + 1) 4 _ _ _ hz
  have z5 := cell_of_row _ (w.heap.size + 1) 5 _ _ _ hz
  have z6 := cell_of_row _ (w.heap.size + 1) 6 _ _ _ hz
  have z7 := cell_of_row _ (w.heap.size + 1) 7 _ _ _ hz
  have z8 := cell_of_row _ (w.heap.size + 1) 8 _ _ _ hz
  simp at z0 z1 z2 z3 z4 z5 z6 z7 z8
  refine bodyPost_ret (v := .tuple #[.agg #[.int .i64 wide, .int .i64 high, .int .i64 fbits, .int .i64 ptype, .int .i64 pbits, .int .i64 nonref, .slice a cycle.length cap, .int .i64 refs, .int .i64 delay], .int .i64 0]) (by simp [results, Try.results43, go_sem, z0, z1, z2, z3, z4, z5, z6, z7, z8]) rfl ⟨rfl, ?_⟩
  exact FM.out.trans fz (fun i hi e => by omega)

end Go.Proofs.Ytadfgadkihlmcaa
