/- Layer 3: the document's own PutPps. -/
import Derived.Test.YtadfgadkihlmcaaQH
import Derived.StillTailTactics
namespace Go.Proofs.Ytadfgadkihlmcaa
open Go.RowKit Zo Zp

theorem refFlag_any (b : Bool) (w : World) : Calls Try.prog 54 #[.bool b] w fun e w' => e = .returned (.int .i64 (b.toNat : Int)) ∧ w' = w := by
  cases b
  · go_enter Try.func54, Try.ntmps54
    go_wp2
    go_ret
    exact ⟨rfl, rfl⟩
  · go_enter Try.func54, Try.ntmps54
    go_wp2
    go_ret
    exact ⟨rfl, rfl⟩

set_option maxRecDepth 100000 in
theorem refPutPps_no (w : World) (p : PpsN) (hm : ¬ p.may) :
    Calls Try.prog 23 #[ppsV p] w (StrPut ([], 301) w) := by
  have HM := fun o => refMayPps_any (w.alloc o) p
  rw [decide_eq_false hm] at HM
  have HH := Lib.hid HM
  clear HM hm
  obtain ⟨cabac, weighted, bipred, qp, chroma, constrained, deblock, act0, act1⟩ := p
  unfold ppsV at HH ⊢
  go_enter Try.func23, Try.ntmps23
  go_wp2_with fail
  refine (HH.out _).mono ?_
  rintro e w1 ⟨rfl, b1⟩
  have HB := Lib.hid (((Below.refl w.heap.size w).alloc (Nat.le_refl _) (.cells #[.bool cabac, .bool weighted, .int .i64 bipred, .int .i64 qp, .int .i64 chroma, .bool constrained, .bool deblock, .int .i64 act0, .int .i64 act1] 43)).trans (b1.mono (by simp)))
  go_wp2_with fail
  go_ret2
  exact ⟨rfl, HB.out⟩

theorem one_digs (b : Bool) : digs 1 b.toNat = [b] := by cases b <;> rfl

theorem four_bits (cabac weighted : Bool) (bipred : Int) (h0 : 0 ≤ bipred) (h2 : bipred ≤ 2) :
    bv (digs 1 cabac.toNat ++ digs 1 weighted.toNat ++ digs 2 bipred.toNat) = [.int .u8 (cabac.toNat : Int), .int .u8 (weighted.toNat : Int), .int .u8 (bipred / 2), .int .u8 (bipred % 2)] := by
  rw [one_digs, one_digs]
  rcases (show bipred = 0 ∨ bipred = 1 ∨ bipred = 2 by omega) with rfl | rfl | rfl <;> rfl

theorem drew_below {B : Nat} {a w : World} (h : Below B a w) : Below B a w.drew := ⟨h.os, h.tape, h.output, h.size, h.block⟩

theorem new_two (w : World) (x y : Bool) : NewBits w ((w.alloc (.cells #[.int .u8 (x.toNat : Int), .int .u8 (y.toNat : Int)] 5)).drew) (.slice (some ⟨w.heap.size, 0, none⟩) 2 2) (digs 1 x.toNat ++ digs 1 y.toNat) := by
  rw [one_digs, one_digs]
  have hr : Row ((w.alloc (.cells #[.int .u8 (x.toNat : Int), .int .u8 (y.toNat : Int)] 5)).drew) w.heap.size 5 (bv [x, y]) := heap_alloc_last w _
  exact ⟨w.heap.size, 2, rfl, Nat.le_refl _, by simp, hr.owns (Nat.le_refl _) (by simp [bv, maxLen]), drew_below ((Below.refl _ _).alloc (Nat.le_refl _) _)⟩

set_option maxRecDepth 100000 in
set_option maxHeartbeats 4000000 in
theorem refPutPps_yes (w : World) (p : PpsN) (hm : p.may) :
    Calls Try.prog 23 #[ppsV p] w (StrPut (packB (trailed (ppsB p)), 0) w) := by
  have HM := fun o => refMayPps_any (w.alloc o) p
  rw [decide_eq_true hm] at HM
  have HH := Lib.hid HM
  clear HM
  obtain ⟨cabac, weighted, bipred, qp, chroma, constrained, deblock, act0, act1⟩ := p
  obtain ⟨m1, m2, m3, m4, m5, m6, m7, m8, m9, m10⟩ := hm
  simp only at m1 m2 m3 m4 m5 m6 m7 m8 m9 m10
  unfold ppsV at HH ⊢
  have hbox := Lib.hid (heap_alloc_last w (.cells #[.bool cabac, .bool weighted, .int .i64 bipred, .int .i64 qp, .int .i64 chroma, .bool constrained, .bool deblock, .int .i64 act0, .int .i64 act1] 43))
  have F4 := Lib.hid (four_bits cabac weighted bipred m1 m2)
  go_enter Try.func23, Try.ntmps23
  go_wp2_with fail
  refine (HH.out _).mono ?_
  rintro e w1 ⟨rfl, b1⟩
  have q1 := (b1.block _ (by simp)).trans hbox.out
  have D1 := Lib.hid (((Below.refl w.heap.size w).alloc (Nat.le_refl _) (.cells #[.bool cabac, .bool weighted, .int .i64 bipred, .int .i64 qp, .int .i64 chroma, .bool constrained, .bool deblock, .int .i64 act0, .int .i64 act1] 43)).trans (b1.mono (by simp)))
  have y0 := cell_of_row _ w.heap.size 0 _ _ _ q1
  have y1 := cell_of_row _ w.heap.size 1 _ _ _ q1
  have y2 := cell_of_row _ w.heap.size 2 _ _ _ q1
  simp at y0 y1 y2
  have Q1 := Lib.hid q1
  clear q1 b1 HH hbox
  have u1 : IntKind.u8.wrap (cabac.toNat : Int) = (cabac.toNat : Int) := by cases cabac <;> rfl
  have u2 : IntKind.u8.wrap (weighted.toNat : Int) = (weighted.toNat : Int) := by cases weighted <;> rfl
  go_upto_region 3 with fail
  refine wp_region_still_tail 16 (by kernel_rfl) (by kernel_rfl) ?_
  simp only [List.take_succ_cons, List.take_zero, List.drop_succ_cons, List.drop_zero]
  still_step
  still_step
  still_call (refFlag_any _ _)
  still_step
  still_step
  still_step
  still_call (refFlag_any _ _)
  iterate 9 still_step
  refine wpStill_nil ?_
  change wpList _ _ _ _ _ w1.drew
  go_upto_region 4 with fail
  have K1 : Hid (Mk w ((w1.alloc (.cells #[.int .u8 (cabac.toNat : Int), .int .u8 (weighted.toNat : Int), .int .u8 (bipred / 2), .int .u8 (bipred % 2)] 5)).drew) (.slice (some ⟨w1.heap.size, 0, none⟩) 4 4) (digs 1 cabac.toNat ++ digs 1 weighted.toNat ++ digs 2 bipred.toNat) w.heap.size #[.bool cabac, .bool weighted, .int .i64 bipred, .int .i64 qp, .int .i64 chroma, .bool constrained, .bool deblock, .int .i64 act0, .int .i64 act1] 43) := by
    have hr : Row ((w1.alloc (.cells #[.int .u8 (cabac.toNat : Int), .int .u8 (weighted.toNat : Int), .int .u8 (bipred / 2), .int .u8 (bipred % 2)] 5)).drew) w1.heap.size 5 (bv (digs 1 cabac.toNat ++ digs 1 weighted.toNat ++ digs 2 bipred.toNat)) := by
      rw [F4.out]
      exact heap_alloc_last w1 _
    refine ⟨?_, drew_below (D1.out.alloc D1.out.size _), ?_, by decide⟩
    · have ho := hr.owns (base := w.heap.size) D1.out.size (by rw [F4.out]; simp [maxLen])
      rw [F4.out] at ho
      unfold OwnBits
      rw [F4.out]
      simp only [List.length_append, digs_length]
      exact ho
    · exact (heap_alloc_other (row_lt Q1.out)).trans Q1.out
  have c := K1.out.cell 3 (.int .i64 qp) rfl
  have G1 : (digs 1 cabac.toNat ++ digs 1 weighted.toNat ++ digs 2 bipred.toNat).length ≤ 4 := by simp [digs_length]
  clear y0 y1 y2 u1 u2 Q1 D1 F4
  obtain ⟨l4, hl4⟩ : ∃ l4, digs 1 cabac.toNat ++ digs 1 weighted.toNat ++ digs 2 bipred.toNat = l4 := ⟨_, rfl⟩
  rw [hl4] at K1 G1
  have H4 := Lib.hid hl4
  clear hl4
  go_wp2_with fail
  refine (ueRef_any _ _ (by omega) (by omega)).mono ?_
  rintro e wa2 ⟨u2, rfl, n2⟩
  have J2 := Lib.hid (K1.out.new n2.down)
  have N2 := Lib.hid n2
  have G2 : (ueB (qp).toNat).length ≤ 61 := (ueB_length _ (by omega)).2
  clear n2 c
  go_wp2_with (refine wpList_append_bits rfl (.tmp 25) (.tmp 28) rfl w.heap.size (.slice (some ⟨w1.heap.size, 0, none⟩) 4 4) l4 ?_ J2.out.own J2.out.down.size _ u2 (ueB (qp).toNat) ?_ N2.out ?_ ?_ ?_ ?_; rfl; rfl; exact ueB_pos _ (by omega); (first | omega | (simp only [List.length_append]; omega)); omega; intro v2 w2 p2; have K2 := Lib.hid (J2.out.app p2); have c := K2.out.cell 4 (.int .i64 chroma) rfl; clear p2)
  go_wp2_with fail
  refine (seRef_any _ _ (by omega) (by omega)).mono ?_
  rintro e wa3 ⟨u3, rfl, n3⟩
  have J3 := Lib.hid (K2.out.new n3.down)
  have N3 := Lib.hid n3
  have G3 : (seB chroma).length ≤ 61 := seB_le _ (by omega) (by omega)
  clear n3 c
  go_wp2_with (refine wpList_append_bits rfl (.tmp 30) (.tmp 33) rfl w.heap.size v2 (l4 ++ (ueB (qp).toNat)) ?_ J3.out.own J3.out.down.size _ u3 (seB chroma) ?_ N3.out ?_ ?_ ?_ ?_; rfl; rfl; exact seB_pos _ (by omega) (by omega); (first | omega | (simp only [List.length_append]; omega)); omega; intro v3 w3 p3; have K3 := Lib.hid (J3.out.app p3); have c := K3.out.cell 5 (.bool constrained) rfl; have c1 := K3.out.cell 6 (.bool deblock) rfl; clear p3)
  have u1 : IntKind.u8.wrap (constrained.toNat : Int) = (constrained.toNat : Int) := by cases constrained <;> rfl
  have u2 : IntKind.u8.wrap (deblock.toNat : Int) = (deblock.toNat : Int) := by cases deblock <;> rfl
  have N4 := Lib.hid (new_two w3 constrained deblock)
  have J4 := Lib.hid (K3.out.new N4.out.down)
  have L4 : ((l4 ++ (ueB (qp).toNat)) ++ (seB chroma)).length ≤ 1000 := by simp only [List.length_append]; omega
  have L2 : (digs 1 constrained.toNat ++ digs 1 deblock.toNat).length = 2 := by simp [digs_length]
  have HL2 := Lib.hid L2
  have z3 := K3.out.down.size
  obtain ⟨LX, hLX⟩ : ∃ LX, ((l4 ++ (ueB (qp).toNat)) ++ (seB chroma)) = LX := ⟨_, rfl⟩
  rw [hLX] at K3 J4 L4
  obtain ⟨i0, hi, hz0, hz1, hz2⟩ := info_parts Try.info5
  have hcells : bv (digs 1 constrained.toNat ++ digs 1 deblock.toNat) = [.int .u8 (constrained.toNat : Int), .int .u8 (deblock.toNat : Int)] := by rw [one_digs, one_digs]; rfl
  have HC := Lib.hid hcells
  clear L2 hcells
  go_upto_region 6 with fail
  go_cut [4] (fun v wx => ∃ v4, v4 = v ∧ Hid (Mk w wx v4 (LX ++ (digs 1 constrained.toNat ++ digs 1 deblock.toNat)) w.heap.size #[.bool cabac, .bool weighted, .int .i64 bipred, .int .i64 qp, .int .i64 chroma, .bool constrained, .bool deblock, .int .i64 act0, .int .i64 act1] 43))
  case first =>
    go_region_law (first
      | (refine step_append_lies _ ?_ (.tmp 35) (.tmp 44) 56 ?_ w.heap.size 5 i0 (.int .u8 0) 1 1 Try.underlying56 hi hz0 hz1 hz2 ?_ ?_ v3 LX.length (bv LX) ?_ J4.out.own ⟨w3.heap.size, 0, none⟩ 2 2 [.int .u8 (constrained.toNat : Int), .int .u8 (deblock.toNat : Int)] ?_ ?_ ?_ ?_ ?_ ?_ ?_ ?_ (w3.heap.size + 1) ?_ ?_
         · rfl
         · rfl
         · rfl
         · decide
         · rfl
         · rfl
         · rfl
         · exact Row.news (e := 5) (heap_alloc_last w3 _)
         · simp [Value.oneCell']
         · decide
         · unfold maxLen; omega
         · omega
         · show w.heap.size ≤ (w3.heap.push _).size; rw [Array.size_push]; omega
         · exact Array.size_push _
         intro g cap w4 hown4 hgrow4 hat4 hlt4
         have K4 : Hid (Mk w w4 (.slice (some ⟨g, 0, none⟩) (LX.length + 2) cap) (LX ++ (digs 1 constrained.toNat ++ digs 1 deblock.toNat)) w.heap.size #[.bool cabac, .bool weighted, .int .i64 bipred, .int .i64 qp, .int .i64 chroma, .bool constrained, .bool deblock, .int .i64 act0, .int .i64 act1] 43) := by
           refine J4.out.app ⟨?_, (Fr.refl _ _).grown hgrow4 (fun k _ e => e), fun k e => ?_⟩
           · unfold OwnBits
             rw [bv_append, HC.out, List.length_append, HL2.out]
             exact hown4
           · obtain rfl : g = k := by simpa [Value.ownBlock] using e
             rcases hat4 with e1 | e1
             · exact .inl e1
             · exact .inr (by show (w3.heap.push _).size ≤ g; rw [Array.size_push]; omega)
         clear hown4 hgrow4 hat4 hlt4)
      | (go_simp; go_at_call 54; refine (refFlag_any _ _).mono ?_; rintro e w' ⟨rfl, rfl⟩))
    all_goals
      go_wp2_with fail
      go_meet
      exact ⟨_, rfl, K4⟩
  case rest =>
    obtain ⟨v4, rfl, K4⟩ := hcut
    rw [← hLX] at K4
    have c := K4.out.cell 7 (.int .i64 act0) rfl
    have G4 : (digs 1 constrained.toNat ++ digs 1 deblock.toNat).length ≤ 2 := by simp [digs_length]
    obtain ⟨l2, hl2⟩ : ∃ l2, digs 1 constrained.toNat ++ digs 1 deblock.toNat = l2 := ⟨_, rfl⟩
    rw [hl2] at K4 G4
    have H2 := Lib.hid hl2
    clear hl2
    go_wp2_with fail
    refine (ueRef_any _ _ (by omega) (by omega)).mono ?_
    rintro e wa5 ⟨u5, rfl, n5⟩
    have J5 := Lib.hid (K4.out.new n5.down)
    have N5 := Lib.hid n5
    have G5 : (ueB (act0 - 1).toNat).length ≤ 61 := (ueB_length _ (by omega)).2
    clear n5 c
    go_wp2_with (refine wpList_append_bits rfl (.tmp 46) (.tmp 50) rfl w.heap.size v4 (((l4 ++ (ueB (qp).toNat)) ++ (seB chroma)) ++ l2) ?_ J5.out.own J5.out.down.size _ u5 (ueB (act0 - 1).toNat) ?_ N5.out ?_ ?_ ?_ ?_; rfl; rfl; exact ueB_pos _ (by omega); (first | omega | (simp only [List.length_append]; omega)); omega; intro v5 w5 p5; have K5 := Lib.hid (J5.out.app p5); have c := K5.out.cell 8 (.int .i64 act1) rfl; clear p5)
    go_wp2_with fail
    refine (ueRef_any _ _ (by omega) (by omega)).mono ?_
    rintro e wa6 ⟨u6, rfl, n6⟩
    have J6 := Lib.hid (K5.out.new n6.down)
    have N6 := Lib.hid n6
    have G6 : (ueB (act1 - 1).toNat).length ≤ 61 := (ueB_length _ (by omega)).2
    clear n6 c
    go_wp2_with (refine wpList_append_bits rfl (.tmp 52) (.tmp 56) rfl w.heap.size v5 ((((l4 ++ (ueB (qp).toNat)) ++ (seB chroma)) ++ l2) ++ (ueB (act0 - 1).toNat)) ?_ J6.out.own J6.out.down.size _ u6 (ueB (act1 - 1).toNat) ?_ N6.out ?_ ?_ ?_ ?_; rfl; rfl; exact ueB_pos _ (by omega); (first | omega | (simp only [List.length_append]; omega)); omega; intro v6 w6 p6; have K6 := Lib.hid (J6.out.app p6); clear p6)
    go_wp2_with fail
    refine (trailRef_any _ (((((l4 ++ (ueB (qp).toNat)) ++ (seB chroma)) ++ l2) ++ (ueB (act0 - 1).toNat)) ++ (ueB (act1 - 1).toNat)) _ w.heap.size K6.out.own K6.out.down.size (by simp only [List.length_append]; omega)).mono ?_
    rintro e wt ⟨vt, rfl, pt⟩
    have e1 : ppsB ⟨cabac, weighted, bipred, qp, chroma, constrained, deblock, act0, act1⟩ = (((((l4 ++ (ueB (qp).toNat)) ++ (seB chroma)) ++ l2) ++ (ueB (act0 - 1).toNat)) ++ (ueB (act1 - 1).toNat)) := by rw [← H4.out, ← H2.out]; simp [ppsB]
    obtain ⟨LT, hLT⟩ : ∃ LT, trailed (ppsB ⟨cabac, weighted, bipred, qp, chroma, constrained, deblock, act0, act1⟩) = LT := ⟨_, rfl⟩
    have hK := K6.out.app pt
    have GT : LT.length ≤ 1000000000 := by rw [← hLT, trailed_length, e1]; simp only [List.length_append]; omega
    rw [show (((((l4 ++ (ueB (qp).toNat)) ++ (seB chroma)) ++ l2) ++ (ueB (act0 - 1).toNat)) ++ (ueB (act1 - 1).toNat)) ++ trailB ((((((l4 ++ (ueB (qp).toNat)) ++ (seB chroma)) ++ l2) ++ (ueB (act0 - 1).toNat)) ++ (ueB (act1 - 1).toNat))).length = LT from by rw [← hLT, trailed, e1]] at hK
    have KT := Lib.hid hK
    have HL := Lib.hid hLT
    clear pt e1 hLT hK
    go_wp2_with fail
    refine (pack_any _ LT _ w.heap.size KT.out.own GT).mono ?_
    rintro e wp ⟨rfl, bp⟩
    go_wp2_with fail
    go_ret2
    rw [HL.out]
    exact ⟨rfl, KT.out.down.trans (bp.mono KT.out.down.size)⟩
end Go.Proofs.Ytadfgadkihlmcaa
