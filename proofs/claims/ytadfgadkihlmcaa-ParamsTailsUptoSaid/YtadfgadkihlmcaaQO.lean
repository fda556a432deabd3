/- Layer 3: the program's PutSps, told that its ranges answer as they should. -/
import Derived.Test.YtadfgadkihlmcaaQN
namespace Go.Proofs.Ytadfgadkihlmcaa
open Go.RowKit Zo Zp

theorem cycleB_le : ∀ (l : List Int), (∀ x ∈ l, -1073741823 ≤ x ∧ x ≤ 1073741823) → (cycleB l).length ≤ 61 * l.length
  | [], _ => by simp [cycleB]
  | x :: l, h => by
    have h1 := seB_le x (h x (by simp)).1 (h x (by simp)).2
    have h2 := cycleB_le l (fun y hy => h y (by simp [hy]))
    rw [show cycleB (x :: l) = seB x ++ cycleB l from rfl, List.length_append, List.length_cons]
    omega

set_option maxRecDepth 100000 in
set_option maxHeartbeats 4000000 in
theorem putSps_yes (HM : MaySpsOk) (w : World) (s : SpsN) (a : Option Addr) (cap : Nat) (h : IntRow w a s.cycle) (hm : s.may) : Calls Try.prog 11 #[spsV s a cap] w (StrPut (packB (trailed (spsB s)), 0) w) := by
  have hl : s.cycle.length ≤ 1000000000 := by have := hm.2.2.2.2.2.2.2.2.2.2.2.2.1; omega
  have HM := fun o => HM s a cap (w.alloc o) (h.alloc o) hl
  rw [decide_eq_true hm] at HM
  have HH := Lib.hid HM
  clear HM
  obtain ⟨wide, high, fbits, ptype, pbits, nonref, cycle, refs, delay⟩ := s
  obtain ⟨m1, m2, m3, m4, m5, m6, m7, m8, m9, m10, m11, m12, m13, m14, m15, m16, m17, m18, m19, m20, m21⟩ := hm
  simp only at h hl m1 m2 m3 m4 m5 m6 m7 m8 m9 m10 m11 m12 m13 m14 m15 m16 m17 m18 m19 m20 m21
  unfold spsV at HH ⊢
  have H := Lib.hid h
  have M14 := Lib.hid m14
  clear h m14 m15 m16 m21
  go_enter Try.func11, Try.ntmps11
  go_wp2_with fail
  refine (HH.out _).mono ?_
  rintro e w1 ⟨rfl, b1⟩
  have z1 : w.heap.size ≤ w1.heap.size := by have := b1.size; simp at this; omega
  have B1 := Lib.hid b1
  clear b1 HH
  go_wp2_with fail
  refine (new_any _ w.heap.size z1).mono ?_
  rintro e w2 ⟨rfl, h2, f2, _⟩
  have k1 := Wt.start (by decide) B1.out h2 f2
  obtain ⟨l1, hl1⟩ : ∃ l : List Bool, [] = l := ⟨_, rfl⟩
  have N1 : l1.length ≤ 0 := by rw [← hl1]; simp
  rw [hl1] at k1
  have K1 := Lib.hid k1
  have E1 := Lib.hid hl1
  clear k1 hl1
  have c0 := K1.out.cell 0 (.int .i64 wide) rfl
  clear h2 f2 B1
  go_wp2_with fail
  refine (ue_fine _ w.heap.size _ none l1 _ K1.out.1 (by omega) (by omega) (by omega)).mono ?_
  rintro e w2 ⟨rfl, p2⟩
  obtain ⟨o2, k2⟩ := K1.out.step p2
  have G2 : (ueB (wide - 1).toNat).length ≤ 61 := (ueB_length _ (by omega)).2
  obtain ⟨l2, hl2⟩ : ∃ l2, l1 ++ ueB (wide - 1).toNat = l2 := ⟨_, rfl⟩
  have N2 : l2.length ≤ 61 := by rw [← hl2, List.length_append]; omega
  rw [hl2] at k2
  have K2 := Lib.hid k2
  have E2 := Lib.hid hl2
  clear k2 hl2 p2 K1 G2 c0
  have c2_1 := K2.out.cell 1 (.int .i64 high) rfl
  go_wp2_with fail
  refine (ue_fine _ w.heap.size _ o2 l2 _ K2.out.1 (by omega) (by omega) (by omega)).mono ?_
  rintro e w3 ⟨rfl, p3⟩
  obtain ⟨o3, k3⟩ := K2.out.step p3
  have G3 : (ueB (high - 1).toNat).length ≤ 61 := (ueB_length _ (by omega)).2
  obtain ⟨l3, hl3⟩ : ∃ l3, l2 ++ ueB (high - 1).toNat = l3 := ⟨_, rfl⟩
  have N3 : l3.length ≤ 122 := by rw [← hl3, List.length_append]; omega
  rw [hl3] at k3
  have K3 := Lib.hid k3
  have E3 := Lib.hid hl3
  clear k3 hl3 p3 K2 G3 c2_1
  have c3_2 := K3.out.cell 2 (.int .i64 fbits) rfl
  go_wp2_with fail
  refine (ue_fine _ w.heap.size _ o3 l3 _ K3.out.1 (by omega) (by omega) (by omega)).mono ?_
  rintro e w4 ⟨rfl, p4⟩
  obtain ⟨o4, k4⟩ := K3.out.step p4
  have G4 : (ueB (fbits - 4).toNat).length ≤ 61 := (ueB_length _ (by omega)).2
  obtain ⟨l4, hl4⟩ : ∃ l4, l3 ++ ueB (fbits - 4).toNat = l4 := ⟨_, rfl⟩
  have N4 : l4.length ≤ 183 := by rw [← hl4, List.length_append]; omega
  rw [hl4] at k4
  have K4 := Lib.hid k4
  have E4 := Lib.hid hl4
  clear k4 hl4 p4 K3 G4 c3_2
  have c4_3 := K4.out.cell 3 (.int .i64 ptype) rfl
  rcases (show ptype = 0 ∨ ptype = 1 ∨ ptype = 2 by omega) with rfl | rfl | rfl
  · skip
    go_wp2_with fail
    refine (ue_fine _ w.heap.size _ o4 l4 _ K4.out.1 (by omega) (by omega) (by omega)).mono ?_
    rintro e w5 ⟨rfl, p5⟩
    obtain ⟨o5, k5⟩ := K4.out.step p5
    have G5 : (ueB ((0 : Int)).toNat).length ≤ 61 := (ueB_length _ (by omega)).2
    obtain ⟨l5, hl5⟩ : ∃ l5, l4 ++ ueB ((0 : Int)).toNat = l5 := ⟨_, rfl⟩
    have N5 : l5.length ≤ 244 := by rw [← hl5, List.length_append]; omega
    rw [hl5] at k5
    have K5 := Lib.hid k5
    have E5 := Lib.hid hl5
    clear k5 hl5 p5 K4 G5 c4_3
    have c5_3 := K5.out.cell 3 (.int .i64 0) rfl
    have c5_4 := K5.out.cell 4 (.int .i64 pbits) rfl
    go_wp2_with fail
    refine (ue_fine _ w.heap.size _ o5 l5 _ K5.out.1 (by omega) (by omega) (by omega)).mono ?_
    rintro e w6 ⟨rfl, p6⟩
    obtain ⟨o6, k6⟩ := K5.out.step p6
    have G6 : (ueB (pbits - 4).toNat).length ≤ 61 := (ueB_length _ (by omega)).2
    obtain ⟨l6, hl6⟩ : ∃ l6, l5 ++ ueB (pbits - 4).toNat = l6 := ⟨_, rfl⟩
    have N6 : l6.length ≤ 305 := by rw [← hl6, List.length_append]; omega
    rw [hl6] at k6
    have K6 := Lib.hid k6
    have E6 := Lib.hid hl6
    clear k6 hl6 p6 K5 G6 c5_3 c5_4
    have c6_3 := K6.out.cell 3 (.int .i64 0) rfl
    have c6_7 := K6.out.cell 7 (.int .i64 refs) rfl
    go_wp2_with fail
    refine (ue_fine _ w.heap.size _ o6 l6 _ K6.out.1 (by omega) (by omega) (by omega)).mono ?_
    rintro e w7 ⟨rfl, p7⟩
    obtain ⟨o7, k7⟩ := K6.out.step p7
    have G7 : (ueB (refs).toNat).length ≤ 61 := (ueB_length _ (by omega)).2
    obtain ⟨l7, hl7⟩ : ∃ l7, l6 ++ ueB (refs).toNat = l7 := ⟨_, rfl⟩
    have N7 : l7.length ≤ 366 := by rw [← hl7, List.length_append]; omega
    rw [hl7] at k7
    have K7 := Lib.hid k7
    have E7 := Lib.hid hl7
    clear k7 hl7 p7 K6 G7 c6_3 c6_7
    have c7_8 := K7.out.cell 8 (.int .i64 delay) rfl
    go_wp2_with fail
    refine (ue_fine _ w.heap.size _ o7 l7 _ K7.out.1 (by omega) (by omega) (by omega)).mono ?_
    rintro e w8 ⟨rfl, p8⟩
    obtain ⟨o8, k8⟩ := K7.out.step p8
    have G8 : (ueB (delay).toNat).length ≤ 61 := (ueB_length _ (by omega)).2
    obtain ⟨l8, hl8⟩ : ∃ l8, l7 ++ ueB (delay).toNat = l8 := ⟨_, rfl⟩
    have N8 : l8.length ≤ 427 := by rw [← hl8, List.length_append]; omega
    rw [hl8] at k8
    have K8 := Lib.hid k8
    have E8 := Lib.hid hl8
    clear k8 hl8 p8 K7 G8 c7_8
    go_wp2_with fail
    refine (trailW_any _ w.heap.size _ o8 l8 K8.out.1 (by omega)).mono ?_
    rintro e wt ⟨rfl, pt⟩
    obtain ⟨ot, kt⟩ := K8.out.step pt
    have hs : spsB ⟨wide, high, fbits, 0, pbits, nonref, cycle, refs, delay⟩ = l8 := by
      rw [← E8.out, ← E7.out, ← E6.out, ← E5.out, ← E4.out, ← E3.out, ← E2.out, ← E1.out]
      simp [spsB, midB]
    obtain ⟨LT, hLT⟩ : ∃ LT, trailed (spsB ⟨wide, high, fbits, 0, pbits, nonref, cycle, refs, delay⟩) = LT := ⟨_, rfl⟩
    have GT : LT.length ≤ 100000000 := by rw [← hLT, trailed_length, hs]; omega
    rw [show l8 ++ trailB l8.length = LT from by rw [← hLT, trailed, hs]] at kt
    have KT := Lib.hid kt
    have HL := Lib.hid hLT
    clear kt hLT hs pt K8
    go_wp2_with fail
    refine (bytes_any _ w.heap.size _ ot LT KT.out.1 (by omega)).mono ?_
    rintro e wb ⟨rfl, pb⟩
    obtain ⟨ob, kb⟩ := KT.out.step pb
    have KB := Lib.hid kb
    clear kb pb
    go_wp2_with fail
    go_ret2
    rw [HL.out]
    exact ⟨rfl, KB.out.2.1⟩
  · skip
    go_wp2_with fail
    refine (ue_fine _ w.heap.size _ o4 l4 _ K4.out.1 (by omega) (by omega) (by omega)).mono ?_
    rintro e w5 ⟨rfl, p5⟩
    obtain ⟨o5, k5⟩ := K4.out.step p5
    have G5 : (ueB ((1 : Int)).toNat).length ≤ 61 := (ueB_length _ (by omega)).2
    obtain ⟨l5, hl5⟩ : ∃ l5, l4 ++ ueB ((1 : Int)).toNat = l5 := ⟨_, rfl⟩
    have N5 : l5.length ≤ 244 := by rw [← hl5, List.length_append]; omega
    rw [hl5] at k5
    have K5 := Lib.hid k5
    have E5 := Lib.hid hl5
    clear k5 hl5 p5 K4 G5 c4_3
    have c5_0 := K5.out.cell 0 (.int .i64 wide) rfl
    have c5_1 := K5.out.cell 1 (.int .i64 high) rfl
    have c5_2 := K5.out.cell 2 (.int .i64 fbits) rfl
    have c5_3 := K5.out.cell 3 (.int .i64 1) rfl
    have c5_4 := K5.out.cell 4 (.int .i64 pbits) rfl
    have c5_5 := K5.out.cell 5 (.int .i64 nonref) rfl
    have c5_6 := K5.out.cell 6 (.slice a cycle.length cap) rfl
    have c5_7 := K5.out.cell 7 (.int .i64 refs) rfl
    have c5_8 := K5.out.cell 8 (.int .i64 delay) rfl
    have hc := putCycle_any w _ _ o5 l5 ⟨wide, high, fbits, 1, pbits, nonref, cycle, refs, delay⟩ a cap K5.out.1 K5.out.2.1 H.out (by omega) m11 m12 m13 M14.out
    unfold spsV at hc
    have HC := Lib.hid hc
    clear hc
    go_wp2_with fail
    refine HC.out.mono ?_
    rintro e w6 ⟨rfl, p6⟩
    obtain ⟨o6, k6⟩ := K5.out.step p6
    obtain ⟨l6, hl6⟩ : ∃ l, l5 ++ seB nonref ++ ueB cycle.length ++ cycleB cycle = l := ⟨_, rfl⟩
    have N6 : l6.length ≤ 644 := by
      rw [← hl6, List.length_append, List.length_append, List.length_append]
      have g1 := seB_le nonref (by omega) (by omega)
      have g2 := (ueB_length cycle.length (by omega)).2
      have g3 := cycleB_le cycle (fun x hx => by have := M14.out x hx; omega)
      omega
    rw [hl6] at k6
    have K6 := Lib.hid k6
    have E6 := Lib.hid hl6
    clear k6 hl6 p6 K5 HC c5_0 c5_1 c5_2 c5_3 c5_4 c5_5 c5_6 c5_7 c5_8
    have c6_7 := K6.out.cell 7 (.int .i64 refs) rfl
    go_wp2_with fail
    refine (ue_fine _ w.heap.size _ o6 l6 _ K6.out.1 (by omega) (by omega) (by omega)).mono ?_
    rintro e w7 ⟨rfl, p7⟩
    obtain ⟨o7, k7⟩ := K6.out.step p7
    have G7 : (ueB (refs).toNat).length ≤ 61 := (ueB_length _ (by omega)).2
    obtain ⟨l7, hl7⟩ : ∃ l7, l6 ++ ueB (refs).toNat = l7 := ⟨_, rfl⟩
    have N7 : l7.length ≤ 705 := by rw [← hl7, List.length_append]; omega
    rw [hl7] at k7
    have K7 := Lib.hid k7
    have E7 := Lib.hid hl7
    clear k7 hl7 p7 K6 G7 c6_7
    have c7_8 := K7.out.cell 8 (.int .i64 delay) rfl
    go_wp2_with fail
    refine (ue_fine _ w.heap.size _ o7 l7 _ K7.out.1 (by omega) (by omega) (by omega)).mono ?_
    rintro e w8 ⟨rfl, p8⟩
    obtain ⟨o8, k8⟩ := K7.out.step p8
    have G8 : (ueB (delay).toNat).length ≤ 61 := (ueB_length _ (by omega)).2
    obtain ⟨l8, hl8⟩ : ∃ l8, l7 ++ ueB (delay).toNat = l8 := ⟨_, rfl⟩
    have N8 : l8.length ≤ 766 := by rw [← hl8, List.length_append]; omega
    rw [hl8] at k8
    have K8 := Lib.hid k8
    have E8 := Lib.hid hl8
    clear k8 hl8 p8 K7 G8 c7_8
    go_wp2_with fail
    refine (trailW_any _ w.heap.size _ o8 l8 K8.out.1 (by omega)).mono ?_
    rintro e wt ⟨rfl, pt⟩
    obtain ⟨ot, kt⟩ := K8.out.step pt
    have hs : spsB ⟨wide, high, fbits, 1, pbits, nonref, cycle, refs, delay⟩ = l8 := by
      rw [← E8.out, ← E7.out, ← E6.out, ← E5.out, ← E4.out, ← E3.out, ← E2.out, ← E1.out]
      simp [spsB, midB]
    obtain ⟨LT, hLT⟩ : ∃ LT, trailed (spsB ⟨wide, high, fbits, 1, pbits, nonref, cycle, refs, delay⟩) = LT := ⟨_, rfl⟩
    have GT : LT.length ≤ 100000000 := by rw [← hLT, trailed_length, hs]; omega
    rw [show l8 ++ trailB l8.length = LT from by rw [← hLT, trailed, hs]] at kt
    have KT := Lib.hid kt
    have HL := Lib.hid hLT
    clear kt hLT hs pt K8
    go_wp2_with fail
    refine (bytes_any _ w.heap.size _ ot LT KT.out.1 (by omega)).mono ?_
    rintro e wb ⟨rfl, pb⟩
    obtain ⟨ob, kb⟩ := KT.out.step pb
    have KB := Lib.hid kb
    clear kb pb
    go_wp2_with fail
    go_ret2
    rw [HL.out]
    exact ⟨rfl, KB.out.2.1⟩
  · skip
    go_wp2_with fail
    refine (ue_fine _ w.heap.size _ o4 l4 _ K4.out.1 (by omega) (by omega) (by omega)).mono ?_
    rintro e w5 ⟨rfl, p5⟩
    obtain ⟨o5, k5⟩ := K4.out.step p5
    have G5 : (ueB ((2 : Int)).toNat).length ≤ 61 := (ueB_length _ (by omega)).2
    obtain ⟨l5, hl5⟩ : ∃ l5, l4 ++ ueB ((2 : Int)).toNat = l5 := ⟨_, rfl⟩
    have N5 : l5.length ≤ 244 := by rw [← hl5, List.length_append]; omega
    rw [hl5] at k5
    have K5 := Lib.hid k5
    have E5 := Lib.hid hl5
    clear k5 hl5 p5 K4 G5 c4_3
    have c5_3 := K5.out.cell 3 (.int .i64 2) rfl
    have c5_7 := K5.out.cell 7 (.int .i64 refs) rfl
    go_wp2_with fail
    refine (ue_fine _ w.heap.size _ o5 l5 _ K5.out.1 (by omega) (by omega) (by omega)).mono ?_
    rintro e w6 ⟨rfl, p6⟩
    obtain ⟨o6, k6⟩ := K5.out.step p6
    have G6 : (ueB (refs).toNat).length ≤ 61 := (ueB_length _ (by omega)).2
    obtain ⟨l6, hl6⟩ : ∃ l6, l5 ++ ueB (refs).toNat = l6 := ⟨_, rfl⟩
    have N6 : l6.length ≤ 305 := by rw [← hl6, List.length_append]; omega
    rw [hl6] at k6
    have K6 := Lib.hid k6
    have E6 := Lib.hid hl6
    clear k6 hl6 p6 K5 G6 c5_3 c5_7
    have c6_8 := K6.out.cell 8 (.int .i64 delay) rfl
    go_wp2_with fail
    refine (ue_fine _ w.heap.size _ o6 l6 _ K6.out.1 (by omega) (by omega) (by omega)).mono ?_
    rintro e w7 ⟨rfl, p7⟩
    obtain ⟨o7, k7⟩ := K6.out.step p7
    have G7 : (ueB (delay).toNat).length ≤ 61 := (ueB_length _ (by omega)).2
    obtain ⟨l7, hl7⟩ : ∃ l7, l6 ++ ueB (delay).toNat = l7 := ⟨_, rfl⟩
    have N7 : l7.length ≤ 366 := by rw [← hl7, List.length_append]; omega
    rw [hl7] at k7
    have K7 := Lib.hid k7
    have E7 := Lib.hid hl7
    clear k7 hl7 p7 K6 G7 c6_8
    go_wp2_with fail
    refine (trailW_any _ w.heap.size _ o7 l7 K7.out.1 (by omega)).mono ?_
    rintro e wt ⟨rfl, pt⟩
    obtain ⟨ot, kt⟩ := K7.out.step pt
    have hs : spsB ⟨wide, high, fbits, 2, pbits, nonref, cycle, refs, delay⟩ = l7 := by
      rw [← E7.out, ← E6.out, ← E5.out, ← E4.out, ← E3.out, ← E2.out, ← E1.out]
      simp [spsB, midB]
    obtain ⟨LT, hLT⟩ : ∃ LT, trailed (spsB ⟨wide, high, fbits, 2, pbits, nonref, cycle, refs, delay⟩) = LT := ⟨_, rfl⟩
    have GT : LT.length ≤ 100000000 := by rw [← hLT, trailed_length, hs]; omega
    rw [show l7 ++ trailB l7.length = LT from by rw [← hLT, trailed, hs]] at kt
    have KT := Lib.hid kt
    have HL := Lib.hid hLT
    clear kt hLT hs pt K7
    go_wp2_with fail
    refine (bytes_any _ w.heap.size _ ot LT KT.out.1 (by omega)).mono ?_
    rintro e wb ⟨rfl, pb⟩
    obtain ⟨ob, kb⟩ := KT.out.step pb
    have KB := Lib.hid kb
    clear kb pb
    go_wp2_with fail
    go_ret2
    rw [HL.out]
    exact ⟨rfl, KB.out.2.1⟩
end Go.Proofs.Ytadfgadkihlmcaa
