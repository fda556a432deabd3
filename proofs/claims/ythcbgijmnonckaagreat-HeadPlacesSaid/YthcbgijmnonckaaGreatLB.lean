/- Layer 4: the walk of HeadPlaces. -/
import Derived.Test.YthcbgijmnonckaaGreatLX
namespace Go.Proofs.YthcbgijmnonckaaGreat
open Go.RowKit Zo Zp
set_option linter.unusedVariables false
set_option linter.unusedSimpArgs false

def plcH (A B : Int) : HeadN := ⟨A, B, 2, 0, 0, 0, false, 0, 0, [], [], 0, 0, [], [], false, [], 26, false, 0, 0⟩

theorem plc_iff (A B : Int) : headMay (plcH A B) tinyS tinyP 0 false ↔ 0 ≤ A ∧ 1 ≤ B ∧ A + B ≤ 4 := by
  have h1 : tinyS.may := by decide
  have h2 : tinyP.may := by decide
  have h4 : mayList 0 [] false := by decide
  have h5 : mayMarks (tinyH 26) 0 false := by decide
  have h6 : mayWeights (tinyH 26) false := by decide
  have h7 : mayEdges (tinyH 26) tinyP := by decide
  constructor
  · rintro ⟨_, _, _, ⟨a, b, c, _⟩, _⟩
    exact ⟨a, b, c⟩
  · rintro ⟨a, b, c⟩
    exact ⟨h1, h2, by decide, ⟨a, b, c, (show inZ 2 0 2 by decide), fun h => (by cases h), (show inZ 0 0 15 by decide), fun _ => rfl, (show inZ 0 0 255 by decide), fun _ => rfl, (show inZ 0 0 15 by decide), .inl rfl, fun h => (by cases h)⟩, h4, h4, h6, h5, h7⟩

theorem plc_rows (w : World) (A B : Int) (R : Adr) : HeadRows w (plcH A B) R.m0 R.m1 R.q0 R.q1 R.os :=
  ⟨KRow.nil _ _ _ _, KRow.nil _ _ _ _, KRow.nil _ _ _ _, KRow.nil _ _ _ _, KRow.nil _ _ _ _, by simp [plcH], by simp [plcH], by simp [plcH], by simp [plcH], by simp [plcH]⟩

theorem plc_low (X : Nat) (A B : Int) : HeadLow X (plcH A B) none none none none none :=
  ⟨fun _ _ e => (by cases e), fun _ _ e => (by cases e), fun _ _ e => (by cases e), fun _ _ e => (by cases e), fun _ _ e => (by cases e)⟩

theorem plc_len (A B : Int) (h : 0 ≤ A ∧ 1 ≤ B ∧ A + B ≤ 4) : 0 < (headB (plcH A B) tinyS tinyP 0 false).length ∧ (headB (plcH A B) tinyS tinyP 0 false).length ≤ 1000 := by
  obtain ⟨a, b, c⟩ := h
  rcases (show A = 0 ∨ A = 1 ∨ A = 2 ∨ A = 3 by omega) with rfl | rfl | rfl | rfl <;> rcases (show B = 1 ∨ B = 2 ∨ B = 3 ∨ B = 4 by omega) with rfl | rfl | rfl | rfl <;> first | (exfalso; omega) | decide

set_option maxRecDepth 100000 in
set_option maxHeartbeats 8000000 in
theorem headPlaces_walk (a0 a1 : Int) (w : World) (_ : (Lit.int .i64 a0).wf = true) (_ : (Lit.int .i64 a1).wf = true) :
    Calls Tryz.prog 7 #[.int .i64 a0, .int .i64 a1] w fun e w' => e = .returned (.bool true) ∧ Below w.heap.size w w' := by
  obtain ⟨A, hA⟩ : ∃ x, a0.tmod 7 = x := ⟨_, rfl⟩
  obtain ⟨B, hB⟩ : ∃ x, a1.tmod 7 = x := ⟨_, rfl⟩
  have hwr : IntKind.i64.wrap (A + B) = A + B := by
    rw [← hA, ← hB, IntKind.wrap_i64]
    have := Int.tmod_lt_of_pos a0 (show (0 : Int) < 7 by omega)
    have := Int.lt_tmod_of_pos a0 (show (0 : Int) < 7 by omega)
    have := Int.tmod_lt_of_pos a1 (show (0 : Int) < 7 by omega)
    have := Int.lt_tmod_of_pos a1 (show (0 : Int) < 7 by omega)
    omega
  go_enter Tryz.func7, Tryz.ntmps7
  go_wp2_with fail
  refine (awake4 _).mono ?_
  rintro e w0 ⟨rfl, b0⟩
  go_wp2_with fail
  refine (tiny_any _).mono ?_
  rintro e w1 ⟨rfl, b1'⟩
  have b1 := b0.trans (b1'.mono b0.size)
  clear b1' b0
  obtain ⟨r1, r2, r3, B3, z3⟩ := boxes3 w1 #[.int .i64 0, .int .i64 0, .int .i64 0, .int .i64 0, .int .i64 0, .int .i64 0, .slice none 0 0, .int .i64 0, .int .i64 0] #[.bool false, .bool false, .int .i64 0, .int .i64 0, .int .i64 0, .bool false, .bool false, .int .i64 0, .int .i64 0] #[.int .i64 0, .int .i64 0, .int .i64 0, .int .i64 0, .int .i64 0, .int .i64 0, .bool false, .int .i64 0, .int .i64 0, .slice none 0 0, .slice none 0 0, .int .i64 0, .int .i64 0, .slice none 0 0, .slice none 0 0, .bool false, .slice none 0 0, .int .i64 0, .bool false, .int .i64 0, .int .i64 0] 29 31 26
  have D3 := Lib.hid (b1.trans (B3.mono b1.size))
  have R1 := Lib.hid r1
  have R2 := Lib.hid r2
  have R3 := Lib.hid r3
  have Z1 := b1.size
  clear r1 r2 r3 B3 b1
  go_upto_region 4 with (first
    | (refine wpList_store_whole rfl 29 (.tmp 5) (.tmp 15) rfl w1.heap.size tinySC ?_ ?_ 29 #[.int .i64 0, .int .i64 0, .int .i64 0, .int .i64 0, .int .i64 0, .int .i64 0, .slice none 0 0, .int .i64 0, .int .i64 0] R1.out ?_ ?_ ?_ ?_; rfl; rfl; kernel_rfl; rfl; (simp [tinySC, Value.oneCell']); intro w4 s4 f4; have p4 := (f4.block _ (row_lt R2.out) (by omega)).trans R2.out; have h4 := (f4.block _ (row_lt R3.out) (by omega)).trans R3.out)
    | (refine wpList_store_whole rfl 31 (.tmp 6) (.tmp 16) rfl (w1.heap.size + 1) tinyPC ?_ ?_ 31 #[.bool false, .bool false, .int .i64 0, .int .i64 0, .int .i64 0, .bool false, .bool false, .int .i64 0, .int .i64 0] p4 ?_ ?_ ?_ ?_; rfl; rfl; kernel_rfl; rfl; (simp [tinyPC, Value.oneCell']); intro w5 p5 f5; have s5 := (f5.block _ (row_lt s4) (by omega)).trans s4; have h5 := (f5.block _ (row_lt h4) (by omega)).trans h4)
    | (refine wpList_store_whole rfl 26 (.tmp 7) (.tmp 17) rfl (w1.heap.size + 1 + 1) (tinyHC 26) ?_ ?_ 26 #[.int .i64 0, .int .i64 0, .int .i64 0, .int .i64 0, .int .i64 0, .int .i64 0, .bool false, .int .i64 0, .int .i64 0, .slice none 0 0, .slice none 0 0, .int .i64 0, .int .i64 0, .slice none 0 0, .slice none 0 0, .bool false, .slice none 0 0, .int .i64 0, .bool false, .int .i64 0, .int .i64 0] h5 ?_ ?_ ?_ ?_; rfl; rfl; kernel_rfl; rfl; (simp [tinyHC, headCells, Value.oneCell']); intro w6 h6 f6; have s6 := (f6.block _ (row_lt s5) (by omega)).trans s5; have p6 := (f6.block _ (row_lt p5) (by omega)).trans p5))
  have D6 := Lib.hid (((D3.out.trans (Fr.below f4 D3.out.size (fun k e => by omega))).trans (Fr.below f5 (Nat.le_trans D3.out.size f4.size) (fun k e => by omega))).trans (Fr.below f6 (Nat.le_trans D3.out.size (Nat.le_trans f4.size f5.size)) (fun k e => by omega)))
  have lh := row_lt h6
  clear f4 f5 f6 s4 p4 h4 s5 p5 h5 R1 R2 R3 D3
  have c_ : w6.cell? ⟨(w1.heap.size + 1 + 1), 0, none⟩ = some (.int .i64 0) := by rw [cell_of_row w6 _ 0 _ _ _ h6]; rfl
  have z_ : w6.frozen? ⟨(w1.heap.size + 1 + 1), 0, none⟩ = false := free_row h6 0
  obtain ⟨w7, hw_⟩ : ∃ x, w6.setCell ⟨(w1.heap.size + 1 + 1), 0, none⟩ (.int .i64 A) = x := ⟨_, rfl⟩
  have f_ : Fr (fun k => k = (w1.heap.size + 1 + 1)) w6 w7 := by rw [← hw_]; exact set_fr _ _ _ _
  have h7 : w7.heap[(w1.heap.size + 1 + 1)]? = some (.cells (headCells (plcH A 4) zAdr) 26 (0, 0)) := by rw [← hw_]; exact heap_setCell_row h6 0 _
  have s7 := (f_.block _ (row_lt s6) (by omega)).trans s6
  have p7 := (f_.block _ (row_lt p6) (by omega)).trans p6
  go_upto_region 5 with fail
  try rw [hw_]
  have D7 := Lib.hid (D6.out.trans (Fr.below f_ D6.out.size (fun k e => by omega)))
  clear c_ z_ hw_ f_ h6 s6 p6 D6
  have c_ : w7.cell? ⟨(w1.heap.size + 1 + 1), 1, none⟩ = some (.int .i64 4) := by rw [cell_of_row w7 _ 1 _ _ _ h7]; rfl
  have z_ : w7.frozen? ⟨(w1.heap.size + 1 + 1), 1, none⟩ = false := free_row h7 1
  obtain ⟨w8, hw_⟩ : ∃ x, w7.setCell ⟨(w1.heap.size + 1 + 1), 1, none⟩ (.int .i64 B) = x := ⟨_, rfl⟩
  have f_ : Fr (fun k => k = (w1.heap.size + 1 + 1)) w7 w8 := by rw [← hw_]; exact set_fr _ _ _ _
  have h8 : w8.heap[(w1.heap.size + 1 + 1)]? = some (.cells (headCells (plcH A B) zAdr) 26 (0, 0)) := by rw [← hw_]; exact heap_setCell_row h7 1 _
  have s8 := (f_.block _ (row_lt s7) (by omega)).trans s7
  have p8 := (f_.block _ (row_lt p7) (by omega)).trans p7
  go_upto_region 6 with fail
  try rw [hw_]
  have D8 := Lib.hid (D7.out.trans (Fr.below f_ D7.out.size (fun k e => by omega)))
  clear c_ z_ hw_ f_ h7 s7 p7 D7
  clear hA hB
  have c0 : w8.cell? ⟨(w1.heap.size + 1 + 1), 0, none⟩ = some (.int .i64 A) := by rw [cell_of_row w8 _ 0 _ _ _ h8]; rfl
  have c1 : w8.cell? ⟨(w1.heap.size + 1 + 1), 1, none⟩ = some (.int .i64 B) := by rw [cell_of_row w8 _ 1 _ _ _ h8]; rfl
  have hmay := fun w => may_is w tinyS none 0 tinyP 0 false (plcH A B) none none none none none 0 0 0 0 0 (IntRow.nil _ _) (by decide) (plc_rows _ A B zAdr)
  have IF := plc_iff A B
  obtain ⟨M, hM⟩ : ∃ x, decide (headMay (plcH A B) tinyS tinyP 0 false) = x := ⟨_, rfl⟩
  rw [hM] at hmay
  have HMay := Lib.hid hmay
  have HMM := Lib.hid hM
  have IFF := Lib.hid IF
  clear hmay hM IF
  have Z8 := D8.out.size
  by_cases k0 : 0 ≤ A
  · by_cases k1 : 1 ≤ B
    · by_cases k2 : A + B ≤ 4
      · obtain rfl : M = true := by rw [← HMM.out]; exact decide_eq_true (IFF.out.2 ⟨k0, k1, k2⟩)
        have hm := of_decide_eq_true HMM.out
        obtain ⟨L0, L1⟩ := plc_len A B ⟨k0, k1, k2⟩
        have HMY := Lib.hid hm
        clear hm
        go_upto_region 7 with fail
        go_wp2_with fail
        refine (new_e (w := w8) (B := w8.heap.size) (Nat.le_refl _)).mono ?_
        rintro e w9 ⟨wb, rfl, n9, d9, _⟩
        have l9 := row_lt h8
        have h9 := (d9.block _ l9).trans h8
        have s9 := (d9.block _ (row_lt s8)).trans s8
        have p9 := (d9.block _ (row_lt p8)).trans p8
        obtain ⟨wo, n9⟩ := n9
        have N9 := Lib.hid n9
        have E9 := Lib.hid d9
        clear n9 d9 h8 s8 p8 c0 c1
        go_wp2_with (first | (refine wpList_load_row_w rfl 26 (.tmp 7) rfl (w1.heap.size + 1 + 1) rfl 26 _ (0, 0) _ h9 Tryz.underlying26 rfl (by kernel_rfl) ?_) | (refine wpList_load_row_w rfl 29 (.tmp 5) rfl w1.heap.size rfl 29 tinySC (0, 0) _ s9 Tryz.underlying29 rfl (by kernel_rfl) ?_) | (refine wpList_load_row_w rfl 31 (.tmp 6) rfl (w1.heap.size + 1) rfl 31 tinyPC (0, 0) _ p9 Tryz.underlying31 rfl (by kernel_rfl) ?_))
        refine (putYes_any _ w8.heap.size wb wo [] tinyS none 0 tinyP 0 false (plcH A B) none none none none none 0 0 0 0 0 (IntRow.nil _ _) (by decide) (plc_rows _ A B zAdr) (plc_low _ A B) N9.out (by simp) HMY.out).mono ?_
        rintro e wA ⟨rfl, nA, dA, _⟩
        rw [List.nil_append] at nA
        obtain ⟨wo2, nA⟩ := nA
        have hA := (dA.block _ l9).trans h9
        have sA := (dA.block _ (by omega)).trans s9
        have pA := (dA.block _ (by omega)).trans p9
        have NA := Lib.hid nA
        have DA := Lib.hid (D8.out.trans ((E9.out.trans dA).mono D8.out.size))
        clear nA dA h9 s9 p9 N9 E9
        go_wp2_with (first | (refine wpList_load_row_w rfl 26 (.tmp 7) rfl (w1.heap.size + 1 + 1) rfl 26 _ (0, 0) _ hA Tryz.underlying26 rfl (by kernel_rfl) ?_) | (refine wpList_load_row_w rfl 29 (.tmp 5) rfl w1.heap.size rfl 29 tinySC (0, 0) _ sA Tryz.underlying29 rfl (by kernel_rfl) ?_) | (refine wpList_load_row_w rfl 31 (.tmp 6) rfl (w1.heap.size + 1) rfl 31 tinyPC (0, 0) _ pA Tryz.underlying31 rfl (by kernel_rfl) ?_))
        refine (HMay.out _).mono ?_
        rintro e wB ⟨rfl, bB⟩
        have NB := Lib.hid (NA.out.fr (S := fun _ => False) (Fr.of_below bB) (fun _ _ e => e))
        have DB := Lib.hid (DA.out.trans (bB.mono DA.out.size))
        clear bB hA sA pA NA DA
        go_wp2_with (first | (go_at_call 18; refine (num_any _ _).mono ?_; rintro e w' ⟨rfl, rfl⟩))
        refine (len_e ⟨_, NB.out⟩ (by first | omega | simp)).mono ?_
        rintro e wC ⟨rfl, _, dC, _⟩
        have DC := Lib.hid (DB.out.trans (dC.mono (by have := DB.out.size; omega)))
        clear dC DB NB
        go_wp2_with fail
        go_ret
        exact ⟨ret_bool (by simp; try omega), DC.out⟩
      · obtain rfl : M = false := by rw [← HMM.out]; exact decide_eq_false (fun h => k2 (IFF.out.1 h).2.2)
        have hm := of_decide_eq_false HMM.out
        have HMY := Lib.hid hm
        clear hm
        go_upto_region 7 with fail
        go_wp2_with fail
        refine (new_e (w := w8) (B := w8.heap.size) (Nat.le_refl _)).mono ?_
        rintro e w9 ⟨wb, rfl, n9, d9, _⟩
        have l9 := row_lt h8
        have h9 := (d9.block _ l9).trans h8
        have s9 := (d9.block _ (row_lt s8)).trans s8
        have p9 := (d9.block _ (row_lt p8)).trans p8
        obtain ⟨wo, n9⟩ := n9
        have N9 := Lib.hid n9
        have E9 := Lib.hid d9
        clear n9 d9 h8 s8 p8 c0 c1
        go_wp2_with (first | (refine wpList_load_row_w rfl 26 (.tmp 7) rfl (w1.heap.size + 1 + 1) rfl 26 _ (0, 0) _ h9 Tryz.underlying26 rfl (by kernel_rfl) ?_) | (refine wpList_load_row_w rfl 29 (.tmp 5) rfl w1.heap.size rfl 29 tinySC (0, 0) _ s9 Tryz.underlying29 rfl (by kernel_rfl) ?_) | (refine wpList_load_row_w rfl 31 (.tmp 6) rfl (w1.heap.size + 1) rfl 31 tinyPC (0, 0) _ p9 Tryz.underlying31 rfl (by kernel_rfl) ?_))
        refine (putNo_any _ ⟨wb, 0, none⟩ tinyS none 0 tinyP 0 false (plcH A B) none none none none none 0 0 0 0 0 (IntRow.nil _ _) (by decide) (plc_rows _ A B zAdr) HMY.out).mono ?_
        rintro e wA ⟨rfl, bA⟩
        have dA := bA.mono E9.out.size
        have nA := N9.out.fr (S := fun _ => False) (Fr.of_below bA) (fun _ _ e => e)
        have hA := (dA.block _ l9).trans h9
        have sA := (dA.block _ (by omega)).trans s9
        have pA := (dA.block _ (by omega)).trans p9
        have NA := Lib.hid nA
        have DA := Lib.hid (D8.out.trans ((E9.out.trans dA).mono D8.out.size))
        clear nA dA h9 s9 p9 N9 E9
        go_wp2_with (first | (refine wpList_load_row_w rfl 26 (.tmp 7) rfl (w1.heap.size + 1 + 1) rfl 26 _ (0, 0) _ hA Tryz.underlying26 rfl (by kernel_rfl) ?_) | (refine wpList_load_row_w rfl 29 (.tmp 5) rfl w1.heap.size rfl 29 tinySC (0, 0) _ sA Tryz.underlying29 rfl (by kernel_rfl) ?_) | (refine wpList_load_row_w rfl 31 (.tmp 6) rfl (w1.heap.size + 1) rfl 31 tinyPC (0, 0) _ pA Tryz.underlying31 rfl (by kernel_rfl) ?_))
        refine (HMay.out _).mono ?_
        rintro e wB ⟨rfl, bB⟩
        have NB := Lib.hid (NA.out.fr (S := fun _ => False) (Fr.of_below bB) (fun _ _ e => e))
        have DB := Lib.hid (DA.out.trans (bB.mono DA.out.size))
        clear bB hA sA pA NA DA
        go_wp2_with (first | (go_at_call 18; refine (num_any _ _).mono ?_; rintro e w' ⟨rfl, rfl⟩))
        refine (len_e ⟨_, NB.out⟩ (by first | omega | simp)).mono ?_
        rintro e wC ⟨rfl, _, dC, _⟩
        have DC := Lib.hid (DB.out.trans (dC.mono (by have := DB.out.size; omega)))
        clear dC DB NB
        go_wp2_with fail
        go_ret
        exact ⟨ret_bool (by simp; try omega), DC.out⟩
    · obtain rfl : M = false := by rw [← HMM.out]; exact decide_eq_false (fun h => k1 (IFF.out.1 h).2.1)
      have hm := of_decide_eq_false HMM.out
      have HMY := Lib.hid hm
      clear hm
      go_upto_region 7 with fail
      go_wp2_with fail
      refine (new_e (w := w8) (B := w8.heap.size) (Nat.le_refl _)).mono ?_
      rintro e w9 ⟨wb, rfl, n9, d9, _⟩
      have l9 := row_lt h8
      have h9 := (d9.block _ l9).trans h8
      have s9 := (d9.block _ (row_lt s8)).trans s8
      have p9 := (d9.block _ (row_lt p8)).trans p8
      obtain ⟨wo, n9⟩ := n9
      have N9 := Lib.hid n9
      have E9 := Lib.hid d9
      clear n9 d9 h8 s8 p8 c0 c1
      go_wp2_with (first | (refine wpList_load_row_w rfl 26 (.tmp 7) rfl (w1.heap.size + 1 + 1) rfl 26 _ (0, 0) _ h9 Tryz.underlying26 rfl (by kernel_rfl) ?_) | (refine wpList_load_row_w rfl 29 (.tmp 5) rfl w1.heap.size rfl 29 tinySC (0, 0) _ s9 Tryz.underlying29 rfl (by kernel_rfl) ?_) | (refine wpList_load_row_w rfl 31 (.tmp 6) rfl (w1.heap.size + 1) rfl 31 tinyPC (0, 0) _ p9 Tryz.underlying31 rfl (by kernel_rfl) ?_))
      refine (putNo_any _ ⟨wb, 0, none⟩ tinyS none 0 tinyP 0 false (plcH A B) none none none none none 0 0 0 0 0 (IntRow.nil _ _) (by decide) (plc_rows _ A B zAdr) HMY.out).mono ?_
      rintro e wA ⟨rfl, bA⟩
      have dA := bA.mono E9.out.size
      have nA := N9.out.fr (S := fun _ => False) (Fr.of_below bA) (fun _ _ e => e)
      have hA := (dA.block _ l9).trans h9
      have sA := (dA.block _ (by omega)).trans s9
      have pA := (dA.block _ (by omega)).trans p9
      have NA := Lib.hid nA
      have DA := Lib.hid (D8.out.trans ((E9.out.trans dA).mono D8.out.size))
      clear nA dA h9 s9 p9 N9 E9
      go_wp2_with (first | (refine wpList_load_row_w rfl 26 (.tmp 7) rfl (w1.heap.size + 1 + 1) rfl 26 _ (0, 0) _ hA Tryz.underlying26 rfl (by kernel_rfl) ?_) | (refine wpList_load_row_w rfl 29 (.tmp 5) rfl w1.heap.size rfl 29 tinySC (0, 0) _ sA Tryz.underlying29 rfl (by kernel_rfl) ?_) | (refine wpList_load_row_w rfl 31 (.tmp 6) rfl (w1.heap.size + 1) rfl 31 tinyPC (0, 0) _ pA Tryz.underlying31 rfl (by kernel_rfl) ?_))
      refine (HMay.out _).mono ?_
      rintro e wB ⟨rfl, bB⟩
      have NB := Lib.hid (NA.out.fr (S := fun _ => False) (Fr.of_below bB) (fun _ _ e => e))
      have DB := Lib.hid (DA.out.trans (bB.mono DA.out.size))
      clear bB hA sA pA NA DA
      go_wp2_with (first | (go_at_call 18; refine (num_any _ _).mono ?_; rintro e w' ⟨rfl, rfl⟩))
      refine (len_e ⟨_, NB.out⟩ (by first | omega | simp)).mono ?_
      rintro e wC ⟨rfl, _, dC, _⟩
      have DC := Lib.hid (DB.out.trans (dC.mono (by have := DB.out.size; omega)))
      clear dC DB NB
      go_wp2_with fail
      go_ret
      exact ⟨ret_bool (by simp; try omega), DC.out⟩
  · obtain rfl : M = false := by rw [← HMM.out]; exact decide_eq_false (fun h => k0 (IFF.out.1 h).1)
    have hm := of_decide_eq_false HMM.out
    have HMY := Lib.hid hm
    clear hm
    go_upto_region 7 with fail
    go_wp2_with fail
    refine (new_e (w := w8) (B := w8.heap.size) (Nat.le_refl _)).mono ?_
    rintro e w9 ⟨wb, rfl, n9, d9, _⟩
    have l9 := row_lt h8
    have h9 := (d9.block _ l9).trans h8
    have s9 := (d9.block _ (row_lt s8)).trans s8
    have p9 := (d9.block _ (row_lt p8)).trans p8
    obtain ⟨wo, n9⟩ := n9
    have N9 := Lib.hid n9
    have E9 := Lib.hid d9
    clear n9 d9 h8 s8 p8 c0 c1
    go_wp2_with (first | (refine wpList_load_row_w rfl 26 (.tmp 7) rfl (w1.heap.size + 1 + 1) rfl 26 _ (0, 0) _ h9 Tryz.underlying26 rfl (by kernel_rfl) ?_) | (refine wpList_load_row_w rfl 29 (.tmp 5) rfl w1.heap.size rfl 29 tinySC (0, 0) _ s9 Tryz.underlying29 rfl (by kernel_rfl) ?_) | (refine wpList_load_row_w rfl 31 (.tmp 6) rfl (w1.heap.size + 1) rfl 31 tinyPC (0, 0) _ p9 Tryz.underlying31 rfl (by kernel_rfl) ?_))
    refine (putNo_any _ ⟨wb, 0, none⟩ tinyS none 0 tinyP 0 false (plcH A B) none none none none none 0 0 0 0 0 (IntRow.nil _ _) (by decide) (plc_rows _ A B zAdr) HMY.out).mono ?_
    rintro e wA ⟨rfl, bA⟩
    have dA := bA.mono E9.out.size
    have nA := N9.out.fr (S := fun _ => False) (Fr.of_below bA) (fun _ _ e => e)
    have hA := (dA.block _ l9).trans h9
    have sA := (dA.block _ (by omega)).trans s9
    have pA := (dA.block _ (by omega)).trans p9
    have NA := Lib.hid nA
    have DA := Lib.hid (D8.out.trans ((E9.out.trans dA).mono D8.out.size))
    clear nA dA h9 s9 p9 N9 E9
    go_wp2_with (first | (refine wpList_load_row_w rfl 26 (.tmp 7) rfl (w1.heap.size + 1 + 1) rfl 26 _ (0, 0) _ hA Tryz.underlying26 rfl (by kernel_rfl) ?_) | (refine wpList_load_row_w rfl 29 (.tmp 5) rfl w1.heap.size rfl 29 tinySC (0, 0) _ sA Tryz.underlying29 rfl (by kernel_rfl) ?_) | (refine wpList_load_row_w rfl 31 (.tmp 6) rfl (w1.heap.size + 1) rfl 31 tinyPC (0, 0) _ pA Tryz.underlying31 rfl (by kernel_rfl) ?_))
    refine (HMay.out _).mono ?_
    rintro e wB ⟨rfl, bB⟩
    have NB := Lib.hid (NA.out.fr (S := fun _ => False) (Fr.of_below bB) (fun _ _ e => e))
    have DB := Lib.hid (DA.out.trans (bB.mono DA.out.size))
    clear bB hA sA pA NA DA
    go_wp2_with (first | (go_at_call 18; refine (num_any _ _).mono ?_; rintro e w' ⟨rfl, rfl⟩))
    refine (len_e ⟨_, NB.out⟩ (by first | omega | simp)).mono ?_
    rintro e wC ⟨rfl, _, dC, _⟩
    have DC := Lib.hid (DB.out.trans (dC.mono (by have := DB.out.size; omega)))
    clear dC DB NB
    go_wp2_with fail
    go_ret
    exact ⟨ret_bool (by simp; try omega), DC.out⟩

end Go.Proofs.YthcbgijmnonckaaGreat
