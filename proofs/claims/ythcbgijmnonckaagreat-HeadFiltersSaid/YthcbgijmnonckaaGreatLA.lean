/- Layer 4: the walk of HeadFilters. -/
import Derived.Test.YthcbgijmnonckaaGreatKF
namespace Go.Proofs.YthcbgijmnonckaaGreat
open Go.RowKit Zo Zp
set_option linter.unusedVariables false
set_option linter.unusedSimpArgs false

def fltH (A B : Int) (O : Bool) : HeadN := ⟨0, 4, 2, 0, 0, 0, false, 0, 0, [], [], 0, 0, [], [], false, [], 26, O, A, B⟩
def fltP (D : Bool) : PpsN := ⟨false, false, 0, 26, 0, false, D, 1, 1⟩
def fltPC (D : Bool) : Array Value := #[.bool false, .bool false, .int .i64 0, .int .i64 26, .int .i64 0, .bool false, .bool D, .int .i64 1, .int .i64 1]

theorem flt_iff (A B : Int) (O D : Bool) : headMay (fltH A B O) tinyS (fltP D) 0 false ↔ mayEdges (fltH A B O) (fltP D) := by
  have h1 : tinyS.may := by decide
  have h2 : (fltP D).may := by cases D <;> decide
  have h3 : mayFirsts (tinyH 26) tinyS false := by decide
  have h4 : mayList 0 [] false := by decide
  have h5 : mayMarks (tinyH 26) 0 false := by decide
  have h6 : mayWeights (tinyH 26) false := by decide
  constructor
  · exact fun h => h.2.2.2.2.2.2.2.2
  · exact fun h => ⟨h1, h2, by decide, h3, h4, h4, h6, h5, h⟩

def fltIs (A B : Int) (O D : Bool) : Bool := (if O || !D then decide (A = 0) && decide (B = 0) else decide (-6 ≤ A) && (decide (A ≤ 6) && (decide (-6 ≤ B) && decide (B ≤ 6)))) && (D || !O)

theorem flt_is (A B : Int) (O D : Bool) : decide (headMay (fltH A B O) tinyS (fltP D) 0 false) = fltIs A B O D := by
  rw [Bool.eq_iff_iff, decide_eq_true_iff, flt_iff]
  simp only [fltIs, mayEdges, fltH, fltP, inZ]
  cases O <;> cases D <;> simp <;> omega

set_option maxRecDepth 100000 in
set_option maxHeartbeats 8000000 in
theorem headFilters_walk (a0 a1 : Int) (a2 a3 : Bool) (w : World) (_ : (Lit.int .i64 a0).wf = true) (_ : (Lit.int .i64 a1).wf = true) :
    Calls Tryz.prog 9 #[.int .i64 a0, .int .i64 a1, .bool a2, .bool a3] w fun e w' => e = .returned (.bool true) ∧ Below w.heap.size w w' := by
  obtain ⟨A, hA⟩ : ∃ x, a0.tmod 9 = x := ⟨_, rfl⟩
  obtain ⟨B, hB⟩ : ∃ x, a1.tmod 9 = x := ⟨_, rfl⟩
  go_enter Tryz.func9, Tryz.ntmps9
  go_wp2_with fail
  refine (awake4 _).mono ?_
  rintro e w0 ⟨rfl, b0⟩
  go_wp2_with fail
  refine (tiny_any _).mono ?_
  rintro e w1 ⟨rfl, b1'⟩
  have b1 := b0.trans (b1'.mono b0.size)
  clear b1' b0
  obtain ⟨r1, r2, r3, B3, z3⟩ := boxes3 w1 #[.int .i64 0, .int .i64 0, .int .i64 0, .int .i64 0, .int .i64 0, .int .i64 0, .slice none 0 0, .int .i64 0, .int .i64 0] #[.bool false, .bool false, .int .i64 0, .int .i64 0, .int .i64 0, .bool false, .bool false, .int .i64 0, .int .i64 0] #[.int .i64 0, .int .i64 0, .int .i64 0, .int .i64 0, .int .i64 0, .int .i64 0, .bool false, .int .i64 0, .int .i64 0, .slice none 0 0, .slice none 0 0, .int .i64 0, .int .i64 0, .slice none 0 0, .slice none 0 0, .bool false, .slice none 0 0, .int .i64 0, .bool false, .int .i64 0, .int .i64 0] 29 31 26
  have D3 := Lib.hid (b1.trans (B3.mono b1.size))
  have R1 := Lib.hid r1
  have R2 := Lib.hid r2
  have R3 := Lib.hid r3
  have Z1 := b1.size
  clear r1 r2 r3 B3 b1
  go_upto_region 4 with (first
    | (refine wpList_store_whole rfl 29 (.tmp 9) (.tmp 17) rfl w1.heap.size tinySC ?_ ?_ 29 #[.int .i64 0, .int .i64 0, .int .i64 0, .int .i64 0, .int .i64 0, .int .i64 0, .slice none 0 0, .int .i64 0, .int .i64 0] R1.out ?_ ?_ ?_ ?_; rfl; rfl; kernel_rfl; rfl; (simp [tinySC, Value.oneCell']); intro w4 s4 f4; have p4 := (f4.block _ (row_lt R2.out) (by omega)).trans R2.out; have h4 := (f4.block _ (row_lt R3.out) (by omega)).trans R3.out)
    | (refine wpList_store_whole rfl 31 (.tmp 10) (.tmp 18) rfl (w1.heap.size + 1) tinyPC ?_ ?_ 31 #[.bool false, .bool false, .int .i64 0, .int .i64 0, .int .i64 0, .bool false, .bool false, .int .i64 0, .int .i64 0] p4 ?_ ?_ ?_ ?_; rfl; rfl; kernel_rfl; rfl; (simp [tinyPC, Value.oneCell']); intro w5 p5 f5; have s5 := (f5.block _ (row_lt s4) (by omega)).trans s4; have h5 := (f5.block _ (row_lt h4) (by omega)).trans h4)
    | (refine wpList_store_whole rfl 26 (.tmp 11) (.tmp 19) rfl (w1.heap.size + 1 + 1) (tinyHC 26) ?_ ?_ 26 #[.int .i64 0, .int .i64 0, .int .i64 0, .int .i64 0, .int .i64 0, .int .i64 0, .bool false, .int .i64 0, .int .i64 0, .slice none 0 0, .slice none 0 0, .int .i64 0, .int .i64 0, .slice none 0 0, .slice none 0 0, .bool false, .slice none 0 0, .int .i64 0, .bool false, .int .i64 0, .int .i64 0] h5 ?_ ?_ ?_ ?_; rfl; rfl; kernel_rfl; rfl; (simp [tinyHC, headCells, Value.oneCell']); intro w6 h6 f6; have s6 := (f6.block _ (row_lt s5) (by omega)).trans s5; have p6 := (f6.block _ (row_lt p5) (by omega)).trans p5))
  have D6 := Lib.hid (((D3.out.trans (Fr.below f4 D3.out.size (fun k e => by omega))).trans (Fr.below f5 (Nat.le_trans D3.out.size f4.size) (fun k e => by omega))).trans (Fr.below f6 (Nat.le_trans D3.out.size (Nat.le_trans f4.size f5.size)) (fun k e => by omega)))
  have lh := row_lt h6
  clear f4 f5 f6 s4 p4 h4 s5 p5 h5 R1 R2 R3 D3
  have c_ : w6.cell? ⟨(w1.heap.size + 1 + 1), 19, none⟩ = some (.int .i64 0) := by rw [cell_of_row w6 _ 19 _ _ _ h6]; rfl
  have z_ : w6.frozen? ⟨(w1.heap.size + 1 + 1), 19, none⟩ = false := free_row h6 19
  obtain ⟨w7, hw_⟩ : ∃ x, w6.setCell ⟨(w1.heap.size + 1 + 1), 19, none⟩ (.int .i64 A) = x := ⟨_, rfl⟩
  have f_ : Fr (fun k => k = (w1.heap.size + 1 + 1)) w6 w7 := by rw [← hw_]; exact set_fr _ _ _ _
  have h7 : w7.heap[(w1.heap.size + 1 + 1)]? = some (.cells (headCells (fltH A 0 false) zAdr) 26 (0, 0)) := by rw [← hw_]; exact heap_setCell_row h6 19 _
  have s7 := (f_.block _ (row_lt s6) (by omega)).trans s6
  have p7 := (f_.block _ (row_lt p6) (by omega)).trans p6
  go_upto_region 5 with fail
  try rw [hw_]
  have D7 := Lib.hid (D6.out.trans (Fr.below f_ D6.out.size (fun k e => by omega)))
  clear c_ z_ hw_ f_ h6 s6 p6 D6
  have c_ : w7.cell? ⟨(w1.heap.size + 1 + 1), 20, none⟩ = some (.int .i64 0) := by rw [cell_of_row w7 _ 20 _ _ _ h7]; rfl
  have z_ : w7.frozen? ⟨(w1.heap.size + 1 + 1), 20, none⟩ = false := free_row h7 20
  obtain ⟨w8, hw_⟩ : ∃ x, w7.setCell ⟨(w1.heap.size + 1 + 1), 20, none⟩ (.int .i64 B) = x := ⟨_, rfl⟩
  have f_ : Fr (fun k => k = (w1.heap.size + 1 + 1)) w7 w8 := by rw [← hw_]; exact set_fr _ _ _ _
  have h8 : w8.heap[(w1.heap.size + 1 + 1)]? = some (.cells (headCells (fltH A B false) zAdr) 26 (0, 0)) := by rw [← hw_]; exact heap_setCell_row h7 20 _
  have s8 := (f_.block _ (row_lt s7) (by omega)).trans s7
  have p8 := (f_.block _ (row_lt p7) (by omega)).trans p7
  go_upto_region 6 with fail
  try rw [hw_]
  have D8 := Lib.hid (D7.out.trans (Fr.below f_ D7.out.size (fun k e => by omega)))
  clear c_ z_ hw_ f_ h7 s7 p7 D7
  have c_ : w8.cell? ⟨(w1.heap.size + 1 + 1), 18, none⟩ = some (.bool false) := by rw [cell_of_row w8 _ 18 _ _ _ h8]; rfl
  have z_ : w8.frozen? ⟨(w1.heap.size + 1 + 1), 18, none⟩ = false := free_row h8 18
  obtain ⟨w9, hw_⟩ : ∃ x, w8.setCell ⟨(w1.heap.size + 1 + 1), 18, none⟩ (.bool a2) = x := ⟨_, rfl⟩
  have f_ : Fr (fun k => k = (w1.heap.size + 1 + 1)) w8 w9 := by rw [← hw_]; exact set_fr _ _ _ _
  have h9 : w9.heap[(w1.heap.size + 1 + 1)]? = some (.cells (headCells (fltH A B a2) zAdr) 26 (0, 0)) := by rw [← hw_]; exact heap_setCell_row h8 18 _
  have s9 := (f_.block _ (row_lt s8) (by omega)).trans s8
  have p9 := (f_.block _ (row_lt p8) (by omega)).trans p8
  go_upto_region 7 with fail
  try rw [hw_]
  have D9 := Lib.hid (D8.out.trans (Fr.below f_ D8.out.size (fun k e => by omega)))
  clear c_ z_ hw_ f_ h8 s8 p8 D8
  have c_ : w9.cell? ⟨(w1.heap.size + 1), 6, none⟩ = some (.bool false) := by rw [cell_of_row w9 _ 6 _ _ _ p9]; rfl
  have z_ : w9.frozen? ⟨(w1.heap.size + 1), 6, none⟩ = false := free_row p9 6
  obtain ⟨w10, hw_⟩ : ∃ x, w9.setCell ⟨(w1.heap.size + 1), 6, none⟩ (.bool a3) = x := ⟨_, rfl⟩
  have f_ : Fr (fun k => k = (w1.heap.size + 1)) w9 w10 := by rw [← hw_]; exact set_fr _ _ _ _
  have p10 : w10.heap[(w1.heap.size + 1)]? = some (.cells (fltPC a3) 31 (0, 0)) := by rw [← hw_]; exact heap_setCell_row p9 6 _
  have h10 := (f_.block _ (row_lt h9) (by omega)).trans h9
  have s10 := (f_.block _ (row_lt s9) (by omega)).trans s9
  go_upto_region 8 with fail
  try rw [hw_]
  have D10 := Lib.hid (D9.out.trans (Fr.below f_ D9.out.size (fun k e => by omega)))
  clear c_ z_ hw_ f_ h9 s9 p9 D9
  have c19 : w10.cell? ⟨(w1.heap.size + 1 + 1), 19, none⟩ = some (.int .i64 A) := by rw [cell_of_row w10 _ 19 _ _ _ h10]; rfl
  have c20 : w10.cell? ⟨(w1.heap.size + 1 + 1), 20, none⟩ = some (.int .i64 B) := by rw [cell_of_row w10 _ 20 _ _ _ h10]; rfl
  have hm := flt_is A B a2 a3
  have hmay := fun w => may_is w tinyS none 0 (fltP a3) 0 false (fltH A B a2) none none none none none 0 0 0 0 0 (IntRow.nil _ _) (by decide) ⟨KRow.nil _ _ _ _, KRow.nil _ _ _ _, KRow.nil _ _ _ _, KRow.nil _ _ _ _, KRow.nil _ _ _ _, by simp [fltH], by simp [fltH], by simp [fltH], by simp [fltH], by simp [fltH]⟩
  obtain ⟨M, hM⟩ : ∃ x, fltIs A B a2 a3 = x := ⟨_, rfl⟩
  rw [hm, hM] at hmay
  have HM := And.intro hM trivial
  clear hm hM
  obtain ⟨F, hF⟩ : ∃ x, (decide (-6 ≤ A) && (decide (A ≤ 6) && (decide (-6 ≤ B) && decide (B ≤ 6)))) = x := ⟨_, rfl⟩
  clear hA hB
  go_upto_region 9 with fail
  all_goals (cases a2)
  all_goals (cases a3)
  all_goals go_upto_region 11 with fail
  all_goals subst_vars
  all_goals (first | (rw [show (B == 0) = (B == 0) from rfl]; cases hx : (B == 0)) | (rw [show decide (B ≤ 6) = decide (B ≤ 6) from rfl]; cases hx : decide (B ≤ 6)) | skip)
  all_goals
    go_wp2_with (first | (refine wpList_load_row_w rfl 26 (.tmp 11) rfl (w1.heap.size + 1 + 1) rfl 26 _ (0, 0) _ h10 Tryz.underlying26 rfl (by kernel_rfl) ?_) | (refine wpList_load_row_w rfl 29 (.tmp 9) rfl w1.heap.size rfl 29 tinySC (0, 0) _ s10 Tryz.underlying29 rfl (by kernel_rfl) ?_) | (refine wpList_load_row_w rfl 31 (.tmp 10) rfl (w1.heap.size + 1) rfl 31 _ (0, 0) _ p10 Tryz.underlying31 rfl (by kernel_rfl) ?_))
    refine (hmay _).mono ?_
    rintro e wF ⟨rfl, bF⟩
    have DF := Lib.hid (D10.out.trans (bF.mono D10.out.size))
    go_wp2_with fail
    go_ret
    refine ⟨?_, DF.out⟩
    have hM := HM.1
    clear HM hmay DF bF h10 s10 p10 c19 c20
    simp_all [fltIs]
    try (rw [← hM]; simp only [Bool.and_eq_false_iff, decide_eq_false_iff_not]; omega)

end Go.Proofs.YthcbgijmnonckaaGreat
