/- Layer 3: the walk of the law ParamsPocs, told that the program's ranges and its GetSps answer as they should. -/
import Derived.Test.YtadfgadkihlmcaaQT
namespace Go.Proofs.Ytadfgadkihlmcaa
open Go.RowKit Zo Zp

theorem u64_rem (a : Int) : 0 ≤ (IntKind.u64.wrap a).tmod 3 ∧ (IntKind.u64.wrap a).tmod 3 < 3 := by
  have h : 0 ≤ IntKind.u64.wrap a := by rw [IntKind.wrap_u64]; omega
  rw [Int.tmod_eq_emod_of_nonneg h]
  omega

theorem row_ints {w : World} {g : Nat} {l : List Int} (h : w.heap[g]? = some (.cells (iv l).toArray 3 (0, 0))) : IntRow w (some ⟨g, 0, none⟩) l := by
  intro _
  refine ⟨g, 0, rfl, row_lt h, fun i hi => ?_⟩
  rw [cell_of_row _ _ _ _ _ _ h, Nat.zero_add]
  simp [iv, hi]

theorem may_nonref (k nv : Int) (h0 : 0 ≤ nv) (h1 : nv ≤ 255) (hk : k = 0 ∨ k = 1 ∨ k = 2) : decide (SpsN.may ⟨1, 1, 4, k, 4, 1 + nv, [], 2, 0⟩) = decide (k = 1) := by
  rw [decide_eq_decide]
  constructor
  · rintro ⟨_, _, _, _, _, _, _, _, _, _, _, _, _, _, h, _⟩
    rcases h with h | ⟨h, _⟩
    · exact h
    · simp only at h; omega
  · rintro rfl
    refine ⟨?_, ?_, ?_, ?_, ?_, ?_, ?_, ?_, ?_, ?_, ?_, ?_, ?_, fun x hx => (by cases hx), .inl rfl, .inr rfl, ?_, ?_, ?_, ?_, .inr rfl⟩ <;> simp only [List.length_nil] <;> omega

set_option maxRecDepth 100000 in
set_option maxHeartbeats 8000000 in
theorem paramsPocs_at (HS : MaySpsOk) (HP : MayPpsOk) (HG : GetSpsOk) (a0 a1 : Int) (w : World) :
    Calls Try.prog 7 #[.int .i64 a0, .int .i64 a1] w fun e w' => e = .returned (.bool true) ∧ Below w.heap.size w w' := by
  have HA := Lib.hid (awake3 HS HP HG)
  obtain ⟨r0, r3⟩ := u64_rem a0
  have hnv := and_mask_i64 a1 8 (by decide)
  rw [show (((2 ^ 8 - 1 : Nat)) : Int) = 255 from rfl, show (((2 ^ 8 : Nat)) : Int) = 256 from rfl] at hnv
  have n0 := Int.emod_nonneg a1 (show (256 : Int) ≠ 0 by decide)
  have n1 := Int.emod_lt_of_pos a1 (show (0 : Int) < 256 by decide)
  obtain ⟨nv, hn⟩ : ∃ nv, a1 % 256 = nv := ⟨_, rfl⟩
  rw [hn] at hnv n0 n1
  clear hn
  obtain ⟨k, hk⟩ : ∃ k, (IntKind.u64.wrap a0).tmod 3 = k := ⟨_, rfl⟩
  rw [hk] at r0 r3
  rcases (show k = 0 ∨ k = 1 ∨ k = 2 by omega) with rfl | rfl | rfl
  · clear r0 r3
    have M1 : Hid (∀ a cap w1, IntRow w1 a [] → Calls Try.prog 15 #[.agg #[.int .i64 1, .int .i64 1, .int .i64 4, .int .i64 0, .int .i64 4, .int .i64 0, .slice a 0 cap, .int .i64 2, .int .i64 0]] w1 fun e w' => e = .returned (.bool true) ∧ Below w1.heap.size w1 w') := fun a cap w1 h => by
      have := HS ⟨1, 1, 4, 0, 4, 0, [], 2, 0⟩ a cap w1 h (by first | decide | simp)
      rw [show decide (SpsN.may _) = true from by decide] at this
      exact this
    have M2 : Hid (∀ a cap w1, IntRow w1 a [] → Calls Try.prog 15 #[.agg #[.int .i64 1, .int .i64 1, .int .i64 4, .int .i64 0, .int .i64 5, .int .i64 0, .slice a 0 cap, .int .i64 2, .int .i64 0]] w1 fun e w' => e = .returned (.bool true) ∧ Below w1.heap.size w1 w') := fun a cap w1 h => by
      have := HS ⟨1, 1, 4, 0, 5, 0, [], 2, 0⟩ a cap w1 h (by first | decide | simp)
      rw [show decide (SpsN.may _) = true from by decide] at this
      exact this
    have M3 : Hid (∀ a cap w1, IntRow w1 a [] → Calls Try.prog 15 #[.agg #[.int .i64 1, .int .i64 1, .int .i64 4, .int .i64 0, .int .i64 4, .int .i64 (1 + nv), .slice a 0 cap, .int .i64 2, .int .i64 0]] w1 fun e w' => e = .returned (.bool false) ∧ Below w1.heap.size w1 w') := fun a cap w1 h => by
      have := HS ⟨1, 1, 4, 0, 4, (1 + nv), [], 2, 0⟩ a cap w1 h (by first | decide | simp)
      rw [may_nonref 0 nv (by omega) (by omega) (by omega), show decide ((0 : Int) = 1) = false from by decide] at this
      exact this
    have M4 : Hid (∀ a cap w1, IntRow w1 a [1, 2, 3, 4] → Calls Try.prog 15 #[.agg #[.int .i64 1, .int .i64 1, .int .i64 4, .int .i64 0, .int .i64 4, .int .i64 0, .slice a 4 cap, .int .i64 2, .int .i64 0]] w1 fun e w' => e = .returned (.bool false) ∧ Below w1.heap.size w1 w') := fun a cap w1 h => by
      have := HS ⟨1, 1, 4, 0, 4, 0, [1, 2, 3, 4], 2, 0⟩ a cap w1 h (by first | decide | simp)
      rw [show decide (SpsN.may _) = false from by decide] at this
      exact this
    have M5 : Hid (∀ a cap w1, IntRow w1 a [1, 2, 3, 4, 5] → Calls Try.prog 15 #[.agg #[.int .i64 1, .int .i64 1, .int .i64 4, .int .i64 0, .int .i64 4, .int .i64 0, .slice a 5 cap, .int .i64 2, .int .i64 0]] w1 fun e w' => e = .returned (.bool false) ∧ Below w1.heap.size w1 w') := fun a cap w1 h => by
      have := HS ⟨1, 1, 4, 0, 4, 0, [1, 2, 3, 4, 5], 2, 0⟩ a cap w1 h (by first | decide | simp)
      rw [show decide (SpsN.may _) = false from by decide] at this
      exact this
    have M6 : Hid (∀ a cap w1, IntRow w1 a [] → Calls Try.prog 15 #[.agg #[.int .i64 1, .int .i64 1, .int .i64 4, .int .i64 0, .int .i64 4, .int .i64 0, .slice a 0 cap, .int .i64 2, .int .i64 1]] w1 fun e w' => e = .returned (.bool true) ∧ Below w1.heap.size w1 w') := fun a cap w1 h => by
      have := HS ⟨1, 1, 4, 0, 4, 0, [], 2, 1⟩ a cap w1 h (by first | decide | simp)
      rw [show decide (SpsN.may _) = true from by decide] at this
      exact this
    go_enter Try.func7, Try.ntmps7
    go_wp2_with fail
    refine (HA.out _).mono ?_
    rintro e w1 ⟨rfl, b1⟩
    have X1 := Lib.hid (heap_alloc_last w1 (.cells #[.int .i64 1, .int .i64 1, .int .i64 4, .int .i64 0, .int .i64 4, .int .i64 0, .slice none 0 0, .int .i64 2, .int .i64 0] 24))
    have D1 := Lib.hid (b1.alloc b1.size (.cells #[.int .i64 1, .int .i64 1, .int .i64 4, .int .i64 0, .int .i64 4, .int .i64 0, .slice none 0 0, .int .i64 2, .int .i64 0] 24))
    have Z1 := Lib.hid b1.size
    clear b1
    go_wp2_with fail
    refine (M1.out _ _ _ (by exact IntRow.nil _ _)).mono ?_
    rintro e v1 ⟨rfl, c1⟩
    have X1_ := Lib.hid ((c1.block _ (row_lt X1.out)).trans X1.out)
    have D1_ := Lib.hid (D1.out.trans (c1.mono D1.out.size))
    clear c1 X1 D1
    have f2_0 := free_row X1_.out 4
    have d2_0 := cell_of_row _ _ 4 _ _ _ X1_.out
    simp at d2_0
    have X2 : Hid ((v1.setCell ⟨w1.heap.size, 4, none⟩ (.int .i64 5)).heap[w1.heap.size]? = some (.cells #[.int .i64 1, .int .i64 1, .int .i64 4, .int .i64 0, .int .i64 5, .int .i64 0, .slice none 0 0, .int .i64 2, .int .i64 0] 24 (0, 0))) := heap_setCell_row X1_.out 4 (.int .i64 5)
    have D2 := Lib.hid (D1_.out.setCell (p := ⟨w1.heap.size, 4, none⟩) Z1.out (.int .i64 5))
    clear X1_ D1_
    obtain ⟨x0, x1, x2, x3, x4, x5, x6, x7, x8⟩ := nine_cells X2.out
    go_wp2_with fail
    refine (M2.out _ _ _ (by exact IntRow.nil _ _)).mono ?_
    rintro e v2 ⟨rfl, c2⟩
    have X2_ := Lib.hid ((c2.block _ (row_lt X2.out)).trans X2.out)
    have D2_ := Lib.hid (D2.out.trans (c2.mono D2.out.size))
    clear c2 X2 D2 x0 x1 x2 x3 x4 x5 x6 x7 x8
    have f3_0 := free_row X2_.out 4
    have d3_0 := cell_of_row _ _ 4 _ _ _ X2_.out
    simp at d3_0
    have X3_0 : Hid ((v2.setCell ⟨w1.heap.size, 4, none⟩ (.int .i64 4)).heap[w1.heap.size]? = some (.cells #[.int .i64 1, .int .i64 1, .int .i64 4, .int .i64 0, .int .i64 4, .int .i64 0, .slice none 0 0, .int .i64 2, .int .i64 0] 24 (0, 0))) := heap_setCell_row X2_.out 4 (.int .i64 4)
    have D3_0 := Lib.hid (D2_.out.setCell (p := ⟨w1.heap.size, 4, none⟩) Z1.out (.int .i64 4))
    clear X2_ D2_
    have f3_1 := free_row X3_0.out 5
    have d3_1 := cell_of_row _ _ 5 _ _ _ X3_0.out
    simp at d3_1
    have X3 : Hid (((v2.setCell ⟨w1.heap.size, 4, none⟩ (.int .i64 4)).setCell ⟨w1.heap.size, 5, none⟩ (.int .i64 (1 + nv))).heap[w1.heap.size]? = some (.cells #[.int .i64 1, .int .i64 1, .int .i64 4, .int .i64 0, .int .i64 4, .int .i64 (1 + nv), .slice none 0 0, .int .i64 2, .int .i64 0] 24 (0, 0))) := heap_setCell_row X3_0.out 5 (.int .i64 (1 + nv))
    have D3 := Lib.hid (D3_0.out.setCell (p := ⟨w1.heap.size, 5, none⟩) Z1.out (.int .i64 (1 + nv)))
    clear X3_0 D3_0
    obtain ⟨x0, x1, x2, x3, x4, x5, x6, x7, x8⟩ := nine_cells X3.out
    try rw [hnv]
    go_wp2_with fail
    refine (M3.out _ _ _ (by exact IntRow.nil _ _)).mono ?_
    rintro e v3 ⟨rfl, c3⟩
    have X3_ := Lib.hid ((c3.block _ (row_lt X3.out)).trans X3.out)
    have D3_ := Lib.hid (D3.out.trans (c3.mono D3.out.size))
    clear c3 X3 D3 x0 x1 x2 x3 x4 x5 x6 x7 x8
    have f4_z := free_row X3_.out 5
    have d4_z := cell_of_row _ _ 5 _ _ _ X3_.out
    simp at d4_z
    have X3z : Hid ((v3.setCell ⟨w1.heap.size, 5, none⟩ (.int .i64 0)).heap[w1.heap.size]? = some (.cells #[.int .i64 1, .int .i64 1, .int .i64 4, .int .i64 0, .int .i64 4, .int .i64 0, .slice none 0 0, .int .i64 2, .int .i64 0] 24 (0, 0))) := heap_setCell_row X3_.out 5 (.int .i64 0)
    have D3z := Lib.hid (D3_.out.setCell (p := ⟨w1.heap.size, 5, none⟩) Z1.out (.int .i64 0))
    clear X3_ D3_
    have f4_a := free_row X3z.out 6
    have d4_a := cell_of_row _ _ 6 _ _ _ X3z.out
    simp at d4_a
    have Xq4 := Lib.hid ((heap_alloc_other (o := (.cells #[.int .i64 1, .int .i64 2, .int .i64 3, .int .i64 4] 3)) (row_lt X3z.out)).trans X3z.out)
    have f4_b := free_row Xq4.out 6
    have d4_b := cell_of_row _ _ 6 _ _ _ Xq4.out
    simp at d4_b
    have ez4 : ((v3.setCell ⟨w1.heap.size, 5, none⟩ (.int .i64 0)).setCell ⟨w1.heap.size, 6, none⟩ (.slice (some ⟨v3.heap.size, 0, none⟩) 4 4)).heap.size = v3.heap.size := by simp
    have Xa4 : Hid (((v3.setCell ⟨w1.heap.size, 5, none⟩ (.int .i64 0)).setCell ⟨w1.heap.size, 6, none⟩ (.slice (some ⟨v3.heap.size, 0, none⟩) 4 4)).heap[w1.heap.size]? = some (.cells #[.int .i64 1, .int .i64 1, .int .i64 4, .int .i64 0, .int .i64 4, .int .i64 0, .slice (some ⟨v3.heap.size, 0, none⟩) 4 4, .int .i64 2, .int .i64 0] 24 (0, 0))) := heap_setCell_row X3z.out 6 (.slice (some ⟨v3.heap.size, 0, none⟩) 4 4)
    have Da4 := Lib.hid (D3z.out.setCell (p := ⟨w1.heap.size, 6, none⟩) Z1.out (.slice (some ⟨v3.heap.size, 0, none⟩) 4 4))
    have X4 := Lib.hid ((heap_alloc_other (o := (.cells #[.int .i64 1, .int .i64 2, .int .i64 3, .int .i64 4] 3)) (row_lt Xa4.out)).trans Xa4.out)
    have D4 := Lib.hid (Da4.out.alloc Da4.out.size (.cells #[.int .i64 1, .int .i64 2, .int .i64 3, .int .i64 4] 3))
    have ga4 := heap_alloc_last ((v3.setCell ⟨w1.heap.size, 5, none⟩ (.int .i64 0)).setCell ⟨w1.heap.size, 6, none⟩ (.slice (some ⟨v3.heap.size, 0, none⟩) 4 4)) (.cells #[.int .i64 1, .int .i64 2, .int .i64 3, .int .i64 4] 3)
    rw [ez4] at ga4
    have R4 : Hid (IntRow (((v3.setCell ⟨w1.heap.size, 5, none⟩ (.int .i64 0)).setCell ⟨w1.heap.size, 6, none⟩ (.slice (some ⟨v3.heap.size, 0, none⟩) 4 4)).alloc (.cells #[.int .i64 1, .int .i64 2, .int .i64 3, .int .i64 4] 3)) (some ⟨v3.heap.size, 0, none⟩) [1, 2, 3, 4]) := row_ints ga4
    have ey4 : (v3.setCell ⟨w1.heap.size, 5, none⟩ (.int .i64 0)).heap.size = v3.heap.size := by simp
    have la4 : w1.heap.size < v3.heap.size := by rw [← ey4]; exact row_lt X3z.out
    have gb4 := heap_alloc_last (v3.setCell ⟨w1.heap.size, 5, none⟩ (.int .i64 0)) (.cells #[.int .i64 1, .int .i64 2, .int .i64 3, .int .i64 4] 3)
    rw [ey4] at gb4
    have fx4 : Fr (fun k => k = w1.heap.size) ((v3.setCell ⟨w1.heap.size, 5, none⟩ (.int .i64 0)).alloc (.cells #[.int .i64 1, .int .i64 2, .int .i64 3, .int .i64 4] 3)) (((v3.setCell ⟨w1.heap.size, 5, none⟩ (.int .i64 0)).alloc (.cells #[.int .i64 1, .int .i64 2, .int .i64 3, .int .i64 4] 3)).setCell ⟨w1.heap.size, 6, none⟩ (.slice (some ⟨v3.heap.size, 0, none⟩) 4 4)) := Fr.setCell (S := fun k => k = w1.heap.size) (Fr.refl _ _) (fun _ => rfl) _
    have RR4 : Hid (IntRow (((v3.setCell ⟨w1.heap.size, 5, none⟩ (.int .i64 0)).alloc (.cells #[.int .i64 1, .int .i64 2, .int .i64 3, .int .i64 4] 3)).setCell ⟨w1.heap.size, 6, none⟩ (.slice (some ⟨v3.heap.size, 0, none⟩) 4 4)) (some ⟨v3.heap.size, 0, none⟩) [1, 2, 3, 4]) := row_ints ((fx4.block _ (row_lt gb4) (by omega)).trans gb4)
    have XX4 : Hid ((((v3.setCell ⟨w1.heap.size, 5, none⟩ (.int .i64 0)).alloc (.cells #[.int .i64 1, .int .i64 2, .int .i64 3, .int .i64 4] 3)).setCell ⟨w1.heap.size, 6, none⟩ (.slice (some ⟨v3.heap.size, 0, none⟩) 4 4)).heap[w1.heap.size]? = some (.cells #[.int .i64 1, .int .i64 1, .int .i64 4, .int .i64 0, .int .i64 4, .int .i64 0, .slice (some ⟨v3.heap.size, 0, none⟩) 4 4, .int .i64 2, .int .i64 0] 24 (0, 0))) := heap_setCell_row Xq4.out 6 (.slice (some ⟨v3.heap.size, 0, none⟩) 4 4)
    have Dq4 := Lib.hid (D3z.out.alloc D3z.out.size (.cells #[.int .i64 1, .int .i64 2, .int .i64 3, .int .i64 4] 3))
    have DD4 := Lib.hid (Dq4.out.setCell (p := ⟨w1.heap.size, 6, none⟩) Z1.out (.slice (some ⟨v3.heap.size, 0, none⟩) 4 4))
    clear X3z D3z Xq4 Xa4 Da4 Dq4 ga4 gb4 ez4 ey4 fx4 la4
    obtain ⟨y0, y1, y2, y3, y4, y5, y6, y7, y8⟩ := nine_cells XX4.out
    obtain ⟨x0, x1, x2, x3, x4, x5, x6, x7, x8⟩ := nine_cells X4.out
    go_wp2_with fail
    refine (M4.out _ _ _ (by first | exact RR4.out | exact R4.out)).mono ?_
    rintro e v4 ⟨rfl, c4⟩
    have X4_ : Hid (v4.heap[w1.heap.size]? = some (.cells #[.int .i64 1, .int .i64 1, .int .i64 4, .int .i64 0, .int .i64 4, .int .i64 0, .slice (some ⟨v3.heap.size, 0, none⟩) 4 4, .int .i64 2, .int .i64 0] 24 (0, 0))) := (by first | exact (c4.block _ (row_lt XX4.out)).trans XX4.out | exact (c4.block _ (row_lt X4.out)).trans X4.out)
    have D4_ : Hid (Below w.heap.size w v4) := (by first | exact DD4.out.trans (c4.mono DD4.out.size) | exact D4.out.trans (c4.mono D4.out.size))
    clear c4 X4 D4 XX4 DD4 R4 RR4 x0 x1 x2 x3 x4 x5 x6 x7 x8 y0 y1 y2 y3 y4 y5 y6 y7 y8
    have f5_a := free_row X4_.out 6
    have d5_a := cell_of_row _ _ 6 _ _ _ X4_.out
    simp at d5_a
    have Xq5 := Lib.hid ((heap_alloc_other (o := (.cells #[.int .i64 1, .int .i64 2, .int .i64 3, .int .i64 4, .int .i64 5] 3)) (row_lt X4_.out)).trans X4_.out)
    have f5_b := free_row Xq5.out 6
    have d5_b := cell_of_row _ _ 6 _ _ _ Xq5.out
    simp at d5_b
    have ez5 : (v4.setCell ⟨w1.heap.size, 6, none⟩ (.slice (some ⟨v4.heap.size, 0, none⟩) 5 5)).heap.size = v4.heap.size := by simp
    have Xa5 : Hid ((v4.setCell ⟨w1.heap.size, 6, none⟩ (.slice (some ⟨v4.heap.size, 0, none⟩) 5 5)).heap[w1.heap.size]? = some (.cells #[.int .i64 1, .int .i64 1, .int .i64 4, .int .i64 0, .int .i64 4, .int .i64 0, .slice (some ⟨v4.heap.size, 0, none⟩) 5 5, .int .i64 2, .int .i64 0] 24 (0, 0))) := heap_setCell_row X4_.out 6 (.slice (some ⟨v4.heap.size, 0, none⟩) 5 5)
    have Da5 := Lib.hid (D4_.out.setCell (p := ⟨w1.heap.size, 6, none⟩) Z1.out (.slice (some ⟨v4.heap.size, 0, none⟩) 5 5))
    have X5 := Lib.hid ((heap_alloc_other (o := (.cells #[.int .i64 1, .int .i64 2, .int .i64 3, .int .i64 4, .int .i64 5] 3)) (row_lt Xa5.out)).trans Xa5.out)
    have D5 := Lib.hid (Da5.out.alloc Da5.out.size (.cells #[.int .i64 1, .int .i64 2, .int .i64 3, .int .i64 4, .int .i64 5] 3))
    have ga5 := heap_alloc_last (v4.setCell ⟨w1.heap.size, 6, none⟩ (.slice (some ⟨v4.heap.size, 0, none⟩) 5 5)) (.cells #[.int .i64 1, .int .i64 2, .int .i64 3, .int .i64 4, .int .i64 5] 3)
    rw [ez5] at ga5
    have R5 : Hid (IntRow ((v4.setCell ⟨w1.heap.size, 6, none⟩ (.slice (some ⟨v4.heap.size, 0, none⟩) 5 5)).alloc (.cells #[.int .i64 1, .int .i64 2, .int .i64 3, .int .i64 4, .int .i64 5] 3)) (some ⟨v4.heap.size, 0, none⟩) [1, 2, 3, 4, 5]) := row_ints ga5
    have ey5 : v4.heap.size = v4.heap.size := by simp
    have la5 : w1.heap.size < v4.heap.size := by rw [← ey5]; exact row_lt X4_.out
    have gb5 := heap_alloc_last v4 (.cells #[.int .i64 1, .int .i64 2, .int .i64 3, .int .i64 4, .int .i64 5] 3)
    rw [ey5] at gb5
    have fx5 : Fr (fun k => k = w1.heap.size) (v4.alloc (.cells #[.int .i64 1, .int .i64 2, .int .i64 3, .int .i64 4, .int .i64 5] 3)) ((v4.alloc (.cells #[.int .i64 1, .int .i64 2, .int .i64 3, .int .i64 4, .int .i64 5] 3)).setCell ⟨w1.heap.size, 6, none⟩ (.slice (some ⟨v4.heap.size, 0, none⟩) 5 5)) := Fr.setCell (S := fun k => k = w1.heap.size) (Fr.refl _ _) (fun _ => rfl) _
    have RR5 : Hid (IntRow ((v4.alloc (.cells #[.int .i64 1, .int .i64 2, .int .i64 3, .int .i64 4, .int .i64 5] 3)).setCell ⟨w1.heap.size, 6, none⟩ (.slice (some ⟨v4.heap.size, 0, none⟩) 5 5)) (some ⟨v4.heap.size, 0, none⟩) [1, 2, 3, 4, 5]) := row_ints ((fx5.block _ (row_lt gb5) (by omega)).trans gb5)
    have XX5 : Hid (((v4.alloc (.cells #[.int .i64 1, .int .i64 2, .int .i64 3, .int .i64 4, .int .i64 5] 3)).setCell ⟨w1.heap.size, 6, none⟩ (.slice (some ⟨v4.heap.size, 0, none⟩) 5 5)).heap[w1.heap.size]? = some (.cells #[.int .i64 1, .int .i64 1, .int .i64 4, .int .i64 0, .int .i64 4, .int .i64 0, .slice (some ⟨v4.heap.size, 0, none⟩) 5 5, .int .i64 2, .int .i64 0] 24 (0, 0))) := heap_setCell_row Xq5.out 6 (.slice (some ⟨v4.heap.size, 0, none⟩) 5 5)
    have Dq5 := Lib.hid (D4_.out.alloc D4_.out.size (.cells #[.int .i64 1, .int .i64 2, .int .i64 3, .int .i64 4, .int .i64 5] 3))
    have DD5 := Lib.hid (Dq5.out.setCell (p := ⟨w1.heap.size, 6, none⟩) Z1.out (.slice (some ⟨v4.heap.size, 0, none⟩) 5 5))
    clear X4_ D4_ Xq5 Xa5 Da5 Dq5 ga5 gb5 ez5 ey5 fx5 la5
    obtain ⟨y0, y1, y2, y3, y4, y5, y6, y7, y8⟩ := nine_cells XX5.out
    obtain ⟨x0, x1, x2, x3, x4, x5, x6, x7, x8⟩ := nine_cells X5.out
    go_wp2_with fail
    refine (M5.out _ _ _ (by first | exact RR5.out | exact R5.out)).mono ?_
    rintro e v5 ⟨rfl, c5⟩
    have X5_ : Hid (v5.heap[w1.heap.size]? = some (.cells #[.int .i64 1, .int .i64 1, .int .i64 4, .int .i64 0, .int .i64 4, .int .i64 0, .slice (some ⟨v4.heap.size, 0, none⟩) 5 5, .int .i64 2, .int .i64 0] 24 (0, 0))) := (by first | exact (c5.block _ (row_lt XX5.out)).trans XX5.out | exact (c5.block _ (row_lt X5.out)).trans X5.out)
    have D5_ : Hid (Below w.heap.size w v5) := (by first | exact DD5.out.trans (c5.mono DD5.out.size) | exact D5.out.trans (c5.mono D5.out.size))
    clear c5 X5 D5 XX5 DD5 R5 RR5 x0 x1 x2 x3 x4 x5 x6 x7 x8 y0 y1 y2 y3 y4 y5 y6 y7 y8
    have f6_0 := free_row X5_.out 6
    have d6_0 := cell_of_row _ _ 6 _ _ _ X5_.out
    simp at d6_0
    have X6_0 : Hid ((v5.setCell ⟨w1.heap.size, 6, none⟩ (.slice none 0 0)).heap[w1.heap.size]? = some (.cells #[.int .i64 1, .int .i64 1, .int .i64 4, .int .i64 0, .int .i64 4, .int .i64 0, .slice none 0 0, .int .i64 2, .int .i64 0] 24 (0, 0))) := heap_setCell_row X5_.out 6 (.slice none 0 0)
    have D6_0 := Lib.hid (D5_.out.setCell (p := ⟨w1.heap.size, 6, none⟩) Z1.out (.slice none 0 0))
    clear X5_ D5_
    have f6_1 := free_row X6_0.out 8
    have d6_1 := cell_of_row _ _ 8 _ _ _ X6_0.out
    simp at d6_1
    have X6 : Hid (((v5.setCell ⟨w1.heap.size, 6, none⟩ (.slice none 0 0)).setCell ⟨w1.heap.size, 8, none⟩ (.int .i64 1)).heap[w1.heap.size]? = some (.cells #[.int .i64 1, .int .i64 1, .int .i64 4, .int .i64 0, .int .i64 4, .int .i64 0, .slice none 0 0, .int .i64 2, .int .i64 1] 24 (0, 0))) := heap_setCell_row X6_0.out 8 (.int .i64 1)
    have D6 := Lib.hid (D6_0.out.setCell (p := ⟨w1.heap.size, 8, none⟩) Z1.out (.int .i64 1))
    clear X6_0 D6_0
    obtain ⟨x0, x1, x2, x3, x4, x5, x6, x7, x8⟩ := nine_cells X6.out
    go_wp2_with fail
    refine (M6.out _ _ _ (by exact IntRow.nil _ _)).mono ?_
    rintro e v6 ⟨rfl, c6⟩
    have X6_ := Lib.hid ((c6.block _ (row_lt X6.out)).trans X6.out)
    have D6_ := Lib.hid (D6.out.trans (c6.mono D6.out.size))
    clear c6 X6 D6 x0 x1 x2 x3 x4 x5 x6 x7 x8
    go_wp2_with fail
    refine (num_is _ _).mono ?_
    rintro e w' ⟨rfl, rfl⟩
    go_wp2_with fail
    go_ret
    exact ⟨rfl, D6_.out⟩
  · clear r0 r3
    have M1 : Hid (∀ a cap w1, IntRow w1 a [] → Calls Try.prog 15 #[.agg #[.int .i64 1, .int .i64 1, .int .i64 4, .int .i64 1, .int .i64 4, .int .i64 0, .slice a 0 cap, .int .i64 2, .int .i64 0]] w1 fun e w' => e = .returned (.bool true) ∧ Below w1.heap.size w1 w') := fun a cap w1 h => by
      have := HS ⟨1, 1, 4, 1, 4, 0, [], 2, 0⟩ a cap w1 h (by first | decide | simp)
      rw [show decide (SpsN.may _) = true from by decide] at this
      exact this
    have M2 : Hid (∀ a cap w1, IntRow w1 a [] → Calls Try.prog 15 #[.agg #[.int .i64 1, .int .i64 1, .int .i64 4, .int .i64 1, .int .i64 5, .int .i64 0, .slice a 0 cap, .int .i64 2, .int .i64 0]] w1 fun e w' => e = .returned (.bool false) ∧ Below w1.heap.size w1 w') := fun a cap w1 h => by
      have := HS ⟨1, 1, 4, 1, 5, 0, [], 2, 0⟩ a cap w1 h (by first | decide | simp)
      rw [show decide (SpsN.may _) = false from by decide] at this
      exact this
    have M3 : Hid (∀ a cap w1, IntRow w1 a [] → Calls Try.prog 15 #[.agg #[.int .i64 1, .int .i64 1, .int .i64 4, .int .i64 1, .int .i64 4, .int .i64 (1 + nv), .slice a 0 cap, .int .i64 2, .int .i64 0]] w1 fun e w' => e = .returned (.bool true) ∧ Below w1.heap.size w1 w') := fun a cap w1 h => by
      have := HS ⟨1, 1, 4, 1, 4, (1 + nv), [], 2, 0⟩ a cap w1 h (by first | decide | simp)
      rw [may_nonref 1 nv (by omega) (by omega) (by omega), show decide ((1 : Int) = 1) = true from by decide] at this
      exact this
    have M4 : Hid (∀ a cap w1, IntRow w1 a [1, 2, 3, 4] → Calls Try.prog 15 #[.agg #[.int .i64 1, .int .i64 1, .int .i64 4, .int .i64 1, .int .i64 4, .int .i64 0, .slice a 4 cap, .int .i64 2, .int .i64 0]] w1 fun e w' => e = .returned (.bool true) ∧ Below w1.heap.size w1 w') := fun a cap w1 h => by
      have := HS ⟨1, 1, 4, 1, 4, 0, [1, 2, 3, 4], 2, 0⟩ a cap w1 h (by first | decide | simp)
      rw [show decide (SpsN.may _) = true from by decide] at this
      exact this
    have M5 : Hid (∀ a cap w1, IntRow w1 a [1, 2, 3, 4, 5] → Calls Try.prog 15 #[.agg #[.int .i64 1, .int .i64 1, .int .i64 4, .int .i64 1, .int .i64 4, .int .i64 0, .slice a 5 cap, .int .i64 2, .int .i64 0]] w1 fun e w' => e = .returned (.bool false) ∧ Below w1.heap.size w1 w') := fun a cap w1 h => by
      have := HS ⟨1, 1, 4, 1, 4, 0, [1, 2, 3, 4, 5], 2, 0⟩ a cap w1 h (by first | decide | simp)
      rw [show decide (SpsN.may _) = false from by decide] at this
      exact this
    have M6 : Hid (∀ a cap w1, IntRow w1 a [] → Calls Try.prog 15 #[.agg #[.int .i64 1, .int .i64 1, .int .i64 4, .int .i64 1, .int .i64 4, .int .i64 0, .slice a 0 cap, .int .i64 2, .int .i64 1]] w1 fun e w' => e = .returned (.bool true) ∧ Below w1.heap.size w1 w') := fun a cap w1 h => by
      have := HS ⟨1, 1, 4, 1, 4, 0, [], 2, 1⟩ a cap w1 h (by first | decide | simp)
      rw [show decide (SpsN.may _) = true from by decide] at this
      exact this
    go_enter Try.func7, Try.ntmps7
    go_wp2_with fail
    refine (HA.out _).mono ?_
    rintro e w1 ⟨rfl, b1⟩
    have X1 := Lib.hid (heap_alloc_last w1 (.cells #[.int .i64 1, .int .i64 1, .int .i64 4, .int .i64 1, .int .i64 4, .int .i64 0, .slice none 0 0, .int .i64 2, .int .i64 0] 24))
    have D1 := Lib.hid (b1.alloc b1.size (.cells #[.int .i64 1, .int .i64 1, .int .i64 4, .int .i64 1, .int .i64 4, .int .i64 0, .slice none 0 0, .int .i64 2, .int .i64 0] 24))
    have Z1 := Lib.hid b1.size
    clear b1
    go_wp2_with fail
    refine (M1.out _ _ _ (by exact IntRow.nil _ _)).mono ?_
    rintro e v1 ⟨rfl, c1⟩
    have X1_ := Lib.hid ((c1.block _ (row_lt X1.out)).trans X1.out)
    have D1_ := Lib.hid (D1.out.trans (c1.mono D1.out.size))
    clear c1 X1 D1
    have f2_0 := free_row X1_.out 4
    have d2_0 := cell_of_row _ _ 4 _ _ _ X1_.out
    simp at d2_0
    have X2 : Hid ((v1.setCell ⟨w1.heap.size, 4, none⟩ (.int .i64 5)).heap[w1.heap.size]? = some (.cells #[.int .i64 1, .int .i64 1, .int .i64 4, .int .i64 1, .int .i64 5, .int .i64 0, .slice none 0 0, .int .i64 2, .int .i64 0] 24 (0, 0))) := heap_setCell_row X1_.out 4 (.int .i64 5)
    have D2 := Lib.hid (D1_.out.setCell (p := ⟨w1.heap.size, 4, none⟩) Z1.out (.int .i64 5))
    clear X1_ D1_
    obtain ⟨x0, x1, x2, x3, x4, x5, x6, x7, x8⟩ := nine_cells X2.out
    go_wp2_with fail
    refine (M2.out _ _ _ (by exact IntRow.nil _ _)).mono ?_
    rintro e v2 ⟨rfl, c2⟩
    have X2_ := Lib.hid ((c2.block _ (row_lt X2.out)).trans X2.out)
    have D2_ := Lib.hid (D2.out.trans (c2.mono D2.out.size))
    clear c2 X2 D2 x0 x1 x2 x3 x4 x5 x6 x7 x8
    have f3_0 := free_row X2_.out 4
    have d3_0 := cell_of_row _ _ 4 _ _ _ X2_.out
    simp at d3_0
    have X3_0 : Hid ((v2.setCell ⟨w1.heap.size, 4, none⟩ (.int .i64 4)).heap[w1.heap.size]? = some (.cells #[.int .i64 1, .int .i64 1, .int .i64 4, .int .i64 1, .int .i64 4, .int .i64 0, .slice none 0 0, .int .i64 2, .int .i64 0] 24 (0, 0))) := heap_setCell_row X2_.out 4 (.int .i64 4)
    have D3_0 := Lib.hid (D2_.out.setCell (p := ⟨w1.heap.size, 4, none⟩) Z1.out (.int .i64 4))
    clear X2_ D2_
    have f3_1 := free_row X3_0.out 5
    have d3_1 := cell_of_row _ _ 5 _ _ _ X3_0.out
    simp at d3_1
    have X3 : Hid (((v2.setCell ⟨w1.heap.size, 4, none⟩ (.int .i64 4)).setCell ⟨w1.heap.size, 5, none⟩ (.int .i64 (1 + nv))).heap[w1.heap.size]? = some (.cells #[.int .i64 1, .int .i64 1, .int .i64 4, .int .i64 1, .int .i64 4, .int .i64 (1 + nv), .slice none 0 0, .int .i64 2, .int .i64 0] 24 (0, 0))) := heap_setCell_row X3_0.out 5 (.int .i64 (1 + nv))
    have D3 := Lib.hid (D3_0.out.setCell (p := ⟨w1.heap.size, 5, none⟩) Z1.out (.int .i64 (1 + nv)))
    clear X3_0 D3_0
    obtain ⟨x0, x1, x2, x3, x4, x5, x6, x7, x8⟩ := nine_cells X3.out
    try rw [hnv]
    go_wp2_with fail
    refine (M3.out _ _ _ (by exact IntRow.nil _ _)).mono ?_
    rintro e v3 ⟨rfl, c3⟩
    have X3_ := Lib.hid ((c3.block _ (row_lt X3.out)).trans X3.out)
    have D3_ := Lib.hid (D3.out.trans (c3.mono D3.out.size))
    clear c3 X3 D3 x0 x1 x2 x3 x4 x5 x6 x7 x8
    have f4_z := free_row X3_.out 5
    have d4_z := cell_of_row _ _ 5 _ _ _ X3_.out
    simp at d4_z
    have X3z : Hid ((v3.setCell ⟨w1.heap.size, 5, none⟩ (.int .i64 0)).heap[w1.heap.size]? = some (.cells #[.int .i64 1, .int .i64 1, .int .i64 4, .int .i64 1, .int .i64 4, .int .i64 0, .slice none 0 0, .int .i64 2, .int .i64 0] 24 (0, 0))) := heap_setCell_row X3_.out 5 (.int .i64 0)
    have D3z := Lib.hid (D3_.out.setCell (p := ⟨w1.heap.size, 5, none⟩) Z1.out (.int .i64 0))
    clear X3_ D3_
    have f4_a := free_row X3z.out 6
    have d4_a := cell_of_row _ _ 6 _ _ _ X3z.out
    simp at d4_a
    have Xq4 := Lib.hid ((heap_alloc_other (o := (.cells #[.int .i64 1, .int .i64 2, .int .i64 3, .int .i64 4] 3)) (row_lt X3z.out)).trans X3z.out)
    have f4_b := free_row Xq4.out 6
    have d4_b := cell_of_row _ _ 6 _ _ _ Xq4.out
    simp at d4_b
    have ez4 : ((v3.setCell ⟨w1.heap.size, 5, none⟩ (.int .i64 0)).setCell ⟨w1.heap.size, 6, none⟩ (.slice (some ⟨v3.heap.size, 0, none⟩) 4 4)).heap.size = v3.heap.size := by simp
    have Xa4 : Hid (((v3.setCell ⟨w1.heap.size, 5, none⟩ (.int .i64 0)).setCell ⟨w1.heap.size, 6, none⟩ (.slice (some ⟨v3.heap.size, 0, none⟩) 4 4)).heap[w1.heap.size]? = some (.cells #[.int .i64 1, .int .i64 1, .int .i64 4, .int .i64 1, .int .i64 4, .int .i64 0, .slice (some ⟨v3.heap.size, 0, none⟩) 4 4, .int .i64 2, .int .i64 0] 24 (0, 0))) := heap_setCell_row X3z.out 6 (.slice (some ⟨v3.heap.size, 0, none⟩) 4 4)
    have Da4 := Lib.hid (D3z.out.setCell (p := ⟨w1.heap.size, 6, none⟩) Z1.out (.slice (some ⟨v3.heap.size, 0, none⟩) 4 4))
    have X4 := Lib.hid ((heap_alloc_other (o := (.cells #[.int .i64 1, .int .i64 2, .int .i64 3, .int .i64 4] 3)) (row_lt Xa4.out)).trans Xa4.out)
    have D4 := Lib.hid (Da4.out.alloc Da4.out.size (.cells #[.int .i64 1, .int .i64 2, .int .i64 3, .int .i64 4] 3))
    have ga4 := heap_alloc_last ((v3.setCell ⟨w1.heap.size, 5, none⟩ (.int .i64 0)).setCell ⟨w1.heap.size, 6, none⟩ (.slice (some ⟨v3.heap.size, 0, none⟩) 4 4)) (.cells #[.int .i64 1, .int .i64 2, .int .i64 3, .int .i64 4] 3)
    rw [ez4] at ga4
    have R4 : Hid (IntRow (((v3.setCell ⟨w1.heap.size, 5, none⟩ (.int .i64 0)).setCell ⟨w1.heap.size, 6, none⟩ (.slice (some ⟨v3.heap.size, 0, none⟩) 4 4)).alloc (.cells #[.int .i64 1, .int .i64 2, .int .i64 3, .int .i64 4] 3)) (some ⟨v3.heap.size, 0, none⟩) [1, 2, 3, 4]) := row_ints ga4
    have ey4 : (v3.setCell ⟨w1.heap.size, 5, none⟩ (.int .i64 0)).heap.size = v3.heap.size := by simp
    have la4 : w1.heap.size < v3.heap.size := by rw [← ey4]; exact row_lt X3z.out
    have gb4 := heap_alloc_last (v3.setCell ⟨w1.heap.size, 5, none⟩ (.int .i64 0)) (.cells #[.int .i64 1, .int .i64 2, .int .i64 3, .int .i64 4] 3)
    rw [ey4] at gb4
    have fx4 : Fr (fun k => k = w1.heap.size) ((v3.setCell ⟨w1.heap.size, 5, none⟩ (.int .i64 0)).alloc (.cells #[.int .i64 1, .int .i64 2, .int .i64 3, .int .i64 4] 3)) (((v3.setCell ⟨w1.heap.size, 5, none⟩ (.int .i64 0)).alloc (.cells #[.int .i64 1, .int .i64 2, .int .i64 3, .int .i64 4] 3)).setCell ⟨w1.heap.size, 6, none⟩ (.slice (some ⟨v3.heap.size, 0, none⟩) 4 4)) := Fr.setCell (S := fun k => k = w1.heap.size) (Fr.refl _ _) (fun _ => rfl) _
    have RR4 : Hid (IntRow (((v3.setCell ⟨w1.heap.size, 5, none⟩ (.int .i64 0)).alloc (.cells #[.int .i64 1, .int .i64 2, .int .i64 3, .int .i64 4] 3)).setCell ⟨w1.heap.size, 6, none⟩ (.slice (some ⟨v3.heap.size, 0, none⟩) 4 4)) (some ⟨v3.heap.size, 0, none⟩) [1, 2, 3, 4]) := row_ints ((fx4.block _ (row_lt gb4) (by omega)).trans gb4)
    have XX4 : Hid ((((v3.setCell ⟨w1.heap.size, 5, none⟩ (.int .i64 0)).alloc (.cells #[.int .i64 1, .int .i64 2, .int .i64 3, .int .i64 4] 3)).setCell ⟨w1.heap.size, 6, none⟩ (.slice (some ⟨v3.heap.size, 0, none⟩) 4 4)).heap[w1.heap.size]? = some (.cells #[.int .i64 1, .int .i64 1, .int .i64 4, .int .i64 1, .int .i64 4, .int .i64 0, .slice (some ⟨v3.heap.size, 0, none⟩) 4 4, .int .i64 2, .int .i64 0] 24 (0, 0))) := heap_setCell_row Xq4.out 6 (.slice (some ⟨v3.heap.size, 0, none⟩) 4 4)
    have Dq4 := Lib.hid (D3z.out.alloc D3z.out.size (.cells #[.int .i64 1, .int .i64 2, .int .i64 3, .int .i64 4] 3))
    have DD4 := Lib.hid (Dq4.out.setCell (p := ⟨w1.heap.size, 6, none⟩) Z1.out (.slice (some ⟨v3.heap.size, 0, none⟩) 4 4))
    clear X3z D3z Xq4 Xa4 Da4 Dq4 ga4 gb4 ez4 ey4 fx4 la4
    obtain ⟨y0, y1, y2, y3, y4, y5, y6, y7, y8⟩ := nine_cells XX4.out
    obtain ⟨x0, x1, x2, x3, x4, x5, x6, x7, x8⟩ := nine_cells X4.out
    go_wp2_with fail
    refine (M4.out _ _ _ (by first | exact RR4.out | exact R4.out)).mono ?_
    rintro e v4 ⟨rfl, c4⟩
    have X4_ : Hid (v4.heap[w1.heap.size]? = some (.cells #[.int .i64 1, .int .i64 1, .int .i64 4, .int .i64 1, .int .i64 4, .int .i64 0, .slice (some ⟨v3.heap.size, 0, none⟩) 4 4, .int .i64 2, .int .i64 0] 24 (0, 0))) := (by first | exact (c4.block _ (row_lt XX4.out)).trans XX4.out | exact (c4.block _ (row_lt X4.out)).trans X4.out)
    have D4_ : Hid (Below w.heap.size w v4) := (by first | exact DD4.out.trans (c4.mono DD4.out.size) | exact D4.out.trans (c4.mono D4.out.size))
    clear c4 X4 D4 XX4 DD4 R4 RR4 x0 x1 x2 x3 x4 x5 x6 x7 x8 y0 y1 y2 y3 y4 y5 y6 y7 y8
    have f5_a := free_row X4_.out 6
    have d5_a := cell_of_row _ _ 6 _ _ _ X4_.out
    simp at d5_a
    have Xq5 := Lib.hid ((heap_alloc_other (o := (.cells #[.int .i64 1, .int .i64 2, .int .i64 3, .int .i64 4, .int .i64 5] 3)) (row_lt X4_.out)).trans X4_.out)
    have f5_b := free_row Xq5.out 6
    have d5_b := cell_of_row _ _ 6 _ _ _ Xq5.out
    simp at d5_b
    have ez5 : (v4.setCell ⟨w1.heap.size, 6, none⟩ (.slice (some ⟨v4.heap.size, 0, none⟩) 5 5)).heap.size = v4.heap.size := by simp
    have Xa5 : Hid ((v4.setCell ⟨w1.heap.size, 6, none⟩ (.slice (some ⟨v4.heap.size, 0, none⟩) 5 5)).heap[w1.heap.size]? = some (.cells #[.int .i64 1, .int .i64 1, .int .i64 4, .int .i64 1, .int .i64 4, .int .i64 0, .slice (some ⟨v4.heap.size, 0, none⟩) 5 5, .int .i64 2, .int .i64 0] 24 (0, 0))) := heap_setCell_row X4_.out 6 (.slice (some ⟨v4.heap.size, 0, none⟩) 5 5)
    have Da5 := Lib.hid (D4_.out.setCell (p := ⟨w1.heap.size, 6, none⟩) Z1.out (.slice (some ⟨v4.heap.size, 0, none⟩) 5 5))
    have X5 := Lib.hid ((heap_alloc_other (o := (.cells #[.int .i64 1, .int .i64 2, .int .i64 3, .int .i64 4, .int .i64 5] 3)) (row_lt Xa5.out)).trans Xa5.out)
    have D5 := Lib.hid (Da5.out.alloc Da5.out.size (.cells #[.int .i64 1, .int .i64 2, .int .i64 3, .int .i64 4, .int .i64 5] 3))
    have ga5 := heap_alloc_last (v4.setCell ⟨w1.heap.size, 6, none⟩ (.slice (some ⟨v4.heap.size, 0, none⟩) 5 5)) (.cells #[.int .i64 1, .int .i64 2, .int .i64 3, .int .i64 4, .int .i64 5] 3)
    rw [ez5] at ga5
    have R5 : Hid (IntRow ((v4.setCell ⟨w1.heap.size, 6, none⟩ (.slice (some ⟨v4.heap.size, 0, none⟩) 5 5)).alloc (.cells #[.int .i64 1, .int .i64 2, .int .i64 3, .int .i64 4, .int .i64 5] 3)) (some ⟨v4.heap.size, 0, none⟩) [1, 2, 3, 4, 5]) := row_ints ga5
    have ey5 : v4.heap.size = v4.heap.size := by simp
    have la5 : w1.heap.size < v4.heap.size := by rw [← ey5]; exact row_lt X4_.out
    have gb5 := heap_alloc_last v4 (.cells #[.int .i64 1, .int .i64 2, .int .i64 3, .int .i64 4, .int .i64 5] 3)
    rw [ey5] at gb5
    have fx5 : Fr (fun k => k = w1.heap.size) (v4.alloc (.cells #[.int .i64 1, .int .i64 2, .int .i64 3, .int .i64 4, .int .i64 5] 3)) ((v4.alloc (.cells #[.int .i64 1, .int .i64 2, .int .i64 3, .int .i64 4, .int .i64 5] 3)).setCell ⟨w1.heap.size, 6, none⟩ (.slice (some ⟨v4.heap.size, 0, none⟩) 5 5)) := Fr.setCell (S := fun k => k = w1.heap.size) (Fr.refl _ _) (fun _ => rfl) _
    have RR5 : Hid (IntRow ((v4.alloc (.cells #[.int .i64 1, .int .i64 2, .int .i64 3, .int .i64 4, .int .i64 5] 3)).setCell ⟨w1.heap.size, 6, none⟩ (.slice (some ⟨v4.heap.size, 0, none⟩) 5 5)) (some ⟨v4.heap.size, 0, none⟩) [1, 2, 3, 4, 5]) := row_ints ((fx5.block _ (row_lt gb5) (by omega)).trans gb5)
    have XX5 : Hid (((v4.alloc (.cells #[.int .i64 1, .int .i64 2, .int .i64 3, .int .i64 4, .int .i64 5] 3)).setCell ⟨w1.heap.size, 6, none⟩ (.slice (some ⟨v4.heap.size, 0, none⟩) 5 5)).heap[w1.heap.size]? = some (.cells #[.int .i64 1, .int .i64 1, .int .i64 4, .int .i64 1, .int .i64 4, .int .i64 0, .slice (some ⟨v4.heap.size, 0, none⟩) 5 5, .int .i64 2, .int .i64 0] 24 (0, 0))) := heap_setCell_row Xq5.out 6 (.slice (some ⟨v4.heap.size, 0, none⟩) 5 5)
    have Dq5 := Lib.hid (D4_.out.alloc D4_.out.size (.cells #[.int .i64 1, .int .i64 2, .int .i64 3, .int .i64 4, .int .i64 5] 3))
    have DD5 := Lib.hid (Dq5.out.setCell (p := ⟨w1.heap.size, 6, none⟩) Z1.out (.slice (some ⟨v4.heap.size, 0, none⟩) 5 5))
    clear X4_ D4_ Xq5 Xa5 Da5 Dq5 ga5 gb5 ez5 ey5 fx5 la5
    obtain ⟨y0, y1, y2, y3, y4, y5, y6, y7, y8⟩ := nine_cells XX5.out
    obtain ⟨x0, x1, x2, x3, x4, x5, x6, x7, x8⟩ := nine_cells X5.out
    go_wp2_with fail
    refine (M5.out _ _ _ (by first | exact RR5.out | exact R5.out)).mono ?_
    rintro e v5 ⟨rfl, c5⟩
    have X5_ : Hid (v5.heap[w1.heap.size]? = some (.cells #[.int .i64 1, .int .i64 1, .int .i64 4, .int .i64 1, .int .i64 4, .int .i64 0, .slice (some ⟨v4.heap.size, 0, none⟩) 5 5, .int .i64 2, .int .i64 0] 24 (0, 0))) := (by first | exact (c5.block _ (row_lt XX5.out)).trans XX5.out | exact (c5.block _ (row_lt X5.out)).trans X5.out)
    have D5_ : Hid (Below w.heap.size w v5) := (by first | exact DD5.out.trans (c5.mono DD5.out.size) | exact D5.out.trans (c5.mono D5.out.size))
    clear c5 X5 D5 XX5 DD5 R5 RR5 x0 x1 x2 x3 x4 x5 x6 x7 x8 y0 y1 y2 y3 y4 y5 y6 y7 y8
    have f6_0 := free_row X5_.out 6
    have d6_0 := cell_of_row _ _ 6 _ _ _ X5_.out
    simp at d6_0
    have X6_0 : Hid ((v5.setCell ⟨w1.heap.size, 6, none⟩ (.slice none 0 0)).heap[w1.heap.size]? = some (.cells #[.int .i64 1, .int .i64 1, .int .i64 4, .int .i64 1, .int .i64 4, .int .i64 0, .slice none 0 0, .int .i64 2, .int .i64 0] 24 (0, 0))) := heap_setCell_row X5_.out 6 (.slice none 0 0)
    have D6_0 := Lib.hid (D5_.out.setCell (p := ⟨w1.heap.size, 6, none⟩) Z1.out (.slice none 0 0))
    clear X5_ D5_
    have f6_1 := free_row X6_0.out 8
    have d6_1 := cell_of_row _ _ 8 _ _ _ X6_0.out
    simp at d6_1
    have X6 : Hid (((v5.setCell ⟨w1.heap.size, 6, none⟩ (.slice none 0 0)).setCell ⟨w1.heap.size, 8, none⟩ (.int .i64 1)).heap[w1.heap.size]? = some (.cells #[.int .i64 1, .int .i64 1, .int .i64 4, .int .i64 1, .int .i64 4, .int .i64 0, .slice none 0 0, .int .i64 2, .int .i64 1] 24 (0, 0))) := heap_setCell_row X6_0.out 8 (.int .i64 1)
    have D6 := Lib.hid (D6_0.out.setCell (p := ⟨w1.heap.size, 8, none⟩) Z1.out (.int .i64 1))
    clear X6_0 D6_0
    obtain ⟨x0, x1, x2, x3, x4, x5, x6, x7, x8⟩ := nine_cells X6.out
    go_wp2_with fail
    refine (M6.out _ _ _ (by exact IntRow.nil _ _)).mono ?_
    rintro e v6 ⟨rfl, c6⟩
    have X6_ := Lib.hid ((c6.block _ (row_lt X6.out)).trans X6.out)
    have D6_ := Lib.hid (D6.out.trans (c6.mono D6.out.size))
    clear c6 X6 D6 x0 x1 x2 x3 x4 x5 x6 x7 x8
    go_wp2_with fail
    refine (num_is _ _).mono ?_
    rintro e w' ⟨rfl, rfl⟩
    go_wp2_with fail
    go_ret
    exact ⟨rfl, D6_.out⟩
  · clear r0 r3
    have M1 : Hid (∀ a cap w1, IntRow w1 a [] → Calls Try.prog 15 #[.agg #[.int .i64 1, .int .i64 1, .int .i64 4, .int .i64 2, .int .i64 4, .int .i64 0, .slice a 0 cap, .int .i64 2, .int .i64 0]] w1 fun e w' => e = .returned (.bool true) ∧ Below w1.heap.size w1 w') := fun a cap w1 h => by
      have := HS ⟨1, 1, 4, 2, 4, 0, [], 2, 0⟩ a cap w1 h (by first | decide | simp)
      rw [show decide (SpsN.may _) = true from by decide] at this
      exact this
    have M2 : Hid (∀ a cap w1, IntRow w1 a [] → Calls Try.prog 15 #[.agg #[.int .i64 1, .int .i64 1, .int .i64 4, .int .i64 2, .int .i64 5, .int .i64 0, .slice a 0 cap, .int .i64 2, .int .i64 0]] w1 fun e w' => e = .returned (.bool false) ∧ Below w1.heap.size w1 w') := fun a cap w1 h => by
      have := HS ⟨1, 1, 4, 2, 5, 0, [], 2, 0⟩ a cap w1 h (by first | decide | simp)
      rw [show decide (SpsN.may _) = false from by decide] at this
      exact this
    have M3 : Hid (∀ a cap w1, IntRow w1 a [] → Calls Try.prog 15 #[.agg #[.int .i64 1, .int .i64 1, .int .i64 4, .int .i64 2, .int .i64 4, .int .i64 (1 + nv), .slice a 0 cap, .int .i64 2, .int .i64 0]] w1 fun e w' => e = .returned (.bool false) ∧ Below w1.heap.size w1 w') := fun a cap w1 h => by
      have := HS ⟨1, 1, 4, 2, 4, (1 + nv), [], 2, 0⟩ a cap w1 h (by first | decide | simp)
      rw [may_nonref 2 nv (by omega) (by omega) (by omega), show decide ((2 : Int) = 1) = false from by decide] at this
      exact this
    have M4 : Hid (∀ a cap w1, IntRow w1 a [1, 2, 3, 4] → Calls Try.prog 15 #[.agg #[.int .i64 1, .int .i64 1, .int .i64 4, .int .i64 2, .int .i64 4, .int .i64 0, .slice a 4 cap, .int .i64 2, .int .i64 0]] w1 fun e w' => e = .returned (.bool false) ∧ Below w1.heap.size w1 w') := fun a cap w1 h => by
      have := HS ⟨1, 1, 4, 2, 4, 0, [1, 2, 3, 4], 2, 0⟩ a cap w1 h (by first | decide | simp)
      rw [show decide (SpsN.may _) = false from by decide] at this
      exact this
    have M5 : Hid (∀ a cap w1, IntRow w1 a [1, 2, 3, 4, 5] → Calls Try.prog 15 #[.agg #[.int .i64 1, .int .i64 1, .int .i64 4, .int .i64 2, .int .i64 4, .int .i64 0, .slice a 5 cap, .int .i64 2, .int .i64 0]] w1 fun e w' => e = .returned (.bool false) ∧ Below w1.heap.size w1 w') := fun a cap w1 h => by
      have := HS ⟨1, 1, 4, 2, 4, 0, [1, 2, 3, 4, 5], 2, 0⟩ a cap w1 h (by first | decide | simp)
      rw [show decide (SpsN.may _) = false from by decide] at this
      exact this
    have M6 : Hid (∀ a cap w1, IntRow w1 a [] → Calls Try.prog 15 #[.agg #[.int .i64 1, .int .i64 1, .int .i64 4, .int .i64 2, .int .i64 4, .int .i64 0, .slice a 0 cap, .int .i64 2, .int .i64 1]] w1 fun e w' => e = .returned (.bool false) ∧ Below w1.heap.size w1 w') := fun a cap w1 h => by
      have := HS ⟨1, 1, 4, 2, 4, 0, [], 2, 1⟩ a cap w1 h (by first | decide | simp)
      rw [show decide (SpsN.may _) = false from by decide] at this
      exact this
    go_enter Try.func7, Try.ntmps7
    go_wp2_with fail
    refine (HA.out _).mono ?_
    rintro e w1 ⟨rfl, b1⟩
    have X1 := Lib.hid (heap_alloc_last w1 (.cells #[.int .i64 1, .int .i64 1, .int .i64 4, .int .i64 2, .int .i64 4, .int .i64 0, .slice none 0 0, .int .i64 2, .int .i64 0] 24))
    have D1 := Lib.hid (b1.alloc b1.size (.cells #[.int .i64 1, .int .i64 1, .int .i64 4, .int .i64 2, .int .i64 4, .int .i64 0, .slice none 0 0, .int .i64 2, .int .i64 0] 24))
    have Z1 := Lib.hid b1.size
    clear b1
    go_wp2_with fail
    refine (M1.out _ _ _ (by exact IntRow.nil _ _)).mono ?_
    rintro e v1 ⟨rfl, c1⟩
    have X1_ := Lib.hid ((c1.block _ (row_lt X1.out)).trans X1.out)
    have D1_ := Lib.hid (D1.out.trans (c1.mono D1.out.size))
    clear c1 X1 D1
    have f2_0 := free_row X1_.out 4
    have d2_0 := cell_of_row _ _ 4 _ _ _ X1_.out
    simp at d2_0
    have X2 : Hid ((v1.setCell ⟨w1.heap.size, 4, none⟩ (.int .i64 5)).heap[w1.heap.size]? = some (.cells #[.int .i64 1, .int .i64 1, .int .i64 4, .int .i64 2, .int .i64 5, .int .i64 0, .slice none 0 0, .int .i64 2, .int .i64 0] 24 (0, 0))) := heap_setCell_row X1_.out 4 (.int .i64 5)
    have D2 := Lib.hid (D1_.out.setCell (p := ⟨w1.heap.size, 4, none⟩) Z1.out (.int .i64 5))
    clear X1_ D1_
    obtain ⟨x0, x1, x2, x3, x4, x5, x6, x7, x8⟩ := nine_cells X2.out
    go_wp2_with fail
    refine (M2.out _ _ _ (by exact IntRow.nil _ _)).mono ?_
    rintro e v2 ⟨rfl, c2⟩
    have X2_ := Lib.hid ((c2.block _ (row_lt X2.out)).trans X2.out)
    have D2_ := Lib.hid (D2.out.trans (c2.mono D2.out.size))
    clear c2 X2 D2 x0 x1 x2 x3 x4 x5 x6 x7 x8
    have f3_0 := free_row X2_.out 4
    have d3_0 := cell_of_row _ _ 4 _ _ _ X2_.out
    simp at d3_0
    have X3_0 : Hid ((v2.setCell ⟨w1.heap.size, 4, none⟩ (.int .i64 4)).heap[w1.heap.size]? = some (.cells #[.int .i64 1, .int .i64 1, .int .i64 4, .int .i64 2, .int .i64 4, .int .i64 0, .slice none 0 0, .int .i64 2, .int .i64 0] 24 (0, 0))) := heap_setCell_row X2_.out 4 (.int .i64 4)
    have D3_0 := Lib.hid (D2_.out.setCell (p := ⟨w1.heap.size, 4, none⟩) Z1.out (.int .i64 4))
    clear X2_ D2_
    have f3_1 := free_row X3_0.out 5
    have d3_1 := cell_of_row _ _ 5 _ _ _ X3_0.out
    simp at d3_1
    have X3 : Hid (((v2.setCell ⟨w1.heap.size, 4, none⟩ (.int .i64 4)).setCell ⟨w1.heap.size, 5, none⟩ (.int .i64 (1 + nv))).heap[w1.heap.size]? = some (.cells #[.int .i64 1, .int .i64 1, .int .i64 4, .int .i64 2, .int .i64 4, .int .i64 (1 + nv), .slice none 0 0, .int .i64 2, .int .i64 0] 24 (0, 0))) := heap_setCell_row X3_0.out 5 (.int .i64 (1 + nv))
    have D3 := Lib.hid (D3_0.out.setCell (p := ⟨w1.heap.size, 5, none⟩) Z1.out (.int .i64 (1 + nv)))
    clear X3_0 D3_0
    obtain ⟨x0, x1, x2, x3, x4, x5, x6, x7, x8⟩ := nine_cells X3.out
    try rw [hnv]
    go_wp2_with fail
    refine (M3.out _ _ _ (by exact IntRow.nil _ _)).mono ?_
    rintro e v3 ⟨rfl, c3⟩
    have X3_ := Lib.hid ((c3.block _ (row_lt X3.out)).trans X3.out)
    have D3_ := Lib.hid (D3.out.trans (c3.mono D3.out.size))
    clear c3 X3 D3 x0 x1 x2 x3 x4 x5 x6 x7 x8
    have f4_z := free_row X3_.out 5
    have d4_z := cell_of_row _ _ 5 _ _ _ X3_.out
    simp at d4_z
    have X3z : Hid ((v3.setCell ⟨w1.heap.size, 5, none⟩ (.int .i64 0)).heap[w1.heap.size]? = some (.cells #[.int .i64 1, .int .i64 1, .int .i64 4, .int .i64 2, .int .i64 4, .int .i64 0, .slice none 0 0, .int .i64 2, .int .i64 0] 24 (0, 0))) := heap_setCell_row X3_.out 5 (.int .i64 0)
    have D3z := Lib.hid (D3_.out.setCell (p := ⟨w1.heap.size, 5, none⟩) Z1.out (.int .i64 0))
    clear X3_ D3_
    have f4_a := free_row X3z.out 6
    have d4_a := cell_of_row _ _ 6 _ _ _ X3z.out
    simp at d4_a
    have Xq4 := Lib.hid ((heap_alloc_other (o := (.cells #[.int .i64 1, .int .i64 2, .int .i64 3, .int .i64 4] 3)) (row_lt X3z.out)).trans X3z.out)
    have f4_b := free_row Xq4.out 6
    have d4_b := cell_of_row _ _ 6 _ _ _ Xq4.out
    simp at d4_b
    have ez4 : ((v3.setCell ⟨w1.heap.size, 5, none⟩ (.int .i64 0)).setCell ⟨w1.heap.size, 6, none⟩ (.slice (some ⟨v3.heap.size, 0, none⟩) 4 4)).heap.size = v3.heap.size := by simp
    have Xa4 : Hid (((v3.setCell ⟨w1.heap.size, 5, none⟩ (.int .i64 0)).setCell ⟨w1.heap.size, 6, none⟩ (.slice (some ⟨v3.heap.size, 0, none⟩) 4 4)).heap[w1.heap.size]? = some (.cells #[.int .i64 1, .int .i64 1, .int .i64 4, .int .i64 2, .int .i64 4, .int .i64 0, .slice (some ⟨v3.heap.size, 0, none⟩) 4 4, .int .i64 2, .int .i64 0] 24 (0, 0))) := heap_setCell_row X3z.out 6 (.slice (some ⟨v3.heap.size, 0, none⟩) 4 4)
    have Da4 := Lib.hid (D3z.out.setCell (p := ⟨w1.heap.size, 6, none⟩) Z1.out (.slice (some ⟨v3.heap.size, 0, none⟩) 4 4))
    have X4 := Lib.hid ((heap_alloc_other (o := (.cells #[.int .i64 1, .int .i64 2, .int .i64 3, .int .i64 4] 3)) (row_lt Xa4.out)).trans Xa4.out)
    have D4 := Lib.hid (Da4.out.alloc Da4.out.size (.cells #[.int .i64 1, .int .i64 2, .int .i64 3, .int .i64 4] 3))
    have ga4 := heap_alloc_last ((v3.setCell ⟨w1.heap.size, 5, none⟩ (.int .i64 0)).setCell ⟨w1.heap.size, 6, none⟩ (.slice (some ⟨v3.heap.size, 0, none⟩) 4 4)) (.cells #[.int .i64 1, .int .i64 2, .int .i64 3, .int .i64 4] 3)
    rw [ez4] at ga4
    have R4 : Hid (IntRow (((v3.setCell ⟨w1.heap.size, 5, none⟩ (.int .i64 0)).setCell ⟨w1.heap.size, 6, none⟩ (.slice (some ⟨v3.heap.size, 0, none⟩) 4 4)).alloc (.cells #[.int .i64 1, .int .i64 2, .int .i64 3, .int .i64 4] 3)) (some ⟨v3.heap.size, 0, none⟩) [1, 2, 3, 4]) := row_ints ga4
    have ey4 : (v3.setCell ⟨w1.heap.size, 5, none⟩ (.int .i64 0)).heap.size = v3.heap.size := by simp
    have la4 : w1.heap.size < v3.heap.size := by rw [← ey4]; exact row_lt X3z.out
    have gb4 := heap_alloc_last (v3.setCell ⟨w1.heap.size, 5, none⟩ (.int .i64 0)) (.cells #[.int .i64 1, .int .i64 2, .int .i64 3, .int .i64 4] 3)
    rw [ey4] at gb4
    have fx4 : Fr (fun k => k = w1.heap.size) ((v3.setCell ⟨w1.heap.size, 5, none⟩ (.int .i64 0)).alloc (.cells #[.int .i64 1, .int .i64 2, .int .i64 3, .int .i64 4] 3)) (((v3.setCell ⟨w1.heap.size, 5, none⟩ (.int .i64 0)).alloc (.cells #[.int .i64 1, .int .i64 2, .int .i64 3, .int .i64 4] 3)).setCell ⟨w1.heap.size, 6, none⟩ (.slice (some ⟨v3.heap.size, 0, none⟩) 4 4)) := Fr.setCell (S := fun k => k = w1.heap.size) (Fr.refl _ _) (fun _ => rfl) _
    have RR4 : Hid (IntRow (((v3.setCell ⟨w1.heap.size, 5, none⟩ (.int .i64 0)).alloc (.cells #[.int .i64 1, .int .i64 2, .int .i64 3, .int .i64 4] 3)).setCell ⟨w1.heap.size, 6, none⟩ (.slice (some ⟨v3.heap.size, 0, none⟩) 4 4)) (some ⟨v3.heap.size, 0, none⟩) [1, 2, 3, 4]) := row_ints ((fx4.block _ (row_lt gb4) (by omega)).trans gb4)
    have XX4 : Hid ((((v3.setCell ⟨w1.heap.size, 5, none⟩ (.int .i64 0)).alloc (.cells #[.int .i64 1, .int .i64 2, .int .i64 3, .int .i64 4] 3)).setCell ⟨w1.heap.size, 6, none⟩ (.slice (some ⟨v3.heap.size, 0, none⟩) 4 4)).heap[w1.heap.size]? = some (.cells #[.int .i64 1, .int .i64 1, .int .i64 4, .int .i64 2, .int .i64 4, .int .i64 0, .slice (some ⟨v3.heap.size, 0, none⟩) 4 4, .int .i64 2, .int .i64 0] 24 (0, 0))) := heap_setCell_row Xq4.out 6 (.slice (some ⟨v3.heap.size, 0, none⟩) 4 4)
    have Dq4 := Lib.hid (D3z.out.alloc D3z.out.size (.cells #[.int .i64 1, .int .i64 2, .int .i64 3, .int .i64 4] 3))
    have DD4 := Lib.hid (Dq4.out.setCell (p := ⟨w1.heap.size, 6, none⟩) Z1.out (.slice (some ⟨v3.heap.size, 0, none⟩) 4 4))
    clear X3z D3z Xq4 Xa4 Da4 Dq4 ga4 gb4 ez4 ey4 fx4 la4
    obtain ⟨y0, y1, y2, y3, y4, y5, y6, y7, y8⟩ := nine_cells XX4.out
    obtain ⟨x0, x1, x2, x3, x4, x5, x6, x7, x8⟩ := nine_cells X4.out
    go_wp2_with fail
    refine (M4.out _ _ _ (by first | exact RR4.out | exact R4.out)).mono ?_
    rintro e v4 ⟨rfl, c4⟩
    have X4_ : Hid (v4.heap[w1.heap.size]? = some (.cells #[.int .i64 1, .int .i64 1, .int .i64 4, .int .i64 2, .int .i64 4, .int .i64 0, .slice (some ⟨v3.heap.size, 0, none⟩) 4 4, .int .i64 2, .int .i64 0] 24 (0, 0))) := (by first | exact (c4.block _ (row_lt XX4.out)).trans XX4.out | exact (c4.block _ (row_lt X4.out)).trans X4.out)
    have D4_ : Hid (Below w.heap.size w v4) := (by first | exact DD4.out.trans (c4.mono DD4.out.size) | exact D4.out.trans (c4.mono D4.out.size))
    clear c4 X4 D4 XX4 DD4 R4 RR4 x0 x1 x2 x3 x4 x5 x6 x7 x8 y0 y1 y2 y3 y4 y5 y6 y7 y8
    have f5_a := free_row X4_.out 6
    have d5_a := cell_of_row _ _ 6 _ _ _ X4_.out
    simp at d5_a
    have Xq5 := Lib.hid ((heap_alloc_other (o := (.cells #[.int .i64 1, .int .i64 2, .int .i64 3, .int .i64 4, .int .i64 5] 3)) (row_lt X4_.out)).trans X4_.out)
    have f5_b := free_row Xq5.out 6
    have d5_b := cell_of_row _ _ 6 _ _ _ Xq5.out
    simp at d5_b
    have ez5 : (v4.setCell ⟨w1.heap.size, 6, none⟩ (.slice (some ⟨v4.heap.size, 0, none⟩) 5 5)).heap.size = v4.heap.size := by simp
    have Xa5 : Hid ((v4.setCell ⟨w1.heap.size, 6, none⟩ (.slice (some ⟨v4.heap.size, 0, none⟩) 5 5)).heap[w1.heap.size]? = some (.cells #[.int .i64 1, .int .i64 1, .int .i64 4, .int .i64 2, .int .i64 4, .int .i64 0, .slice (some ⟨v4.heap.size, 0, none⟩) 5 5, .int .i64 2, .int .i64 0] 24 (0, 0))) := heap_setCell_row X4_.out 6 (.slice (some ⟨v4.heap.size, 0, none⟩) 5 5)
    have Da5 := Lib.hid (D4_.out.setCell (p := ⟨w1.heap.size, 6, none⟩) Z1.out (.slice (some ⟨v4.heap.size, 0, none⟩) 5 5))
    have X5 := Lib.hid ((heap_alloc_other (o := (.cells #[.int .i64 1, .int .i64 2, .int .i64 3, .int .i64 4, .int .i64 5] 3)) (row_lt Xa5.out)).trans Xa5.out)
    have D5 := Lib.hid (Da5.out.alloc Da5.out.size (.cells #[.int .i64 1, .int .i64 2, .int .i64 3, .int .i64 4, .int .i64 5] 3))
    have ga5 := heap_alloc_last (v4.setCell ⟨w1.heap.size, 6, none⟩ (.slice (some ⟨v4.heap.size, 0, none⟩) 5 5)) (.cells #[.int .i64 1, .int .i64 2, .int .i64 3, .int .i64 4, .int .i64 5] 3)
    rw [ez5] at ga5
    have R5 : Hid (IntRow ((v4.setCell ⟨w1.heap.size, 6, none⟩ (.slice (some ⟨v4.heap.size, 0, none⟩) 5 5)).alloc (.cells #[.int .i64 1, .int .i64 2, .int .i64 3, .int .i64 4, .int .i64 5] 3)) (some ⟨v4.heap.size, 0, none⟩) [1, 2, 3, 4, 5]) := row_ints ga5
    have ey5 : v4.heap.size = v4.heap.size := by simp
    have la5 : w1.heap.size < v4.heap.size := by rw [← ey5]; exact row_lt X4_.out
    have gb5 := heap_alloc_last v4 (.cells #[.int .i64 1, .int .i64 2, .int .i64 3, .int .i64 4, .int .i64 5] 3)
    rw [ey5] at gb5
    have fx5 : Fr (fun k => k = w1.heap.size) (v4.alloc (.cells #[.int .i64 1, .int .i64 2, .int .i64 3, .int .i64 4, .int .i64 5] 3)) ((v4.alloc (.cells #[.int .i64 1, .int .i64 2, .int .i64 3, .int .i64 4, .int .i64 5] 3)).setCell ⟨w1.heap.size, 6, none⟩ (.slice (some ⟨v4.heap.size, 0, none⟩) 5 5)) := Fr.setCell (S := fun k => k = w1.heap.size) (Fr.refl _ _) (fun _ => rfl) _
    have RR5 : Hid (IntRow ((v4.alloc (.cells #[.int .i64 1, .int .i64 2, .int .i64 3, .int .i64 4, .int .i64 5] 3)).setCell ⟨w1.heap.size, 6, none⟩ (.slice (some ⟨v4.heap.size, 0, none⟩) 5 5)) (some ⟨v4.heap.size, 0, none⟩) [1, 2, 3, 4, 5]) := row_ints ((fx5.block _ (row_lt gb5) (by omega)).trans gb5)
    have XX5 : Hid (((v4.alloc (.cells #[.int .i64 1, .int .i64 2, .int .i64 3, .int .i64 4, .int .i64 5] 3)).setCell ⟨w1.heap.size, 6, none⟩ (.slice (some ⟨v4.heap.size, 0, none⟩) 5 5)).heap[w1.heap.size]? = some (.cells #[.int .i64 1, .int .i64 1, .int .i64 4, .int .i64 2, .int .i64 4, .int .i64 0, .slice (some ⟨v4.heap.size, 0, none⟩) 5 5, .int .i64 2, .int .i64 0] 24 (0, 0))) := heap_setCell_row Xq5.out 6 (.slice (some ⟨v4.heap.size, 0, none⟩) 5 5)
    have Dq5 := Lib.hid (D4_.out.alloc D4_.out.size (.cells #[.int .i64 1, .int .i64 2, .int .i64 3, .int .i64 4, .int .i64 5] 3))
    have DD5 := Lib.hid (Dq5.out.setCell (p := ⟨w1.heap.size, 6, none⟩) Z1.out (.slice (some ⟨v4.heap.size, 0, none⟩) 5 5))
    clear X4_ D4_ Xq5 Xa5 Da5 Dq5 ga5 gb5 ez5 ey5 fx5 la5
    obtain ⟨y0, y1, y2, y3, y4, y5, y6, y7, y8⟩ := nine_cells XX5.out
    obtain ⟨x0, x1, x2, x3, x4, x5, x6, x7, x8⟩ := nine_cells X5.out
    go_wp2_with fail
    refine (M5.out _ _ _ (by first | exact RR5.out | exact R5.out)).mono ?_
    rintro e v5 ⟨rfl, c5⟩
    have X5_ : Hid (v5.heap[w1.heap.size]? = some (.cells #[.int .i64 1, .int .i64 1, .int .i64 4, .int .i64 2, .int .i64 4, .int .i64 0, .slice (some ⟨v4.heap.size, 0, none⟩) 5 5, .int .i64 2, .int .i64 0] 24 (0, 0))) := (by first | exact (c5.block _ (row_lt XX5.out)).trans XX5.out | exact (c5.block _ (row_lt X5.out)).trans X5.out)
    have D5_ : Hid (Below w.heap.size w v5) := (by first | exact DD5.out.trans (c5.mono DD5.out.size) | exact D5.out.trans (c5.mono D5.out.size))
    clear c5 X5 D5 XX5 DD5 R5 RR5 x0 x1 x2 x3 x4 x5 x6 x7 x8 y0 y1 y2 y3 y4 y5 y6 y7 y8
    have f6_0 := free_row X5_.out 6
    have d6_0 := cell_of_row _ _ 6 _ _ _ X5_.out
    simp at d6_0
    have X6_0 : Hid ((v5.setCell ⟨w1.heap.size, 6, none⟩ (.slice none 0 0)).heap[w1.heap.size]? = some (.cells #[.int .i64 1, .int .i64 1, .int .i64 4, .int .i64 2, .int .i64 4, .int .i64 0, .slice none 0 0, .int .i64 2, .int .i64 0] 24 (0, 0))) := heap_setCell_row X5_.out 6 (.slice none 0 0)
    have D6_0 := Lib.hid (D5_.out.setCell (p := ⟨w1.heap.size, 6, none⟩) Z1.out (.slice none 0 0))
    clear X5_ D5_
    have f6_1 := free_row X6_0.out 8
    have d6_1 := cell_of_row _ _ 8 _ _ _ X6_0.out
    simp at d6_1
    have X6 : Hid (((v5.setCell ⟨w1.heap.size, 6, none⟩ (.slice none 0 0)).setCell ⟨w1.heap.size, 8, none⟩ (.int .i64 1)).heap[w1.heap.size]? = some (.cells #[.int .i64 1, .int .i64 1, .int .i64 4, .int .i64 2, .int .i64 4, .int .i64 0, .slice none 0 0, .int .i64 2, .int .i64 1] 24 (0, 0))) := heap_setCell_row X6_0.out 8 (.int .i64 1)
    have D6 := Lib.hid (D6_0.out.setCell (p := ⟨w1.heap.size, 8, none⟩) Z1.out (.int .i64 1))
    clear X6_0 D6_0
    obtain ⟨x0, x1, x2, x3, x4, x5, x6, x7, x8⟩ := nine_cells X6.out
    go_wp2_with fail
    refine (M6.out _ _ _ (by exact IntRow.nil _ _)).mono ?_
    rintro e v6 ⟨rfl, c6⟩
    have X6_ := Lib.hid ((c6.block _ (row_lt X6.out)).trans X6.out)
    have D6_ := Lib.hid (D6.out.trans (c6.mono D6.out.size))
    clear c6 X6 D6 x0 x1 x2 x3 x4 x5 x6 x7 x8
    go_wp2_with fail
    refine (num_is _ _).mono ?_
    rintro e w' ⟨rfl, rfl⟩
    go_wp2_with fail
    go_ret
    exact ⟨rfl, D6_.out⟩
end Go.Proofs.Ytadfgadkihlmcaa
