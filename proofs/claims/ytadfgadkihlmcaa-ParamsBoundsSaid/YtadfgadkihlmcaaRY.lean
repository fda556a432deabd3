/- Layer 3: the walk of the law ParamsBounds. -/
import Derived.Test.YtadfgadkihlmcaaQW
import Derived.Test.YtadfgadkihlmcaaRX
import Derived.Laws.Unary
namespace Go.Proofs.Ytadfgadkihlmcaa
open Go.RowKit Zo Zp
set_option linter.unusedVariables false

theorem u64_rem6 (a : Int) : 0 ≤ (IntKind.u64.wrap a).tmod 6 ∧ (IntKind.u64.wrap a).tmod 6 < 6 := by
  have h : 0 ≤ IntKind.u64.wrap a := by rw [IntKind.wrap_u64]; omega
  rw [Int.tmod_eq_emod_of_nonneg h]
  omega

theorem bound_0 (x : Int) : decide (SpsN.may ⟨x, 2, 5, 0, 5, 0, [], 3, 1⟩) = decide (1 ≤ x ∧ x ≤ 8) := by
  rw [Bool.eq_iff_iff, decide_eq_true_iff, decide_eq_true_iff]
  constructor
  · intro h
    unfold SpsN.may at h
    simp only at h
    omega
  · intro h
    unfold SpsN.may
    simp only
    refine ⟨by omega, by omega, by omega, by omega, by omega, by omega, by omega, by omega, by omega, by omega, by omega, by omega, by simp, by simp, by simp, by simp, by omega, by omega, by omega, by omega, by omega⟩

theorem bound_1 (x : Int) : decide (SpsN.may ⟨2, x, 5, 0, 5, 0, [], 3, 1⟩) = decide (1 ≤ x ∧ x ≤ 8) := by
  rw [Bool.eq_iff_iff, decide_eq_true_iff, decide_eq_true_iff]
  constructor
  · intro h
    unfold SpsN.may at h
    simp only at h
    omega
  · intro h
    unfold SpsN.may
    simp only
    refine ⟨by omega, by omega, by omega, by omega, by omega, by omega, by omega, by omega, by omega, by omega, by omega, by omega, by simp, by simp, by simp, by simp, by omega, by omega, by omega, by omega, by omega⟩

theorem bound_2 (x : Int) : decide (SpsN.may ⟨2, 2, x, 0, 5, 0, [], 3, 1⟩) = decide (4 ≤ x ∧ x ≤ 8) := by
  rw [Bool.eq_iff_iff, decide_eq_true_iff, decide_eq_true_iff]
  constructor
  · intro h
    unfold SpsN.may at h
    simp only at h
    omega
  · intro h
    unfold SpsN.may
    simp only
    refine ⟨by omega, by omega, by omega, by omega, by omega, by omega, by omega, by omega, by omega, by omega, by omega, by omega, by simp, by simp, by simp, by simp, by omega, by omega, by omega, by omega, by omega⟩

theorem bound_3 (x : Int) : decide (SpsN.may ⟨2, 2, 5, 0, x, 0, [], 3, 1⟩) = decide (4 ≤ x ∧ x ≤ 8) := by
  rw [Bool.eq_iff_iff, decide_eq_true_iff, decide_eq_true_iff]
  constructor
  · intro h
    unfold SpsN.may at h
    simp only at h
    omega
  · intro h
    unfold SpsN.may
    simp only
    refine ⟨by omega, by omega, by omega, by omega, by omega, by omega, by omega, by omega, by omega, by omega, by omega, by omega, by simp, by simp, by simp, by simp, by omega, by omega, by omega, by omega, by omega⟩

theorem bound_4 (x : Int) : decide (SpsN.may ⟨2, 2, 5, 0, 5, 0, [], x, 1⟩) = decide (1 ≤ x ∧ x ≤ 8) := by
  rw [Bool.eq_iff_iff, decide_eq_true_iff, decide_eq_true_iff]
  constructor
  · intro h
    unfold SpsN.may at h
    simp only at h
    omega
  · intro h
    unfold SpsN.may
    simp only
    refine ⟨by omega, by omega, by omega, by omega, by omega, by omega, by omega, by omega, by omega, by omega, by omega, by omega, by simp, by simp, by simp, by simp, by omega, by omega, by omega, by omega, by omega⟩

theorem bound_5 (x : Int) : decide (SpsN.may ⟨2, 2, 5, 0, 5, 0, [], 3, x⟩) = decide (0 ≤ x ∧ x ≤ 3) := by
  rw [Bool.eq_iff_iff, decide_eq_true_iff, decide_eq_true_iff]
  constructor
  · intro h
    unfold SpsN.may at h
    simp only at h
    omega
  · intro h
    unfold SpsN.may
    simp only
    refine ⟨by omega, by omega, by omega, by omega, by omega, by omega, by omega, by omega, by omega, by omega, by omega, by omega, by simp, by simp, by simp, by simp, by omega, by omega, by omega, by omega, by omega⟩

set_option maxRecDepth 100000 in
set_option maxHeartbeats 8000000 in
theorem paramsBounds_at (a0 a1 : Int) (w : World) :
    Calls Try.prog 6 #[.int .i64 a0, .int .i64 a1] w fun e w' => e = .returned (.bool true) ∧ Below w.heap.size w w' := by
  have HA := Lib.hid (awake3 maySpsOk mayPpsOk getSpsOk)
  obtain ⟨r0, r6⟩ := u64_rem6 a0
  obtain ⟨k, hk⟩ : ∃ k, (IntKind.u64.wrap a0).tmod 6 = k := ⟨_, rfl⟩
  rw [hk] at r0 r6
  have kw : IntKind.i64.wrap k = k := by rw [IntKind.wrap_i64]; omega
  obtain ⟨x, hx⟩ : ∃ x, a1.tmod 12 = x := ⟨_, rfl⟩
  go_enter Try.func6, Try.ntmps6
  go_wp2_with fail
  refine (HA.out _).mono ?_
  rintro e w1 ⟨rfl, b1⟩
  have D1 := Lib.hid b1
  have X2 := Lib.hid (heap_alloc_last w1 (.cells #[.int .i64 2, .int .i64 2, .int .i64 5, .int .i64 0, .int .i64 5, .int .i64 0, .slice none 0 0, .int .i64 3, .int .i64 1] 24))
  have D2 := Lib.hid (b1.alloc b1.size (.cells #[.int .i64 2, .int .i64 2, .int .i64 5, .int .i64 0, .int .i64 5, .int .i64 0, .slice none 0 0, .int .i64 3, .int .i64 1] 24))
  have LT := Lib.hid b1.size
  have HB := Lib.hid b1
  clear b1 D1
  obtain ⟨x0, x1, x2, x3, x4, x5, x6, x7, x8⟩ := nine_cells X2.out
  have xf : ∀ i, (w1.alloc (.cells #[.int .i64 2, .int .i64 2, .int .i64 5, .int .i64 0, .int .i64 5, .int .i64 0, .slice none 0 0, .int .i64 3, .int .i64 1] 24)).frozen? ⟨w1.heap.size, i, none⟩ = false := fun i => free_row X2.out i
  go_upto_block 0 with fail
  go_cut [8] (fun fv wx => ∃ (fb : Bool) (wide high fbits pbits refs delay : Int), fv = .bool fb ∧ Aside (fb = decide (SpsN.may ⟨wide, high, fbits, 0, pbits, 0, [], refs, delay⟩)) ∧ Hid (wx.heap[w1.heap.size]? = some (.cells #[.int .i64 wide, .int .i64 high, .int .i64 fbits, .int .i64 0, .int .i64 pbits, .int .i64 0, .slice none 0 0, .int .i64 refs, .int .i64 delay] 24 (0, 0))) ∧ Hid (Below w.heap.size w wx))
  case first =>
    rcases (show k = 0 ∨ k = 1 ∨ k = 2 ∨ k = 3 ∨ k = 4 ∨ k = 5 by omega) with rfl | rfl | rfl | rfl | rfl | rfl
    · by_cases h1 : 1 ≤ x
      · by_cases h2 : x ≤ 8
        · go_wp2_with fail
          go_meet
          refine ⟨_, _, _, _, _, _, _, rfl, ?_, heap_alloc_last w1 _, HB.out.alloc LT.out _⟩
          exact (show true = decide (SpsN.may ⟨x, 2, 5, 0, 5, 0, [], 3, 1⟩) by rw [bound_0]; simp; omega)
        · have h3 : 8 < x := by omega
          go_wp2_with fail
          go_meet
          refine ⟨_, _, _, _, _, _, _, rfl, ?_, heap_alloc_last w1 _, HB.out.alloc LT.out _⟩
          exact (show false = decide (SpsN.may ⟨x, 2, 5, 0, 5, 0, [], 3, 1⟩) by rw [bound_0]; simp; omega)
      · have h3 : x < 1 := by omega
        go_wp2_with fail
        go_meet
        refine ⟨_, _, _, _, _, _, _, rfl, ?_, heap_alloc_last w1 _, HB.out.alloc LT.out _⟩
        exact (show false = decide (SpsN.may ⟨x, 2, 5, 0, 5, 0, [], 3, 1⟩) by rw [bound_0]; simp; omega)
    · by_cases h1 : 1 ≤ x
      · by_cases h2 : x ≤ 8
        · go_wp2_with fail
          go_meet
          refine ⟨_, _, _, _, _, _, _, rfl, ?_, heap_alloc_last w1 _, HB.out.alloc LT.out _⟩
          exact (show true = decide (SpsN.may ⟨2, x, 5, 0, 5, 0, [], 3, 1⟩) by rw [bound_1]; simp; omega)
        · have h3 : 8 < x := by omega
          go_wp2_with fail
          go_meet
          refine ⟨_, _, _, _, _, _, _, rfl, ?_, heap_alloc_last w1 _, HB.out.alloc LT.out _⟩
          exact (show false = decide (SpsN.may ⟨2, x, 5, 0, 5, 0, [], 3, 1⟩) by rw [bound_1]; simp; omega)
      · have h3 : x < 1 := by omega
        go_wp2_with fail
        go_meet
        refine ⟨_, _, _, _, _, _, _, rfl, ?_, heap_alloc_last w1 _, HB.out.alloc LT.out _⟩
        exact (show false = decide (SpsN.may ⟨2, x, 5, 0, 5, 0, [], 3, 1⟩) by rw [bound_1]; simp; omega)
    · by_cases h1 : 4 ≤ x
      · by_cases h2 : x ≤ 8
        · go_wp2_with fail
          go_meet
          refine ⟨_, _, _, _, _, _, _, rfl, ?_, heap_alloc_last w1 _, HB.out.alloc LT.out _⟩
          exact (show true = decide (SpsN.may ⟨2, 2, x, 0, 5, 0, [], 3, 1⟩) by rw [bound_2]; simp; omega)
        · have h3 : 8 < x := by omega
          go_wp2_with fail
          go_meet
          refine ⟨_, _, _, _, _, _, _, rfl, ?_, heap_alloc_last w1 _, HB.out.alloc LT.out _⟩
          exact (show false = decide (SpsN.may ⟨2, 2, x, 0, 5, 0, [], 3, 1⟩) by rw [bound_2]; simp; omega)
      · have h3 : x < 4 := by omega
        go_wp2_with fail
        go_meet
        refine ⟨_, _, _, _, _, _, _, rfl, ?_, heap_alloc_last w1 _, HB.out.alloc LT.out _⟩
        exact (show false = decide (SpsN.may ⟨2, 2, x, 0, 5, 0, [], 3, 1⟩) by rw [bound_2]; simp; omega)
    · by_cases h1 : 4 ≤ x
      · by_cases h2 : x ≤ 8
        · go_wp2_with fail
          go_meet
          refine ⟨_, _, _, _, _, _, _, rfl, ?_, heap_alloc_last w1 _, HB.out.alloc LT.out _⟩
          exact (show true = decide (SpsN.may ⟨2, 2, 5, 0, x, 0, [], 3, 1⟩) by rw [bound_3]; simp; omega)
        · have h3 : 8 < x := by omega
          go_wp2_with fail
          go_meet
          refine ⟨_, _, _, _, _, _, _, rfl, ?_, heap_alloc_last w1 _, HB.out.alloc LT.out _⟩
          exact (show false = decide (SpsN.may ⟨2, 2, 5, 0, x, 0, [], 3, 1⟩) by rw [bound_3]; simp; omega)
      · have h3 : x < 4 := by omega
        go_wp2_with fail
        go_meet
        refine ⟨_, _, _, _, _, _, _, rfl, ?_, heap_alloc_last w1 _, HB.out.alloc LT.out _⟩
        exact (show false = decide (SpsN.may ⟨2, 2, 5, 0, x, 0, [], 3, 1⟩) by rw [bound_3]; simp; omega)
    · by_cases h1 : 1 ≤ x
      · by_cases h2 : x ≤ 8
        · go_wp2_with fail
          go_meet
          refine ⟨_, _, _, _, _, _, _, rfl, ?_, heap_alloc_last w1 _, HB.out.alloc LT.out _⟩
          exact (show true = decide (SpsN.may ⟨2, 2, 5, 0, 5, 0, [], x, 1⟩) by rw [bound_4]; simp; omega)
        · have h3 : 8 < x := by omega
          go_wp2_with fail
          go_meet
          refine ⟨_, _, _, _, _, _, _, rfl, ?_, heap_alloc_last w1 _, HB.out.alloc LT.out _⟩
          exact (show false = decide (SpsN.may ⟨2, 2, 5, 0, 5, 0, [], x, 1⟩) by rw [bound_4]; simp; omega)
      · have h3 : x < 1 := by omega
        go_wp2_with fail
        go_meet
        refine ⟨_, _, _, _, _, _, _, rfl, ?_, heap_alloc_last w1 _, HB.out.alloc LT.out _⟩
        exact (show false = decide (SpsN.may ⟨2, 2, 5, 0, 5, 0, [], x, 1⟩) by rw [bound_4]; simp; omega)
    · by_cases h1 : 0 ≤ x
      · by_cases h2 : x ≤ 3
        · go_wp2_with fail
          go_meet
          refine ⟨_, _, _, _, _, _, _, rfl, ?_, heap_alloc_last w1 _, HB.out.alloc LT.out _⟩
          exact (show true = decide (SpsN.may ⟨2, 2, 5, 0, 5, 0, [], 3, x⟩) by rw [bound_5]; simp; omega)
        · have h3 : 3 < x := by omega
          go_wp2_with fail
          go_meet
          refine ⟨_, _, _, _, _, _, _, rfl, ?_, heap_alloc_last w1 _, HB.out.alloc LT.out _⟩
          exact (show false = decide (SpsN.may ⟨2, 2, 5, 0, 5, 0, [], 3, x⟩) by rw [bound_5]; simp; omega)
      · have h3 : x < 0 := by omega
        go_wp2_with fail
        go_meet
        refine ⟨_, _, _, _, _, _, _, rfl, ?_, heap_alloc_last w1 _, HB.out.alloc LT.out _⟩
        exact (show false = decide (SpsN.may ⟨2, 2, 5, 0, 5, 0, [], 3, x⟩) by rw [bound_5]; simp; omega)
  case rest =>
    obtain ⟨fb, wide, high, fbits, pbits, refs, delay, rfl, HF, X3, D3⟩ := hcut
    clear X2 D2 x0 x1 x2 x3 x4 x5 x6 x7 x8 xf
    have hput := fun a cap w1 h => putSps_any maySpsOk w1 ⟨wide, high, fbits, 0, pbits, 0, [], refs, delay⟩ a cap h (by simp)
    have hms := fun a cap w1 h => maySpsOk ⟨wide, high, fbits, 0, pbits, 0, [], refs, delay⟩ a cap w1 h (by simp)
    have htold := spsTold ⟨wide, high, fbits, 0, pbits, 0, [], refs, delay⟩
    have hsame := fun a a' cap cap' w1 h h' => sameSps_yes w1 ⟨wide, high, fbits, 0, pbits, 0, [], refs, delay⟩ a a' cap cap' h h' (by simp)
    unfold StrPut at hput
    obtain ⟨u, hu⟩ : ∃ u, bstr (putSpsAns ⟨wide, high, fbits, 0, pbits, 0, [], refs, delay⟩).1 = u := ⟨_, rfl⟩
    obtain ⟨c, hc⟩ : ∃ c, (putSpsAns ⟨wide, high, fbits, 0, pbits, 0, [], refs, delay⟩).2 = c := ⟨_, rfl⟩
    simp only [hu, hc] at hput htold
    unfold spsV at hput hms hsame
    simp only [List.length_nil] at hput hms hsame
    rw [← (show fb = decide (SpsN.may ⟨wide, high, fbits, 0, pbits, 0, [], refs, delay⟩) from HF)] at hms
    have HPUT := Lib.hid hput
    have HMS := Lib.hid hms
    have HSAME := Lib.hid hsame
    have HT := Lib.hid htold
    clear hput hms hsame htold hu hc
    obtain ⟨y0, y1, y2, y3, y4, y5, y6, y7, y8⟩ := nine_cells X3.out
    go_wp2_with fail
    refine (HPUT.out _ _ _ (IntRow.nil _ _)).mono ?_
    rintro e w4 ⟨rfl, b4⟩
    have X4 := Lib.hid ((b4.block _ (row_lt X3.out)).trans X3.out)
    have D4 := Lib.hid (D3.out.trans (b4.mono D3.out.size))
    clear b4 X3 D3 y0 y1 y2 y3 y4 y5 y6 y7 y8
    obtain ⟨y0, y1, y2, y3, y4, y5, y6, y7, y8⟩ := nine_cells X4.out
    cases fb with
    | false =>
      have hm : ¬ SpsN.may ⟨wide, high, fbits, 0, pbits, 0, [], refs, delay⟩ := fun h => by
        have := (show false = decide (SpsN.may ⟨wide, high, fbits, 0, pbits, 0, [], refs, delay⟩) from HF)
        rw [decide_eq_true h] at this
        cases this
      obtain ⟨rfl, rfl⟩ := HT.out.2 hm
      clear hm HT HF
      go_wp2_with fail
      refine (HMS.out _ _ _ (IntRow.nil _ _)).mono ?_
      rintro e w5 ⟨rfl, b5⟩
      have D5 := Lib.hid (D4.out.trans (b5.mono D4.out.size))
      clear b5
      go_wp2_with (go_at_call 17; refine (num_is _ _).mono ?_; rintro e w' ⟨rfl, rfl⟩)
      go_ret
      exact ⟨rfl, D5.out⟩
    | true =>
      have hm : SpsN.may ⟨wide, high, fbits, 0, pbits, 0, [], refs, delay⟩ := of_decide_eq_true (show true = decide (SpsN.may ⟨wide, high, fbits, 0, pbits, 0, [], refs, delay⟩) from HF).symm
      obtain ⟨rfl, z1, g1⟩ := HT.out.1 hm
      have hg := fun w1 => getSpsOk u w1 (by omega)
      rw [g1] at hg
      unfold GPost spsV at hg
      simp only [List.length_nil] at hg
      have HG := Lib.hid hg
      clear hm HT HF g1 hg z1
      go_wp2_with fail
      refine (HG.out _).mono ?_
      rintro e w5 ⟨ga, gcap, rfl, i5, _, _, b5⟩
      have X5 := Lib.hid ((heap_alloc_other (o := .cells #[.int .i64 wide, .int .i64 high, .int .i64 fbits, .int .i64 0, .int .i64 pbits, .int .i64 0, .slice ga 0 gcap, .int .i64 refs, .int .i64 delay] 24) (row_lt ((b5.block _ (row_lt X4.out)).trans X4.out))).trans ((b5.block _ (row_lt X4.out)).trans X4.out))
      have Y5 := Lib.hid (heap_alloc_last w5 (.cells #[.int .i64 wide, .int .i64 high, .int .i64 fbits, .int .i64 0, .int .i64 pbits, .int .i64 0, .slice ga 0 gcap, .int .i64 refs, .int .i64 delay] 24))
      have D5 := Lib.hid ((D4.out.trans (b5.mono D4.out.size)).alloc (D4.out.trans (b5.mono D4.out.size)).size (.cells #[.int .i64 wide, .int .i64 high, .int .i64 fbits, .int .i64 0, .int .i64 pbits, .int .i64 0, .slice ga 0 gcap, .int .i64 refs, .int .i64 delay] 24))
      have I5 := Lib.hid i5
      clear b5 i5 y0 y1 y2 y3 y4 y5 y6 y7 y8
      obtain ⟨y0, y1, y2, y3, y4, y5, y6, y7, y8⟩ := nine_cells X5.out
      go_wp2_with fail
      refine (HMS.out _ _ _ (IntRow.nil _ _)).mono ?_
      rintro e w6 ⟨rfl, b6⟩
      have X6 := Lib.hid ((b6.block _ (row_lt X5.out)).trans X5.out)
      have Y6 := Lib.hid ((b6.block _ (row_lt Y5.out)).trans Y5.out)
      have D6 := Lib.hid (D5.out.trans (b6.mono D5.out.size))
      clear b6 y0 y1 y2 y3 y4 y5 y6 y7 y8
      obtain ⟨y0, y1, y2, y3, y4, y5, y6, y7, y8⟩ := nine_cells X6.out
      obtain ⟨z0, z1, z2, z3, z4, z5, z6, z7, z8⟩ := nine_cells Y6.out
      go_wp2_with (first
        | (go_at_call 17; refine (num_is _ _).mono ?_; rintro e w' ⟨rfl, rfl⟩)
        | (go_at_call 19; refine (HSAME.out _ _ _ _ _ (IntRow.nil _ _) (IntRow.nil _ _)).mono ?_; rintro e w7 ⟨rfl, b7⟩; have D7 := Lib.hid (D6.out.trans (b7.mono D6.out.size)); clear b7))
      go_ret
      exact ⟨rfl, D7.out⟩

set_option maxRecDepth 100000 in
theorem paramsBounds_walk (a0 a1 : Int) (w : World) (_ : (Lit.int .i64 a0).wf = true) (_ : (Lit.int .i64 a1).wf = true) :
    Calls Try.prog 6 #[.int .i64 a0, .int .i64 a1] w fun e w' => e = .returned (.bool true) ∧ Below w.heap.size w w' := paramsBounds_at a0 a1 w
end Go.Proofs.Ytadfgadkihlmcaa
