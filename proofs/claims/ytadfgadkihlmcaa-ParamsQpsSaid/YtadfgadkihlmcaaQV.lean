/- Layer 3: the walk of the law ParamsQps, told that the program's ranges and its GetSps answer as they should. -/
import Derived.Test.YtadfgadkihlmcaaQT
namespace Go.Proofs.Ytadfgadkihlmcaa
open Go.RowKit Zo Zp

theorem tmod_bd (a : Int) (k : Nat) (hk : 0 < k) : -(k : Int) < a.tmod k ∧ a.tmod k < k := by
  have h1 := Int.tmod_lt_of_pos a (show (0 : Int) < k by omega)
  have h2 := Int.lt_tmod_of_pos a (show (0 : Int) < k by omega)
  omega

set_option maxRecDepth 100000 in
set_option maxHeartbeats 4000000 in
theorem paramsQps_at (HS : MaySpsOk) (HP : MayPpsOk) (HG : GetSpsOk) (a0 a1 a2 a3 : Int) (w : World) :
    Calls Try.prog 8 #[.int .i64 a0, .int .i64 a1, .int .i64 a2, .int .i64 a3] w fun e w' => e = .returned (.bool true) ∧ Below w.heap.size w w' := by
  have HA := Lib.hid (awake3 HS HP HG)
  obtain ⟨k1, k2⟩ := tmod_bd a0 60 (by omega)
  obtain ⟨k3, k4⟩ := tmod_bd a1 20 (by omega)
  obtain ⟨k5, k6⟩ := tmod_bd a2 5 (by omega)
  obtain ⟨k7, k8⟩ := tmod_bd a3 12 (by omega)
  simp only [Int.cast_ofNat_Int] at k1 k2 k3 k4 k5 k6 k7 k8
  obtain ⟨pq, e1⟩ : ∃ q, a0.tmod 60 = q := ⟨_, rfl⟩
  obtain ⟨ph, e2⟩ : ∃ q, a1.tmod 20 = q := ⟨_, rfl⟩
  obtain ⟨pb, e3⟩ : ∃ q, a2.tmod 5 = q := ⟨_, rfl⟩
  obtain ⟨pa, e4⟩ : ∃ q, a3.tmod 12 = q := ⟨_, rfl⟩
  rw [e1] at k1 k2
  rw [e2] at k3 k4
  rw [e3] at k5 k6
  rw [e4] at k7 k8
  have hput := fun w1 => putPps_any HP w1 ⟨false, false, pb, pq, ph, false, false, pa, 1⟩
  have hm := fun w1 => HP ⟨false, false, pb, pq, ph, false, false, pa, 1⟩ w1
  unfold putPpsAns StrPut at hput
  by_cases hmay : PpsN.may ⟨false, false, pb, pq, ph, false, false, pa, 1⟩
  · rw [if_pos hmay] at hput
    rw [decide_eq_true hmay] at hm
    obtain ⟨z2, g2⟩ := pps_str _ hmay
    obtain ⟨v, hv⟩ : ∃ v, bstr (packB (trailed (ppsB ⟨false, false, pb, pq, ph, false, false, pa, 1⟩))) = v := ⟨_, rfl⟩
    rw [hv] at z2 g2
    simp only [hv] at hput
    have hget := fun w1 => getPps_any HP v w1 (by omega)
    rw [g2] at hget
    unfold PPost at hget
    unfold ppsV at hput hget hm
    simp only at hput hget hm
    obtain ⟨m1, m2, m3, m4, m5, m6, m7, m8, _, _⟩ := hmay
    simp only at m1 m2 m3 m4 m5 m6 m7 m8
    have HPUT := Lib.hid hput
    have HM := Lib.hid hm
    have HGET := Lib.hid hget
    clear hput hm hget g2 hv z2
    go_enter Try.func8, Try.ntmps8
    go_wp2_with fail
    refine (HA.out _).mono ?_
    rintro e w1 ⟨rfl, b1⟩
    have D1 := Lib.hid b1
    have X2 := Lib.hid (heap_alloc_last w1 (.cells #[.bool false, .bool false, .int .i64 pb, .int .i64 pq, .int .i64 ph, .bool false, .bool false, .int .i64 pa, .int .i64 1] 43))
    have D2 := Lib.hid (b1.alloc b1.size (.cells #[.bool false, .bool false, .int .i64 pb, .int .i64 pq, .int .i64 ph, .bool false, .bool false, .int .i64 pa, .int .i64 1] 43))
    clear b1
    go_wp2_with fail
    refine (HPUT.out _).mono ?_
    rintro e w3 ⟨rfl, b3⟩
    have X3 := Lib.hid ((b3.block _ (by simp)).trans X2.out)
    have D3 := Lib.hid (D2.out.trans (b3.mono D2.out.size))
    clear b3 X2 D2 D1
    go_wp2_with fail
    refine (HGET.out _).mono ?_
    rintro e w4 ⟨rfl, b4⟩
    have X4 := Lib.hid ((b4.block _ (row_lt X3.out)).trans X3.out)
    have D4 := Lib.hid (D3.out.trans (b4.mono D3.out.size))
    have X5 := Lib.hid ((heap_alloc_other (o := .cells #[.bool false, .bool false, .int .i64 pb, .int .i64 pq, .int .i64 ph, .bool false, .bool false, .int .i64 pa, .int .i64 1] 43) (row_lt X4.out)).trans X4.out)
    have Y5 := Lib.hid (heap_alloc_last w4 (.cells #[.bool false, .bool false, .int .i64 pb, .int .i64 pq, .int .i64 ph, .bool false, .bool false, .int .i64 pa, .int .i64 1] 43))
    have D5 := Lib.hid (D4.out.alloc D4.out.size (.cells #[.bool false, .bool false, .int .i64 pb, .int .i64 pq, .int .i64 ph, .bool false, .bool false, .int .i64 pa, .int .i64 1] 43))
    clear b4 X3 D3 X4 D4
    obtain ⟨x0, x1, x2, x3, x4, x5, x6, x7, x8⟩ := nine_cells X5.out
    go_wp2_with fail
    refine (HM.out _).mono ?_
    rintro e w6 ⟨rfl, b6⟩
    have X6 := Lib.hid ((b6.block _ (row_lt X5.out)).trans X5.out)
    have Y6 := Lib.hid ((b6.block _ (row_lt Y5.out)).trans Y5.out)
    have D6 := Lib.hid (D5.out.trans (b6.mono D5.out.size))
    clear x0 x1 x2 x3 x4 x5 x6 x7 x8
    clear b6
    obtain ⟨x0, x1, x2, x3, x4, x5, x6, x7, x8⟩ := nine_cells X6.out
    obtain ⟨y0, y1, y2, y3, y4, y5, y6, y7, y8⟩ := nine_cells Y6.out
    go_wp2_with (go_at_call 17; refine (num_is _ _).mono ?_; rintro e w' ⟨rfl, rfl⟩)
    go_ret
    exact ⟨rfl, D6.out⟩
  · rw [if_neg hmay] at hput
    rw [decide_eq_false hmay] at hm
    unfold ppsV at hput hm
    have he : bstr ([] : List Nat) = ⟨#[]⟩ := rfl
    simp only [he] at hput
    simp only at hm
    have HPUT := Lib.hid hput
    have HM := Lib.hid hm
    have HN : ¬ (0 ≤ pb ∧ pb ≤ 2 ∧ 0 ≤ pq ∧ pq ≤ 51 ∧ -12 ≤ ph ∧ ph ≤ 12 ∧ 1 ≤ pa ∧ pa ≤ 8) := fun h => hmay ⟨h.1, h.2.1, h.2.2.1, h.2.2.2.1, h.2.2.2.2.1, h.2.2.2.2.2.1, h.2.2.2.2.2.2.1, h.2.2.2.2.2.2.2, by show (1 : Int) ≤ 1; omega, by show (1 : Int) ≤ 8; omega⟩
    have HNN := Lib.hid HN
    clear hput hm hmay HN he
    go_enter Try.func8, Try.ntmps8
    go_wp2_with fail
    refine (HA.out _).mono ?_
    rintro e w1 ⟨rfl, b1⟩
    have X2 := Lib.hid (heap_alloc_last w1 (.cells #[.bool false, .bool false, .int .i64 pb, .int .i64 pq, .int .i64 ph, .bool false, .bool false, .int .i64 pa, .int .i64 1] 43))
    have D2 := Lib.hid (b1.alloc b1.size (.cells #[.bool false, .bool false, .int .i64 pb, .int .i64 pq, .int .i64 ph, .bool false, .bool false, .int .i64 pa, .int .i64 1] 43))
    clear b1
    go_upto_region 4 with fail
    go_cut [10] (fun v wx => v = .bool false ∧ wx = w1.alloc (.cells #[.bool false, .bool false, .int .i64 pb, .int .i64 pq, .int .i64 ph, .bool false, .bool false, .int .i64 pa, .int .i64 1] 43))
    case first =>
      go_wp2
      all_goals
        go_meet
        have hn := HNN.out
        refine ⟨?_, rfl⟩
        first
          | rfl
          | exact congrArg Value.bool (decide_eq_false (by omega))
    case rest =>
      obtain ⟨rfl, rfl⟩ := hcut
      go_wp2_with fail
      refine (HPUT.out _).mono ?_
      rintro e w3 ⟨rfl, b3⟩
      have X3 := Lib.hid ((b3.block _ (by simp)).trans X2.out)
      have D3 := Lib.hid (D2.out.trans (b3.mono D2.out.size))
      clear b3 X2 D2
      obtain ⟨x0, x1, x2, x3, x4, x5, x6, x7, x8⟩ := nine_cells X3.out
      go_wp2_with fail
      refine (HM.out _).mono ?_
      rintro e w4 ⟨rfl, b4⟩
      have D4 := Lib.hid (D3.out.trans (b4.mono D3.out.size))
      clear b4
      go_wp2_with (go_at_call 17; refine (num_is _ _).mono ?_; rintro e w' ⟨rfl, rfl⟩)
      go_ret
      exact ⟨rfl, D4.out⟩
end Go.Proofs.Ytadfgadkihlmcaa
