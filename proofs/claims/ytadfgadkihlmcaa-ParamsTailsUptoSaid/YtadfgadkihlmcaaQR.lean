/- Layer 3: the program's calls as the laws take them, told that its ranges and its GetSps answer as they should; what every program answers. -/
import Derived.Test.YtadfgadkihlmcaaQQ
namespace Go.Proofs.Ytadfgadkihlmcaa
open Go.RowKit Zo Zp

def GetSpsOk : Prop := ∀ (s : ByteArray) (w : World), s.size ≤ 1048576 → Calls Try.prog 13 #[.string s] w (GPost (gotSps (bitAt s) (8 * s.size)) w)

def putPpsAns (p : PpsN) : List Nat × Int := if p.may then (packB (trailed (ppsB p)), 0) else ([], 301)

theorem putPps_any (HM : MayPpsOk) (w : World) (p : PpsN) : Calls Try.prog 22 #[ppsV p] w (StrPut (putPpsAns p) w) := by
  unfold putPpsAns
  by_cases hm : p.may
  · rw [if_pos hm]; exact putPps_yes HM w p hm
  · rw [if_neg hm]; exact putPps_no HM w p hm

theorem putSps_any (HM : MaySpsOk) (w : World) (s : SpsN) (a : Option Addr) (cap : Nat) (h : IntRow w a s.cycle) (hl : s.cycle.length ≤ 1000000000) : Calls Try.prog 11 #[spsV s a cap] w (StrPut (putSpsAns s) w) := by
  unfold putSpsAns
  by_cases hm : s.may
  · rw [if_pos hm]; exact putSps_yes HM w s a cap h hm
  · rw [if_neg hm]; exact putSps_no HM w s a cap h hl hm

theorem refPutPps_any (w : World) (p : PpsN) : Calls Try.prog 23 #[ppsV p] w (StrPut (putPpsAns p) w) := by
  unfold putPpsAns
  by_cases hm : p.may
  · rw [if_pos hm]; exact refPutPps_yes w p hm
  · rw [if_neg hm]; exact refPutPps_no w p hm

theorem refPutSps_any (w : World) (s : SpsN) (a : Option Addr) (cap : Nat) (h : IntRow w a s.cycle) (hl : s.cycle.length ≤ 1000000000) : Calls Try.prog 12 #[spsV s a cap] w (StrPut (putSpsAns s) w) := by
  unfold putSpsAns
  by_cases hm : s.may
  · rw [if_pos hm]; exact refPutSps_yes w s a cap h hm
  · rw [if_neg hm]; exact refPutSps_no w s a cap h hl hm

/-! ### Bytes of parameters -/

theorem nums_bstr (l : List Nat) (h : ∀ x ∈ l, x < 256) : nums (bstr l) = l := by
  unfold nums bstr
  simp only [List.map_map]
  conv => rhs; rw [← List.map_id l]
  apply List.map_congr_left
  intro x hx
  have := h x hx
  simp
  omega

theorem spsB_le (s : SpsN) (hm : s.may) : (spsB s).length ≤ 2000 := by
  obtain ⟨m1, m2, m3, m4, m5, m6, m7, m8, m9, m10, m11, m12, m13, m14, m15, m16, m17, m18, m19, m20, m21⟩ := hm
  have g1 := (ueB_length (s.wide - 1).toNat (by omega)).2
  have g2 := (ueB_length (s.high - 1).toNat (by omega)).2
  have g3 := (ueB_length (s.fbits - 4).toNat (by omega)).2
  have g4 := (ueB_length s.ptype.toNat (by omega)).2
  have g5 := (ueB_length s.refs.toNat (by omega)).2
  have g6 := (ueB_length s.delay.toNat (by omega)).2
  have g7 := (ueB_length (s.pbits - 4).toNat (by omega)).2
  have g8 := seB_le s.nonref (by omega) (by omega)
  have g9 := (ueB_length s.cycle.length (by omega)).2
  have g10 := cycleB_le s.cycle (fun x hx => by have := m14 x hx; omega)
  have hmid : (midB s).length ≤ 400 := by
    unfold midB
    split
    · omega
    · split
      · simp only [List.length_append]; omega
      · simp
  unfold spsB
  simp only [List.length_append]
  omega

theorem ppsB_le (p : PpsN) (hm : p.may) : (ppsB p).length ≤ 2000 := by
  obtain ⟨m1, m2, m3, m4, m5, m6, m7, m8, m9, m10⟩ := hm
  have g1 := (ueB_length p.qp.toNat (by omega)).2
  have g2 := seB_le p.chroma (by omega) (by omega)
  have g3 := (ueB_length (p.act0 - 1).toNat (by omega)).2
  have g4 := (ueB_length (p.act1 - 1).toNat (by omega)).2
  unfold ppsB
  simp only [List.length_append, digs_length]
  omega

theorem sps_str (s : SpsN) (hm : s.may) : (bstr (packB (trailed (spsB s)))).size ≤ 1000 ∧ gotSps (bitAt (bstr (packB (trailed (spsB s))))) (8 * (bstr (packB (trailed (spsB s)))).size) = (s, 0) := by
  refine ⟨?_, sps_there hm (nums_bstr _ (packB_lt _))⟩
  have := spsB_le s hm
  rw [bstr_size, packB_length, trailed_length]
  omega

theorem pps_str (p : PpsN) (hm : p.may) : (bstr (packB (trailed (ppsB p)))).size ≤ 1000 ∧ gotPps (bitAt (bstr (packB (trailed (ppsB p))))) (8 * (bstr (packB (trailed (ppsB p)))).size) = (p, 0) := by
  refine ⟨?_, pps_there hm (nums_bstr _ (packB_lt _))⟩
  have := ppsB_le p hm
  rw [bstr_size, packB_length, trailed_length]
  omega

theorem gotSps_empty (f : Nat → Bool) : gotSps f 0 = (.zero, 300) := by
  have h : pUe f 0 0 = none := by
    have h0 : rdUe f 0 0 2147483646 = (0, 100, 0) := by
      unfold rdUe
      rw [if_neg (by omega), if_pos (by omega)]
    rw [pUe, h0]
    rfl
  rw [gotSps, pSps, h]
  rfl

def S0 : SpsN := ⟨1, 2, 4, 0, 4, 0, [], 1, 0⟩
def P0 : PpsN := ⟨false, false, 0, 30, 0, false, false, 1, 1⟩
theorem s0_may : S0.may := by decide
theorem p0_may : P0.may := by decide

set_option maxRecDepth 100000 in
set_option maxHeartbeats 3200000 in
theorem awake3 (HS : MaySpsOk) (HP : MayPpsOk) (HG : GetSpsOk) (w : World) : Calls Try.prog 21 #[] w fun e w' => e = .returned (.bool true) ∧ Below w.heap.size w w' := by
  obtain ⟨z1, g1⟩ := sps_str S0 s0_may
  obtain ⟨u, hu⟩ : ∃ u, bstr (packB (trailed (spsB S0))) = u := ⟨_, rfl⟩
  rw [hu] at z1 g1
  obtain ⟨z2, g2⟩ := pps_str P0 p0_may
  obtain ⟨v, hv⟩ : ∃ v, bstr (packB (trailed (ppsB P0))) = v := ⟨_, rfl⟩
  rw [hv] at z2 g2
  have HPUT : Hid (∀ w1, Calls Try.prog 11 #[.agg #[.int .i64 1, .int .i64 2, .int .i64 4, .int .i64 0, .int .i64 4, .int .i64 0, .slice none 0 0, .int .i64 1, .int .i64 0]] w1 fun e w' => e = .returned (.tuple #[.string u, .int .i64 0]) ∧ Below w1.heap.size w1 w') := fun w1 => by
    have h := putSps_any HS w1 S0 none 0 (IntRow.nil _ _) (by decide)
    unfold putSpsAns at h
    rw [if_pos s0_may] at h
    unfold StrPut at h
    simp only [hu] at h
    exact h
  have HGET : Hid (∀ w1, Calls Try.prog 13 #[.string u] w1 fun e w' => ∃ a cap, e = .returned (.tuple #[.agg #[.int .i64 1, .int .i64 2, .int .i64 4, .int .i64 0, .int .i64 4, .int .i64 0, .slice a 0 cap, .int .i64 1, .int .i64 0], .int .i64 0]) ∧ Below w1.heap.size w1 w') := fun w1 => by
    have h := HG u w1 (by omega)
    rw [g1] at h
    exact h.mono fun e w' ⟨a, cap, he, _, _, _, hb⟩ => ⟨a, cap, he, hb⟩
  have HGE : Hid (∀ w1, Calls Try.prog 13 #[.string ⟨#[]⟩] w1 fun e w' => ∃ a cap, e = .returned (.tuple #[.agg #[.int .i64 0, .int .i64 0, .int .i64 0, .int .i64 0, .int .i64 0, .int .i64 0, .slice a 0 cap, .int .i64 0, .int .i64 0], .int .i64 300]) ∧ Below w1.heap.size w1 w') := fun w1 => by
    have h := HG ⟨#[]⟩ w1 (by decide)
    rw [show 8 * (⟨#[]⟩ : ByteArray).size = 0 from rfl, gotSps_empty] at h
    exact h.mono fun e w' ⟨a, cap, he, _, _, _, hb⟩ => ⟨a, cap, he, hb⟩
  have HPP : Hid (∀ w1, Calls Try.prog 22 #[.agg #[.bool false, .bool false, .int .i64 0, .int .i64 30, .int .i64 0, .bool false, .bool false, .int .i64 1, .int .i64 1]] w1 fun e w' => e = .returned (.tuple #[.string v, .int .i64 0]) ∧ Below w1.heap.size w1 w') := fun w1 => by
    have h := putPps_any HP w1 P0
    unfold putPpsAns at h
    rw [if_pos p0_may] at h
    unfold StrPut at h
    simp only [hv] at h
    exact h
  have HGP : Hid (∀ w1, Calls Try.prog 24 #[.string v] w1 fun e w' => e = .returned (.tuple #[.agg #[.bool false, .bool false, .int .i64 0, .int .i64 30, .int .i64 0, .bool false, .bool false, .int .i64 1, .int .i64 1], .int .i64 0]) ∧ Below w1.heap.size w1 w') := fun w1 => by
    have h := getPps_any HP v w1 (by omega)
    rw [g2] at h
    exact h
  have HMS : Hid (∀ w1, Calls Try.prog 15 #[.agg #[.int .i64 1, .int .i64 2, .int .i64 4, .int .i64 0, .int .i64 4, .int .i64 0, .slice none 0 0, .int .i64 1, .int .i64 0]] w1 fun e w' => e = .returned (.bool true) ∧ Below w1.heap.size w1 w') := fun w1 => by
    have h := HS S0 none 0 w1 (IntRow.nil _ _) (by decide)
    rwa [decide_eq_true s0_may] at h
  have HMP : Hid (∀ w1, Calls Try.prog 26 #[.agg #[.bool false, .bool false, .int .i64 0, .int .i64 30, .int .i64 0, .bool false, .bool false, .int .i64 1, .int .i64 1]] w1 fun e w' => e = .returned (.bool true) ∧ Below w1.heap.size w1 w') := fun w1 => by
    have h := HP P0 w1
    rwa [decide_eq_true p0_may] at h
  have HEQ : Hid (∀ (a : Option Addr) (cap : Nat) w1, Calls Try.prog 19 #[.agg #[.int .i64 1, .int .i64 2, .int .i64 4, .int .i64 0, .int .i64 4, .int .i64 0, .slice a 0 cap, .int .i64 1, .int .i64 0], .agg #[.int .i64 1, .int .i64 2, .int .i64 4, .int .i64 0, .int .i64 4, .int .i64 0, .slice none 0 0, .int .i64 1, .int .i64 0]] w1 fun e w' => e = .returned (.bool true) ∧ Below w1.heap.size w1 w') := fun a cap w1 =>
    sameSps_yes w1 S0 a none cap 0 (IntRow.nil _ _) (IntRow.nil _ _) (by decide)
  clear z1 g1 hu z2 g2 hv
  have hx0 := heap_alloc_last w (.cells #[.int .i64 1, .int .i64 2, .int .i64 4, .int .i64 0, .int .i64 4, .int .i64 0, .slice none 0 0, .int .i64 1, .int .i64 0] 24)
  have X0 := Lib.hid hx0
  have D0 := Lib.hid ((Below.refl w.heap.size w).alloc (Nat.le_refl _) (.cells #[.int .i64 1, .int .i64 2, .int .i64 4, .int .i64 0, .int .i64 4, .int .i64 0, .slice none 0 0, .int .i64 1, .int .i64 0] 24))
  clear hx0
  go_enter Try.func21, Try.ntmps21
  go_wp2_with fail
  refine (HPUT.out _).mono ?_
  rintro e w1 ⟨rfl, b1⟩
  have X1 := Lib.hid ((b1.block _ (by simp)).trans X0.out)
  have D1 := Lib.hid (D0.out.trans (b1.mono (by simp)))
  clear b1 X0 D0
  go_wp2_with fail
  refine (HGET.out _).mono ?_
  rintro e w2 ⟨a, cap, rfl, b2⟩
  have X2 := Lib.hid ((b2.block _ (row_lt X1.out)).trans X1.out)
  have D2 := Lib.hid (D1.out.trans (b2.mono D1.out.size))
  clear b2 X1 D1
  -- the variables u (behind w2), p (behind it)
  have y2 := heap_alloc_last w2 (.cells #[.int .i64 1, .int .i64 2, .int .i64 4, .int .i64 0, .int .i64 4, .int .i64 0, .slice a 0 cap, .int .i64 1, .int .i64 0] 24)
  have e2 : (w2.alloc (.cells #[.int .i64 1, .int .i64 2, .int .i64 4, .int .i64 0, .int .i64 4, .int .i64 0, .slice a 0 cap, .int .i64 1, .int .i64 0] 24)).heap.size = w2.heap.size + 1 := by simp
  have p2 := heap_alloc_last (w2.alloc (.cells #[.int .i64 1, .int .i64 2, .int .i64 4, .int .i64 0, .int .i64 4, .int .i64 0, .slice a 0 cap, .int .i64 1, .int .i64 0] 24)) (.cells #[.bool false, .bool false, .int .i64 0, .int .i64 30, .int .i64 0, .bool false, .bool false, .int .i64 1, .int .i64 1] 43)
  rw [e2] at p2
  have X3 := Lib.hid ((heap_alloc_other (o := .cells #[.bool false, .bool false, .int .i64 0, .int .i64 30, .int .i64 0, .bool false, .bool false, .int .i64 1, .int .i64 1] 43) (by rw [e2]; have := row_lt X2.out; omega)).trans ((heap_alloc_other (o := .cells #[.int .i64 1, .int .i64 2, .int .i64 4, .int .i64 0, .int .i64 4, .int .i64 0, .slice a 0 cap, .int .i64 1, .int .i64 0] 24) (row_lt X2.out)).trans X2.out))
  have Y3 := Lib.hid ((heap_alloc_other (o := .cells #[.bool false, .bool false, .int .i64 0, .int .i64 30, .int .i64 0, .bool false, .bool false, .int .i64 1, .int .i64 1] 43) (by rw [e2]; omega)).trans y2)
  have P3 := Lib.hid p2
  have D3 := Lib.hid ((D2.out.alloc D2.out.size (.cells #[.int .i64 1, .int .i64 2, .int .i64 4, .int .i64 0, .int .i64 4, .int .i64 0, .slice a 0 cap, .int .i64 1, .int .i64 0] 24)).alloc (by rw [e2]; have := D2.out.size; omega) (.cells #[.bool false, .bool false, .int .i64 0, .int .i64 30, .int .i64 0, .bool false, .bool false, .int .i64 1, .int .i64 1] 43))
  clear y2 e2 p2 X2 D2
  go_wp2_with fail
  refine (HPP.out _).mono ?_
  rintro e w4 ⟨rfl, b4⟩
  have X4 := Lib.hid ((b4.block _ (row_lt X3.out)).trans X3.out)
  have Y4 := Lib.hid ((b4.block _ (row_lt Y3.out)).trans Y3.out)
  have P4 := Lib.hid ((b4.block _ (row_lt P3.out)).trans P3.out)
  have D4 := Lib.hid (D3.out.trans (b4.mono D3.out.size))
  clear b4 X3 Y3 P3 D3
  go_wp2_with fail
  refine (HGP.out _).mono ?_
  rintro e w5 ⟨rfl, b5⟩
  have X5 := Lib.hid ((b5.block _ (row_lt X4.out)).trans X4.out)
  have Y5 := Lib.hid ((b5.block _ (row_lt Y4.out)).trans Y4.out)
  have P5 := Lib.hid ((b5.block _ (row_lt P4.out)).trans P4.out)
  have D5 := Lib.hid (D4.out.trans (b5.mono D4.out.size))
  clear b5 X4 Y4 P4 D4
  have q5 := heap_alloc_last w5 (.cells #[.bool false, .bool false, .int .i64 0, .int .i64 30, .int .i64 0, .bool false, .bool false, .int .i64 1, .int .i64 1] 43)
  have X6 := Lib.hid ((heap_alloc_other (o := .cells #[.bool false, .bool false, .int .i64 0, .int .i64 30, .int .i64 0, .bool false, .bool false, .int .i64 1, .int .i64 1] 43) (row_lt X5.out)).trans X5.out)
  have Y6 := Lib.hid ((heap_alloc_other (o := .cells #[.bool false, .bool false, .int .i64 0, .int .i64 30, .int .i64 0, .bool false, .bool false, .int .i64 1, .int .i64 1] 43) (row_lt Y5.out)).trans Y5.out)
  have P6 := Lib.hid ((heap_alloc_other (o := .cells #[.bool false, .bool false, .int .i64 0, .int .i64 30, .int .i64 0, .bool false, .bool false, .int .i64 1, .int .i64 1] 43) (row_lt P5.out)).trans P5.out)
  have Q6 := Lib.hid q5
  have D6 := Lib.hid (D5.out.alloc D5.out.size (.cells #[.bool false, .bool false, .int .i64 0, .int .i64 30, .int .i64 0, .bool false, .bool false, .int .i64 1, .int .i64 1] 43))
  clear q5 X5 Y5 P5 D5
  go_wp2_with fail
  refine (HGE.out _).mono ?_
  rintro e w7 ⟨a2, cap2, rfl, b7⟩
  have X7 := Lib.hid ((b7.block _ (row_lt X6.out)).trans X6.out)
  have Y7 := Lib.hid ((b7.block _ (row_lt Y6.out)).trans Y6.out)
  have P7 := Lib.hid ((b7.block _ (row_lt P6.out)).trans P6.out)
  have Q7 := Lib.hid ((b7.block _ (row_lt Q6.out)).trans Q6.out)
  have D7 := Lib.hid (D6.out.trans (b7.mono D6.out.size))
  clear b7 X6 Y6 P6 Q6 D6
  have X8 := Lib.hid ((heap_alloc_other (o := .cells #[.int .i64 0, .int .i64 0, .int .i64 0, .int .i64 0, .int .i64 0, .int .i64 0, .slice a2 0 cap2, .int .i64 0, .int .i64 0] 24) (row_lt X7.out)).trans X7.out)
  have Y8 := Lib.hid ((heap_alloc_other (o := .cells #[.int .i64 0, .int .i64 0, .int .i64 0, .int .i64 0, .int .i64 0, .int .i64 0, .slice a2 0 cap2, .int .i64 0, .int .i64 0] 24) (row_lt Y7.out)).trans Y7.out)
  have P8 := Lib.hid ((heap_alloc_other (o := .cells #[.int .i64 0, .int .i64 0, .int .i64 0, .int .i64 0, .int .i64 0, .int .i64 0, .slice a2 0 cap2, .int .i64 0, .int .i64 0] 24) (row_lt P7.out)).trans P7.out)
  have Q8 := Lib.hid ((heap_alloc_other (o := .cells #[.int .i64 0, .int .i64 0, .int .i64 0, .int .i64 0, .int .i64 0, .int .i64 0, .slice a2 0 cap2, .int .i64 0, .int .i64 0] 24) (row_lt Q7.out)).trans Q7.out)
  have D8 := Lib.hid (D7.out.alloc D7.out.size (.cells #[.int .i64 0, .int .i64 0, .int .i64 0, .int .i64 0, .int .i64 0, .int .i64 0, .slice a2 0 cap2, .int .i64 0, .int .i64 0] 24))
  clear X7 Y7 P7 Q7 D7
  have x0 := cell_of_row _ _ 0 _ _ _ X8.out
  have x1 := cell_of_row _ _ 1 _ _ _ X8.out
  have x2 := cell_of_row _ _ 2 _ _ _ X8.out
  have x3 := cell_of_row _ _ 3 _ _ _ X8.out
  have x4 := cell_of_row _ _ 4 _ _ _ X8.out
  have x5 := cell_of_row _ _ 5 _ _ _ X8.out
  have x6 := cell_of_row _ _ 6 _ _ _ X8.out
  have x7 := cell_of_row _ _ 7 _ _ _ X8.out
  have x8 := cell_of_row _ _ 8 _ _ _ X8.out
  simp at x0 x1 x2 x3 x4 x5 x6 x7 x8
  go_wp2_with fail
  refine (HMS.out _).mono ?_
  rintro e w9 ⟨rfl, b9⟩
  clear x0 x1 x2 x3 x4 x5 x6 x7 x8
  have X9 := Lib.hid ((b9.block _ (row_lt X8.out)).trans X8.out)
  have Y9 := Lib.hid ((b9.block _ (row_lt Y8.out)).trans Y8.out)
  have P9 := Lib.hid ((b9.block _ (row_lt P8.out)).trans P8.out)
  have Q9 := Lib.hid ((b9.block _ (row_lt Q8.out)).trans Q8.out)
  have D9 := Lib.hid (D8.out.trans (b9.mono D8.out.size))
  clear b9 X8 Y8 P8 Q8 D8
  have x0 := cell_of_row _ _ 0 _ _ _ X9.out
  have x1 := cell_of_row _ _ 1 _ _ _ X9.out
  have x2 := cell_of_row _ _ 2 _ _ _ X9.out
  have x3 := cell_of_row _ _ 3 _ _ _ X9.out
  have x4 := cell_of_row _ _ 4 _ _ _ X9.out
  have x5 := cell_of_row _ _ 5 _ _ _ X9.out
  have x6 := cell_of_row _ _ 6 _ _ _ X9.out
  have x7 := cell_of_row _ _ 7 _ _ _ X9.out
  have x8 := cell_of_row _ _ 8 _ _ _ X9.out
  simp at x0 x1 x2 x3 x4 x5 x6 x7 x8
  have y0 := cell_of_row _ _ 0 _ _ _ Y9.out
  have y1 := cell_of_row _ _ 1 _ _ _ Y9.out
  have y2 := cell_of_row _ _ 2 _ _ _ Y9.out
  have y3 := cell_of_row _ _ 3 _ _ _ Y9.out
  have y4 := cell_of_row _ _ 4 _ _ _ Y9.out
  have y5 := cell_of_row _ _ 5 _ _ _ Y9.out
  have y6 := cell_of_row _ _ 6 _ _ _ Y9.out
  have y7 := cell_of_row _ _ 7 _ _ _ Y9.out
  have y8 := cell_of_row _ _ 8 _ _ _ Y9.out
  simp at y0 y1 y2 y3 y4 y5 y6 y7 y8
  go_wp2_with (go_at_call 17; refine (num_is _ _).mono ?_; rintro e w' ⟨rfl, rfl⟩)
  refine (HEQ.out _ _ _).mono ?_
  rintro e w10 ⟨rfl, b10⟩
  clear x0 y0 x1 y1 x2 y2 x3 y3 x4 y4 x5 y5 x6 y6 x7 y7 x8 y8
  have P10 := Lib.hid ((b10.block _ (row_lt P9.out)).trans P9.out)
  have Q10 := Lib.hid ((b10.block _ (row_lt Q9.out)).trans Q9.out)
  have D10 := Lib.hid (D9.out.trans (b10.mono D9.out.size))
  clear b10 P9 Q9 D9
  have x0 := cell_of_row _ _ 0 _ _ _ P10.out
  have x1 := cell_of_row _ _ 1 _ _ _ P10.out
  have x2 := cell_of_row _ _ 2 _ _ _ P10.out
  have x3 := cell_of_row _ _ 3 _ _ _ P10.out
  have x4 := cell_of_row _ _ 4 _ _ _ P10.out
  have x5 := cell_of_row _ _ 5 _ _ _ P10.out
  have x6 := cell_of_row _ _ 6 _ _ _ P10.out
  have x7 := cell_of_row _ _ 7 _ _ _ P10.out
  have x8 := cell_of_row _ _ 8 _ _ _ P10.out
  simp at x0 x1 x2 x3 x4 x5 x6 x7 x8
  go_wp2_with fail
  refine (HMP.out _).mono ?_
  rintro e w11 ⟨rfl, b11⟩
  clear x0 x1 x2 x3 x4 x5 x6 x7 x8
  have P11 := Lib.hid ((b11.block _ (row_lt P10.out)).trans P10.out)
  have Q11 := Lib.hid ((b11.block _ (row_lt Q10.out)).trans Q10.out)
  have D11 := Lib.hid (D10.out.trans (b11.mono D10.out.size))
  clear b11 P10 Q10 D10
  have x0 := cell_of_row _ _ 0 _ _ _ P11.out
  have x1 := cell_of_row _ _ 1 _ _ _ P11.out
  have x2 := cell_of_row _ _ 2 _ _ _ P11.out
  have x3 := cell_of_row _ _ 3 _ _ _ P11.out
  have x4 := cell_of_row _ _ 4 _ _ _ P11.out
  have x5 := cell_of_row _ _ 5 _ _ _ P11.out
  have x6 := cell_of_row _ _ 6 _ _ _ P11.out
  have x7 := cell_of_row _ _ 7 _ _ _ P11.out
  have x8 := cell_of_row _ _ 8 _ _ _ P11.out
  simp at x0 x1 x2 x3 x4 x5 x6 x7 x8
  have y0 := cell_of_row _ _ 0 _ _ _ Q11.out
  have y1 := cell_of_row _ _ 1 _ _ _ Q11.out
  have y2 := cell_of_row _ _ 2 _ _ _ Q11.out
  have y3 := cell_of_row _ _ 3 _ _ _ Q11.out
  have y4 := cell_of_row _ _ 4 _ _ _ Q11.out
  have y5 := cell_of_row _ _ 5 _ _ _ Q11.out
  have y6 := cell_of_row _ _ 6 _ _ _ Q11.out
  have y7 := cell_of_row _ _ 7 _ _ _ Q11.out
  have y8 := cell_of_row _ _ 8 _ _ _ Q11.out
  simp at y0 y1 y2 y3 y4 y5 y6 y7 y8
  go_wp2_with (go_at_call 17; refine (num_is _ _).mono ?_; rintro e w' ⟨rfl, rfl⟩)
  go_ret
  exact ⟨rfl, D11.out⟩
end Go.Proofs.Ytadfgadkihlmcaa
