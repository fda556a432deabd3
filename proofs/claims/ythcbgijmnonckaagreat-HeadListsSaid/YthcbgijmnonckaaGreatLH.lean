/- Layer 4: the walk of HeadLists. -/
import Derived.Test.YthcbgijmnonckaaGreatLG
import Derived.Deep.AppendLies
namespace Go.Proofs.YthcbgijmnonckaaGreat
open Go.RowKit Zo Zp
set_option linter.unusedVariables false
set_option linter.unusedSimpArgs false

def lstH (T A B : Int) (l : List WeightN) : HeadN := ⟨0, 4, T, 0, 0, 0, false, A, B, [], [], 0, 0, l, [], false, [], 26, false, 0, 0⟩
def lstP (w : Bool) : PpsN := ⟨false, w, 0, 26, 0, false, false, 1, 1⟩
def lstPC (w : Bool) : Array Value := #[.bool false, .bool w, .int .i64 0, .int .i64 26, .int .i64 0, .bool false, .bool false, .int .i64 1, .int .i64 1]
def zW : WeightN := ⟨0, 0, 0, 0, 0, 0⟩
def fineB (T A B : Int) : Bool := (decide (T < 3) && (decide (A > 0) == decide (T < 2))) && (decide (B > 0) == (T == 1))

theorem four {x : Int} (h : 0 ≤ x ∧ x ≤ 3) : x = 0 ∨ x = 1 ∨ x = 2 ∨ x = 3 := by omega

theorem lst_ok {T A B : Int} (hT : 0 ≤ T ∧ T ≤ 3) (hA : 0 ≤ A ∧ A ≤ 3) (hB : 0 ≤ B ∧ B ≤ 3) (w : Bool) : decide (headMay (lstH T A B []) tinyS (lstP w) 1 false) = (fineB T A B && !(w && (T == 0))) := by
  rcases four hT with rfl | rfl | rfl | rfl <;> rcases four hA with rfl | rfl | rfl | rfl <;> rcases four hB with rfl | rfl | rfl | rfl <;> cases w <;> decide

theorem lst_with {A B : Int} (hA : 0 ≤ A ∧ A ≤ 3) (hB : 0 ≤ B ∧ B ≤ 3) : decide (headMay (lstH 0 A B (List.replicate A.toNat zW)) tinyS (lstP true) 1 false) = fineB 0 A B := by
  rcases four hA with rfl | rfl | rfl | rfl <;> rcases four hB with rfl | rfl | rfl | rfl <;> decide

theorem three (x : Int) : 0 ≤ bits .and .i64 x 3 ∧ bits .and .i64 x 3 ≤ 3 := by
  have h : bits .and .i64 x 3 = x % 4 := and_mask_i64 x 2 (by omega)
  rw [h]
  omega

theorem append_weight {w : World} {ops : Array Oper} {rest : List Oper} {o : Oper} {a : Act} {Q : Exit → Act → World → Prop} (hgd : o.guard = none) (s x : Operand)
    (ho : o.op = .call { callee := .builtin .append, args := #[s, x], argTypes := #[23, 23] })
    (B : Nat) (v : Value) (n : Nat) (m : List Value) (hs : a.eval s = v) (hown : w.ownsRow B 73 6 v n m) (hx : a.eval x = .slice (some ⟨w.heap.size, 0, none⟩) 1 1)
    (hl : n ≤ 1000000) (hB : B ≤ w.heap.size)
    (h : ∀ v' w', w'.ownsRow B 73 6 v' (n + 1) (m ++ [.int .i64 0, .int .i64 0, .int .i64 0, .int .i64 0, .int .i64 0, .int .i64 0]) → Below B w w' → wpList Tryz.prog ops Q rest (a.put o.dst v') w') :
    wpList Tryz.prog ops Q (o :: rest) a (w.alloc (.cells #[.int .i64 0, .int .i64 0, .int .i64 0, .int .i64 0, .int .i64 0, .int .i64 0] 73)) := by
  obtain ⟨i0, hi, hz0, hz1, hz2⟩ := info_parts info_Weight
  refine wpList_append_lies _ hgd s x 23 ho B 73 i0 (.agg #[.int .i64 0, .int .i64 0, .int .i64 0, .int .i64 0, .int .i64 0, .int .i64 0]) 6 48 Tryz.underlying23 hi hz0 hz1 hz2 rfl (by decide) v n m hs (World.ownsRow.alloc hown _) ⟨w.heap.size, 0, none⟩ 1 1 [.int .i64 0, .int .i64 0, .int .i64 0, .int .i64 0, .int .i64 0, .int .i64 0] hx rfl ?_ (by simp [Value.oneCell']) (by decide) (by unfold maxLen; omega) (by omega) (by simp; omega) _ rfl ?_
  · intro j u hu
    rw [show (⟨w.heap.size, 0, none⟩ : Addr).add j = ⟨w.heap.size, 0 + j, none⟩ from by unfold Addr.add; split <;> simp_all, Nat.zero_add, cell_of_row _ _ _ _ _ _ (heap_alloc_last w _)]
    simpa using hu
  · intro g cap w' h1 h2 h3 h4
    exact h _ _ h1 (((Below.refl _ _).alloc hB _).grown h2 (by simp; omega) (fun k e => (hown.lt k e).1))

theorem own_row {w : World} {B : Nat} {v : Value} {n : Nat} (h : w.ownsRow B 73 6 v n (List.replicate (n * 6) (.int .i64 0))) : ∃ a cap, v = .slice a n cap ∧ KRow 6 weightI w a (List.replicate n zW) := by
  rcases h.2 with ⟨rfl, rfl⟩ | ⟨g, cap, cur, rfl, _, hg, _, _, _, ht⟩
  · exact ⟨none, 0, rfl, KRow.nil _ _ _ _⟩
  · refine ⟨some ⟨g, 0, none⟩, cap, rfl, fun _ => ⟨g, 0, rfl, row_lt hg, fun i hi j x hx => ?_⟩⟩
    have hi' : i < n := by simpa using hi
    have hz : x = 0 ∧ j < 6 := by
      simp only [List.getElem_replicate] at hx
      match j, hx with
      | 0, hx | 1, hx | 2, hx | 3, hx | 4, hx | 5, hx => exact ⟨(Option.some.inj hx).symm, by omega⟩
    obtain ⟨rfl, hj⟩ := hz
    rw [cell_of_row w g _ _ _ _ hg]
    have e : (cur.toList.take (n * 6))[0 + i * 6 + j]? = some (.int .i64 0) := by
      rw [ht, List.getElem?_replicate, if_pos (by omega)]
    rw [List.getElem?_take, if_pos (by omega)] at e
    simpa using e

theorem own_grow {w : World} {B : Nat} {v : Value} {n : Nat} (h : w.ownsRow B 73 6 v (n + 1) (List.replicate (n * 6) (.int .i64 0) ++ [.int .i64 0, .int .i64 0, .int .i64 0, .int .i64 0, .int .i64 0, .int .i64 0])) : w.ownsRow B 73 6 v (n + 1) (List.replicate ((n + 1) * 6) (.int .i64 0)) := by
  have e : (List.replicate (n * 6) (Value.int .i64 0)) ++ [.int .i64 0, .int .i64 0, .int .i64 0, .int .i64 0, .int .i64 0, .int .i64 0] = List.replicate ((n + 1) * 6) (.int .i64 0) := by
    show List.replicate (n * 6) (Value.int .i64 0) ++ List.replicate 6 (Value.int .i64 0) = _
    rw [List.replicate_append_replicate]
    congr 1
    omega
  rw [e] at h
  exact h

set_option maxRecDepth 100000 in
set_option maxHeartbeats 16000000 in
theorem headLists_walk (a0 a1 a2 : Int) (a3 : Bool) (w : World) (_ : (Lit.int .i64 a0).wf = true) (_ : (Lit.int .i64 a1).wf = true) (_ : (Lit.int .i64 a2).wf = true) :
    Calls Tryz.prog 8 #[.int .i64 a0, .int .i64 a1, .int .i64 a2, .bool a3] w fun e w' => e = .returned (.bool true) ∧ Below w.heap.size w w' := by
  have bT := three a0
  have bA := three a1
  have bB := three a2
  obtain ⟨T, hT⟩ : ∃ x, bits .and .i64 a0 3 = x := ⟨_, rfl⟩
  obtain ⟨A, hA⟩ : ∃ x, bits .and .i64 a1 3 = x := ⟨_, rfl⟩
  obtain ⟨B, hB⟩ : ∃ x, bits .and .i64 a2 3 = x := ⟨_, rfl⟩
  rw [hT] at bT
  rw [hA] at bA
  rw [hB] at bB
  have HM := Lib.hid (lst_ok bT bA bB a3)
  have BT := Lib.hid bT
  have BA := Lib.hid bA
  have BB := Lib.hid bB
  clear bT bA bB
  go_enter Tryz.func8, Tryz.ntmps8
  go_wp2_with fail
  refine (awake4 _).mono ?_
  rintro e w0 ⟨rfl, b0⟩
  go_wp2_with fail
  refine (tiny_any _).mono ?_
  rintro e w1 ⟨rfl, b1'⟩
  have b1 := b0.trans (b1'.mono b0.size)
  clear b1' b0
  obtain ⟨r1, r2, r3, B3, z3⟩ := boxes3 w1 #[.int .i64 0, .int .i64 0, .int .i64 0, .int .i64 0, .int .i64 0, .int .i64 0, .slice none 0 0, .int .i64 0, .int .i64 0] #[.bool false, .bool false, .int .i64 0, .int .i64 0, .int .i64 0, .bool false, .bool false, .int .i64 0, .int .i64 0] #[.int .i64 0, .int .i64 0, .int .i64 0, .int .i64 0, .int .i64 0, .int .i64 0, .bool false, .int .i64 0, .int .i64 0, .slice none 0 0, .slice none 0 0, .int .i64 0, .int .i64 0, .slice none 0 0, .slice none 0 0, .bool false, .slice none 0 0, .int .i64 0, .bool false, .int .i64 0, .int .i64 0] 29 31 26
  have D3 := Lib.hid (b1.trans (B3.mono b1.size))
  have R1 := Lib.hid r1
  have R2 := Lib.hid r2
  have R3 := Lib.hid r3
  have Z1 := b1.size
  clear r1 r2 r3 B3 b1
  go_upto_region 4 with (first
    | (refine wpList_store_whole rfl 29 (.tmp 9) (.tmp 23) rfl w1.heap.size tinySC ?_ ?_ 29 #[.int .i64 0, .int .i64 0, .int .i64 0, .int .i64 0, .int .i64 0, .int .i64 0, .slice none 0 0, .int .i64 0, .int .i64 0] R1.out ?_ ?_ ?_ ?_; rfl; rfl; kernel_rfl; rfl; (simp [tinySC, Value.oneCell']); intro w4 s4 f4; have p4 := (f4.block _ (row_lt R2.out) (by omega)).trans R2.out; have h4 := (f4.block _ (row_lt R3.out) (by omega)).trans R3.out)
    | (refine wpList_store_whole rfl 31 (.tmp 10) (.tmp 24) rfl (w1.heap.size + 1) tinyPC ?_ ?_ 31 #[.bool false, .bool false, .int .i64 0, .int .i64 0, .int .i64 0, .bool false, .bool false, .int .i64 0, .int .i64 0] p4 ?_ ?_ ?_ ?_; rfl; rfl; kernel_rfl; rfl; (simp [tinyPC, Value.oneCell']); intro w5 p5 f5; have s5 := (f5.block _ (row_lt s4) (by omega)).trans s4; have h5 := (f5.block _ (row_lt h4) (by omega)).trans h4)
    | (refine wpList_store_whole rfl 26 (.tmp 11) (.tmp 25) rfl (w1.heap.size + 1 + 1) (tinyHC 26) ?_ ?_ 26 #[.int .i64 0, .int .i64 0, .int .i64 0, .int .i64 0, .int .i64 0, .int .i64 0, .bool false, .int .i64 0, .int .i64 0, .slice none 0 0, .slice none 0 0, .int .i64 0, .int .i64 0, .slice none 0 0, .slice none 0 0, .bool false, .slice none 0 0, .int .i64 0, .bool false, .int .i64 0, .int .i64 0] h5 ?_ ?_ ?_ ?_; rfl; rfl; kernel_rfl; rfl; (simp [tinyHC, headCells, Value.oneCell']); intro w6 h6 f6; have s6 := (f6.block _ (row_lt s5) (by omega)).trans s5; have p6 := (f6.block _ (row_lt p5) (by omega)).trans p5))
  have D6 := Lib.hid (((D3.out.trans (Fr.below f4 D3.out.size (fun k e => by omega))).trans (Fr.below f5 (Nat.le_trans D3.out.size f4.size) (fun k e => by omega))).trans (Fr.below f6 (Nat.le_trans D3.out.size (Nat.le_trans f4.size f5.size)) (fun k e => by omega)))
  have lh := row_lt h6
  clear f4 f5 f6 s4 p4 h4 s5 p5 h5 R1 R2 R3 D3
  have c_ : w6.cell? ⟨(w1.heap.size + 1 + 1), 2, none⟩ = some (.int .i64 2) := by rw [cell_of_row w6 _ 2 _ _ _ h6]; rfl
  have z_ : w6.frozen? ⟨(w1.heap.size + 1 + 1), 2, none⟩ = false := free_row h6 2
  obtain ⟨w7, hw_⟩ : ∃ x, w6.setCell ⟨(w1.heap.size + 1 + 1), 2, none⟩ (.int .i64 T) = x := ⟨_, rfl⟩
  have f_ : Fr (fun k => k = (w1.heap.size + 1 + 1)) w6 w7 := by rw [← hw_]; exact set_fr _ _ _ _
  have h7 : w7.heap[(w1.heap.size + 1 + 1)]? = some (.cells (headCells (lstH T 0 0 []) zAdr) 26 (0, 0)) := by rw [← hw_]; exact heap_setCell_row h6 2 _
  have s7 := (f_.block _ (row_lt s6) (by omega)).trans s6
  have p7 := (f_.block _ (row_lt p6) (by omega)).trans p6
  go_upto_region 5 with fail
  try rw [hw_]
  have D7 := Lib.hid (D6.out.trans (Fr.below f_ D6.out.size (fun k e => by omega)))
  clear c_ z_ hw_ f_ h6 s6 p6 D6
  have c_ : w7.cell? ⟨(w1.heap.size + 1 + 1), 7, none⟩ = some (.int .i64 0) := by rw [cell_of_row w7 _ 7 _ _ _ h7]; rfl
  have z_ : w7.frozen? ⟨(w1.heap.size + 1 + 1), 7, none⟩ = false := free_row h7 7
  obtain ⟨w8, hw_⟩ : ∃ x, w7.setCell ⟨(w1.heap.size + 1 + 1), 7, none⟩ (.int .i64 A) = x := ⟨_, rfl⟩
  have f_ : Fr (fun k => k = (w1.heap.size + 1 + 1)) w7 w8 := by rw [← hw_]; exact set_fr _ _ _ _
  have h8 : w8.heap[(w1.heap.size + 1 + 1)]? = some (.cells (headCells (lstH T A 0 []) zAdr) 26 (0, 0)) := by rw [← hw_]; exact heap_setCell_row h7 7 _
  have s8 := (f_.block _ (row_lt s7) (by omega)).trans s7
  have p8 := (f_.block _ (row_lt p7) (by omega)).trans p7
  go_upto_region 6 with fail
  try rw [hw_]
  have D8 := Lib.hid (D7.out.trans (Fr.below f_ D7.out.size (fun k e => by omega)))
  clear c_ z_ hw_ f_ h7 s7 p7 D7
  have c_ : w8.cell? ⟨(w1.heap.size + 1 + 1), 8, none⟩ = some (.int .i64 0) := by rw [cell_of_row w8 _ 8 _ _ _ h8]; rfl
  have z_ : w8.frozen? ⟨(w1.heap.size + 1 + 1), 8, none⟩ = false := free_row h8 8
  obtain ⟨w9, hw_⟩ : ∃ x, w8.setCell ⟨(w1.heap.size + 1 + 1), 8, none⟩ (.int .i64 B) = x := ⟨_, rfl⟩
  have f_ : Fr (fun k => k = (w1.heap.size + 1 + 1)) w8 w9 := by rw [← hw_]; exact set_fr _ _ _ _
  have h9 : w9.heap[(w1.heap.size + 1 + 1)]? = some (.cells (headCells (lstH T A B []) zAdr) 26 (0, 0)) := by rw [← hw_]; exact heap_setCell_row h8 8 _
  have s9 := (f_.block _ (row_lt s8) (by omega)).trans s8
  have p9 := (f_.block _ (row_lt p8) (by omega)).trans p8
  go_upto_region 7 with fail
  try rw [hw_]
  have D9 := Lib.hid (D8.out.trans (Fr.below f_ D8.out.size (fun k e => by omega)))
  clear c_ z_ hw_ f_ h8 s8 p8 D8
  have c_ : w9.cell? ⟨(w1.heap.size + 1), 1, none⟩ = some (.bool false) := by rw [cell_of_row w9 _ 1 _ _ _ p9]; rfl
  have z_ : w9.frozen? ⟨(w1.heap.size + 1), 1, none⟩ = false := free_row p9 1
  obtain ⟨w10, hw_⟩ : ∃ x, w9.setCell ⟨(w1.heap.size + 1), 1, none⟩ (.bool a3) = x := ⟨_, rfl⟩
  have f_ : Fr (fun k => k = (w1.heap.size + 1)) w9 w10 := by rw [← hw_]; exact set_fr _ _ _ _
  have p10 : w10.heap[(w1.heap.size + 1)]? = some (.cells (lstPC a3) 31 (0, 0)) := by rw [← hw_]; exact heap_setCell_row p9 1 _
  have h10 := (f_.block _ (row_lt h9) (by omega)).trans h9
  have s10 := (f_.block _ (row_lt s9) (by omega)).trans s9
  go_upto_region 8 with fail
  try rw [hw_]
  have D10 := Lib.hid (D9.out.trans (Fr.below f_ D9.out.size (fun k e => by omega)))
  clear c_ z_ hw_ f_ h9 s9 p9 D9
  clear hT hA hB
  have Z10 := D10.out.size
  refine l8_reg (w1.heap.size + 1 + 1) T A B h10 rfl rfl (fun w11 b11 => ?_)
  simp only [Act.put, List.setIfInBounds_toArray, List.set_cons_zero, List.set_cons_succ]
  have h11 := (b11.block _ (row_lt h10)).trans h10
  have s11 := (b11.block _ (row_lt s10)).trans s10
  have p11 := (b11.block _ (row_lt p10)).trans p10
  have D11 := Lib.hid (D10.out.trans (b11.mono D10.out.size))
  clear b11 h10 s10 p10 D10
  go_upto_region 9 with fail
  refine l9_reg (w1.heap.size + 1 + 1) T A B (decide (T < 2)) (T == 1) h11 rfl rfl rfl rfl (fun w12 u4 u5 u6 u7 u8 u11 u12 u13 u14 u15 b12 => ?_)
  simp only [Act.put, List.setIfInBounds_toArray, List.set_cons_zero, List.set_cons_succ]
  have h12 := (b12.block _ (row_lt h11)).trans h11
  have s12 := (b12.block _ (row_lt s11)).trans s11
  have p12 := (b12.block _ (row_lt p11)).trans p11
  have D12 := Lib.hid (D11.out.trans (b12.mono D11.out.size))
  clear b12 h11 s11 p11 D11
  go_upto_region 10 with fail
  refine l10_reg (w1.heap.size + 1 + 1) T A B a3 h12 rfl rfl rfl (fun w13 v2 v3 v4 b13 => ?_)
  simp only [Act.put, List.setIfInBounds_toArray, List.set_cons_zero, List.set_cons_succ]
  have h13 := (b13.block _ (row_lt h12)).trans h12
  have s13 := (b13.block _ (row_lt s12)).trans s12
  have p13 := (b13.block _ (row_lt p12)).trans p12
  have D13 := Lib.hid (D12.out.trans (b13.mono D12.out.size))
  clear b13 h12 s12 p12 D12
  have hmay := fun w => may_is w tinyS none 0 (lstP a3) 1 false (lstH T A B []) none none none none none 0 0 0 0 0 (IntRow.nil _ _) (by decide) ⟨KRow.nil _ _ _ _, KRow.nil _ _ _ _, KRow.nil _ _ _ _, KRow.nil _ _ _ _, KRow.nil _ _ _ _, by simp [lstH], by simp [lstH], by simp [lstH], by simp [lstH], by simp [lstH]⟩
  rw [HM.out] at hmay
  obtain ⟨Fn, hF⟩ : ∃ b, fineB T A B = b := ⟨_, rfl⟩
  rw [hF] at hmay
  rw [show ((decide (T < 3) && (decide (A > 0) == decide (T < 2))) && (decide (B > 0) == (T == 1))) = Fn from hF]
  have HF := Lib.hid hF
  clear hF
  cases hN : (a3 && (T == 0))
  · rw [hN] at hmay
    have HMay := Lib.hid hmay
    clear hmay hN
    go_wp2_with (first | (refine wpList_load_row_w rfl 26 (.tmp 11) rfl (w1.heap.size + 1 + 1) rfl 26 _ (0, 0) _ h13 Tryz.underlying26 rfl (by kernel_rfl) ?_) | (refine wpList_load_row_w rfl 29 (.tmp 9) rfl w1.heap.size rfl 29 tinySC (0, 0) _ s13 Tryz.underlying29 rfl (by kernel_rfl) ?_) | (refine wpList_load_row_w rfl 31 (.tmp 10) rfl (w1.heap.size + 1) rfl 31 _ (0, 0) _ p13 Tryz.underlying31 rfl (by kernel_rfl) ?_))
    refine (HMay.out _).mono ?_
    rintro e w14 ⟨rfl, b14⟩
    have h14 := (b14.block _ (row_lt h13)).trans h13
    have s14 := (b14.block _ (row_lt s13)).trans s13
    have p14 := (b14.block _ (row_lt p13)).trans p13
    have D14 := Lib.hid (D13.out.trans (b14.mono D13.out.size))
    clear b14 h13 s13 p13 D13
    go_wp2_with fail
    go_loopg [17] 1 (fun q i wr => q = 1 ∧ i = .int .i64 0 ∧ wr = w14)
    case atStart => exact ⟨rfl, rfl, rfl⟩
    case round =>
      obtain ⟨hq, rfl, rfl⟩ := hrel
      have c7 : wr.cell? ⟨(w1.heap.size + 1 + 1), 7, none⟩ = some (.int .i64 A) := by rw [cell_of_row wr _ 7 _ _ _ h14]; rfl
      by_cases hA : 0 < A
      all_goals
        go_wp2_with (first | (refine wpList_load_row_w rfl 26 (.tmp 11) rfl (w1.heap.size + 1 + 1) rfl 26 _ (0, 0) _ h14 Tryz.underlying26 rfl (by kernel_rfl) ?_) | (refine wpList_load_row_w rfl 29 (.tmp 9) rfl w1.heap.size rfl 29 tinySC (0, 0) _ s14 Tryz.underlying29 rfl (by kernel_rfl) ?_) | (refine wpList_load_row_w rfl 31 (.tmp 10) rfl (w1.heap.size + 1) rfl 31 _ (0, 0) _ p14 Tryz.underlying31 rfl (by kernel_rfl) ?_))
        refine (HMay.out _).mono ?_
        rintro e w15 ⟨rfl, b15⟩
        have D15 := Lib.hid (D14.out.trans (b15.mono D14.out.size))
        go_upto_region 17 with fail
        refine l17_reg _ _ _ _ rfl rfl rfl rfl rfl (fun w16 x3 x4 x8 x9 x10 b16 => ?_)
        simp only [Act.put, List.setIfInBounds_toArray, List.set_cons_zero, List.set_cons_succ]
        go_wp2_with fail
        go_ret
        exact ⟨ret_bool (by cases Fn <;> simp), D15.out.trans (b16.mono D15.out.size)⟩
  · rw [hN] at hmay
    have HMay := Lib.hid hmay
    obtain ⟨rfl, rfl⟩ : a3 = true ∧ T = 0 := by simpa using hN
    clear hmay hN
    have hd := lst_with BA.out BB.out
    obtain ⟨l, hl⟩ : ∃ l, List.replicate A.toNat zW = l := ⟨_, rfl⟩
    have hll : l.length = A.toNat := by rw [← hl]; simp
    rw [hl, HF.out] at hd
    have HL := Lib.hid hl
    have hwith := fun w a cap (R : KRow 6 weightI w a l) => may_is w tinyS none 0 (lstP true) 1 false (lstH 0 A B l) none none a none none 0 0 cap 0 0 (IntRow.nil _ _) (by decide) ⟨KRow.nil _ _ _ _, KRow.nil _ _ _ _, R, KRow.nil _ _ _ _, KRow.nil _ _ _ _, by simp [lstH], by simp [lstH], by simp only [lstH]; have := BA.out.2; omega, by simp [lstH], by simp [lstH]⟩
    rw [hd] at hwith
    have HW := Lib.hid hwith
    clear hwith hd hl
    have HLL := Lib.hid hll
    clear hll
    go_wp2_with (first | (refine wpList_load_row_w rfl 26 (.tmp 11) rfl (w1.heap.size + 1 + 1) rfl 26 _ (0, 0) _ h13 Tryz.underlying26 rfl (by kernel_rfl) ?_) | (refine wpList_load_row_w rfl 29 (.tmp 9) rfl w1.heap.size rfl 29 tinySC (0, 0) _ s13 Tryz.underlying29 rfl (by kernel_rfl) ?_) | (refine wpList_load_row_w rfl 31 (.tmp 10) rfl (w1.heap.size + 1) rfl 31 _ (0, 0) _ p13 Tryz.underlying31 rfl (by kernel_rfl) ?_))
    refine (HMay.out _).mono ?_
    rintro e w14 ⟨rfl, b14⟩
    have h14 := (b14.block _ (row_lt h13)).trans h13
    have s14 := (b14.block _ (row_lt s13)).trans s13
    have p14 := (b14.block _ (row_lt p13)).trans p13
    have D14 := Lib.hid (D13.out.trans (b14.mono D13.out.size))
    have Z14 := D14.out.size
    have zh := row_lt h14
    have zs := row_lt s14
    have zp := row_lt p14
    clear b14 h13 s13 p13 D13
    go_wp2_with fail
    go_loopg [17] A.toNat (fun q i wr => ∃ (j : Nat) (v : Value), j + q = A.toNat ∧ i = .int .i64 (j : Int) ∧ wr.heap[(w1.heap.size + 1 + 1)]? = some (.cells #[.int .i64 0, .int .i64 4, .int .i64 0, .int .i64 0, .int .i64 0, .int .i64 0, .bool false, .int .i64 A, .int .i64 B, .slice none 0 0, .slice none 0 0, .int .i64 0, .int .i64 0, v, .slice none 0 0, .bool false, .slice none 0 0, .int .i64 26, .bool false, .int .i64 0, .int .i64 0] 26 (0, 0)) ∧ wr.heap[w1.heap.size]? = some (.cells tinySC 29 (0, 0)) ∧ wr.heap[(w1.heap.size + 1)]? = some (.cells (lstPC true) 31 (0, 0)) ∧ wr.ownsRow w14.heap.size 73 6 v j (List.replicate (j * 6) (.int .i64 0)) ∧ Below w.heap.size w wr ∧ w14.heap.size ≤ wr.heap.size)
    case atStart => exact ⟨0, .slice none 0 0, by omega, rfl, h14, s14, p14, World.ownsRow_nil _ _ _ _, D14.out, Nat.le_refl _⟩
    case round =>
      obtain ⟨j, v, hq, rfl, hh, hs, hp, hown, bw, zw⟩ := hrel
      have HO := Lib.hid hown
      have BW := Lib.hid bw
      clear hown bw h14 s14 p14 D14
      have c7 : wr.cell? ⟨(w1.heap.size + 1 + 1), 7, none⟩ = some (.int .i64 A) := by rw [cell_of_row wr _ 7 _ _ _ hh]; rfl
      by_cases hlt : j < A.toNat
      · have hja : (j : Int) < A := by omega
        have c13 : wr.cell? ⟨(w1.heap.size + 1 + 1), 13, none⟩ = some v := by rw [cell_of_row wr _ 13 _ _ _ hh]; rfl
        have hj6 : j ≤ 1000000 := by have := BA.out.2; omega
        go_wp2_with (at_builtin; (refine append_weight rfl (.tmp 80) (.tmp 82) rfl w14.heap.size v j _ rfl HO.out rfl hj6 zw ?_; intro v4 w4 hown4 b4; have hh4 := (b4.block _ zh).trans hh; have hs4 := (b4.block _ zs).trans hs; have hp4 := (b4.block _ zp).trans hp; have c4 : w4.cell? ⟨(w1.heap.size + 1 + 1), 13, none⟩ = some v := (by rw [cell_of_row w4 _ 13 _ _ _ hh4]; rfl); have f4 : w4.frozen? ⟨(w1.heap.size + 1 + 1), 13, none⟩ = false := free_row hh4 13; have hg4 := own_grow hown4; obtain ⟨a4, cap4, rfl, _⟩ := own_row hg4; have HO4 := Lib.hid hg4; have B4 := Lib.hid b4; clear hown4 hg4 b4 c13 c7))
        have fx := set_fr w4 (w1.heap.size + 1 + 1) 13 (.slice a4 (j + 1) cap4)
        have z4 := B4.out.size
        go_roundg (gk - 1)
        case measure => omega
        case rel => exact ⟨j + 1, .slice a4 (j + 1) cap4, by omega, by go_num, heap_setCell_row hh4 13 _, (fx.block _ (row_lt hs4) (by omega)).trans hs4, (fx.block _ (row_lt hp4) (by omega)).trans hp4, ownsRow_fr HO4.out fx (fun k e hk => by have := World.ownsRow.lt HO4.out k e; omega), (BW.out.trans (B4.out.mono (by omega))).trans (Fr.below fx (by omega) (fun k e => by omega)), by have := fx.size; omega⟩
      · have hja : ¬ (j : Int) < A := by omega
        obtain ⟨ax, capx, rfl, kr⟩ := own_row HO.out
        have hjn : j = l.length := by rw [HLL.out]; omega
        have hjA : j = A.toNat := by omega
        rw [hjA, HL.out] at kr
        subst hjn
        clear hjA hlt hq
        go_wp2_with (first | (refine wpList_load_row_w rfl 26 (.tmp 11) rfl (w1.heap.size + 1 + 1) rfl 26 _ (0, 0) _ hh Tryz.underlying26 rfl (by kernel_rfl) ?_) | (refine wpList_load_row_w rfl 29 (.tmp 9) rfl w1.heap.size rfl 29 tinySC (0, 0) _ hs Tryz.underlying29 rfl (by kernel_rfl) ?_) | (refine wpList_load_row_w rfl 31 (.tmp 10) rfl (w1.heap.size + 1) rfl 31 _ (0, 0) _ hp Tryz.underlying31 rfl (by kernel_rfl) ?_))
        refine (HW.out _ ax capx kr).mono ?_
        rintro e w15 ⟨rfl, b15⟩
        have D15 := Lib.hid (BW.out.trans (b15.mono BW.out.size))
        go_upto_region 17 with fail
        refine l17_reg _ _ _ _ rfl rfl rfl rfl rfl (fun w16 x3 x4 x8 x9 x10 b16 => ?_)
        simp only [Act.put, List.setIfInBounds_toArray, List.set_cons_zero, List.set_cons_succ]
        go_wp2_with fail
        go_ret
        exact ⟨ret_bool (by cases Fn <;> simp), D15.out.trans (b16.mono D15.out.size)⟩

end Go.Proofs.YthcbgijmnonckaaGreat
