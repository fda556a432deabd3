/- Layer 4: the law's own test that a program answers at all: its region that reads, as one step; bits that were packed, read again. -/
import Derived.Test.YthcbgijmnonckaaGreatKD
namespace Go.Proofs.YthcbgijmnonckaaGreat
open Go.RowKit Zo Zp
set_option linter.unusedVariables false
set_option linter.unusedSimpArgs false

theorem rep_no {n k : Nat} (h : (Array.replicate n false).getD k false = true) : False := by
  simp [Array.getD] at h

theorem is_pack (B post : List Bool) : Is (bitAt (bstr (packB (B ++ post)))) (8 * (bstr (packB (B ++ post))).size) 0 B.length B := by
  refine ⟨by simp, ?_, ?_⟩
  · rw [show bitAt (bstr (packB (B ++ post))) = fun i => (B ++ post).getD i false from funext (bitAt_pack _)]
    have := win_list [] B post
    simpa using this
  · rw [bstr_size, packB_length, List.length_append]
    omega

theorem got_pack {h : HeadN} {s : SpsN} {p : PpsN} {ref : Int} {key : Bool} (hm : headMay h s p ref key) (post : List Bool) : gotHead (bitAt (bstr (packB (headB h s p ref key ++ post)))) (8 * (bstr (packB (headB h s p ref key ++ post))).size) s p ref key 0 = (h, 0, (headB h s p ref key).length) :=
  gotHead_back hm (is_pack _ _)

set_option maxRecDepth 100000 in
set_option maxHeartbeats 4000000 in
theorem aw_reg {Q : Exit → Act → World → Prop} {a0 : Act} {W0 : World} (B wb sb pb : Nat) (bits : List Bool) (t : ByteArray) (hn : a0.tmps.size = 70) (e4 : a0.tmps[4]? = some (.pointer (some ⟨wb, 0, none⟩))) (e1 : a0.tmps[1]? = some (.pointer (some ⟨sb, 0, none⟩))) (e2 : a0.tmps[2]? = some (.pointer (some ⟨pb, 0, none⟩)))
    (rs : W0.heap[sb]? = some (.cells tinySC 29 (0, 0))) (rp : W0.heap[pb]? = some (.cells tinyPC 31 (0, 0))) (ls : sb < B) (lp : pb < B) (hBW : B ≤ W0.heap.size) (ht : t = bstr (packB bits)) (hb : bits.length ≤ 100000) (hs2 : t.size ≤ 1000000) (hw : ∃ wo, Wr W0 B wb wo bits)
    (HG : ∀ (w : World) (rb : Nat), Below B W0 w → Rd w B rb t 0 → Calls Tryz.prog 28 #[.pointer (some ⟨rb, 0, none⟩), .agg tinySC, .agg tinyPC, .int .i64 1, .bool true] w fun e w' => ∃ A, e = .returned (.tuple #[.agg (headCells (tinyH 26) A), .int .i64 0]) ∧ Fr (fun k => k = rb ∨ ¬ Plain B w k) w w')
    (hK : ∀ rb xb A w', Below B W0 w' → w'.heap[xb]? = some (.cells (headCells (tinyH 26) A) 26 (0, 0)) → B ≤ xb → Q .normal (Act.put (Act.put (Act.put (Act.put (Act.put (Act.put (Act.put (Act.put (Act.put (Act.put (Act.put a0 (some 22) (.pointer (some ⟨wb, 0, none⟩))) (some 23) (.string t)) (some 24) (.pointer (some ⟨rb, 0, none⟩))) (some 25) (.agg tinySC)) (some 26) (.agg tinyPC)) (some 27) (.tuple #[.agg (headCells (tinyH 26) A), .int .i64 0])) (some 21) (.tuple #[.agg (headCells (tinyH 26) A), .int .i64 0])) (some 28) (.agg (headCells (tinyH 26) A))) (some 29) (.int .i64 0)) (some 6) (.pointer (some ⟨xb, 0, none⟩))) (some 7) (.int .i64 0)) w') : (Code.region 4 aw_ops true).wp Tryz.prog Q a0 W0 := by
  refine wp_region_midstL (ops := aw_ops) (AwI B wb bits t W0) (awV wb t) (by kernel_rfl) (by rw [hn]; kernel_rfl) ⟨0, 0, zAdr⟩ ⟨(Below.refl _ _).drew, ?_, fun e => (rep_no e).elim, fun e => (rep_no e).elim, fun e => (rep_no e).elim, fun e => (rep_no e).elim, fun e => (rep_no e).elim, fun e => (rep_no e).elim⟩ (fun i hi => ?_) (fun g L b wz hL M => ?_)
  · obtain ⟨wo, h⟩ := hw
    exact ⟨wo, h⟩
  · match i, hi with
    | 0, _ => exact aw_s0 e4
    | 1, _ => exact aw_s1 ht hb
    | 2, _ => exact aw_s2 hs2 hBW
    | 3, _ => exact aw_s3 e1 rs ls
    | 4, _ => exact aw_s4 e2 rp lp
    | 5, _ => exact aw_s5 HG
    | 6, _ => exact aw_s6
    | 7, _ => exact aw_s7
    | 8, _ => exact aw_s8
    | 9, _ => exact aw_s9 hBW
    | 10, _ => exact aw_s10
    | 11, _ => exact aw_s11
    | k + 12, h => exact absurd h (by simp [aw_ops])
  · have e : b = (Act.put (Act.put (Act.put (Act.put (Act.put (Act.put (Act.put (Act.put (Act.put (Act.put (Act.put a0 (some 22) (.pointer (some ⟨wb, 0, none⟩))) (some 23) (.string t)) (some 24) (.pointer (some ⟨g.rb, 0, none⟩))) (some 25) (.agg tinySC)) (some 26) (.agg tinyPC)) (some 27) (.tuple #[.agg (headCells (tinyH 26) g.A), .int .i64 0])) (some 21) (.tuple #[.agg (headCells (tinyH 26) g.A), .int .i64 0])) (some 28) (.agg (headCells (tinyH 26) g.A))) (some 29) (.int .i64 0)) (some 6) (.pointer (some ⟨g.xb, 0, none⟩))) (some 7) (.int .i64 0)) := by
      refine act_ext (by rw [M.defers]; simp only [put_defers]) (fun d => ?_)
      simp only [put_at, put_size, hn]
      by_cases k0 : d = 22
      · subst k0
        obtain ⟨v, tt, gg⟩ := M.get hL 0 22 (by kernel_rfl)
        rw [show v = _ from gg] at tt
        rw [tt]
        simp
      by_cases k1 : d = 23
      · subst k1
        obtain ⟨v, tt, gg⟩ := M.get hL 1 23 (by kernel_rfl)
        rw [show v = _ from gg] at tt
        rw [tt]
        simp
      by_cases k2 : d = 24
      · subst k2
        obtain ⟨v, tt, gg⟩ := M.get hL 2 24 (by kernel_rfl)
        rw [show v = _ from gg] at tt
        rw [tt]
        simp
      by_cases k3 : d = 25
      · subst k3
        obtain ⟨v, tt, gg⟩ := M.get hL 3 25 (by kernel_rfl)
        rw [show v = _ from gg] at tt
        rw [tt]
        simp
      by_cases k4 : d = 26
      · subst k4
        obtain ⟨v, tt, gg⟩ := M.get hL 4 26 (by kernel_rfl)
        rw [show v = _ from gg] at tt
        rw [tt]
        simp
      by_cases k5 : d = 27
      · subst k5
        obtain ⟨v, tt, gg⟩ := M.get hL 5 27 (by kernel_rfl)
        rw [show v = _ from gg] at tt
        rw [tt]
        simp
      by_cases k6 : d = 21
      · subst k6
        obtain ⟨v, tt, gg⟩ := M.get hL 6 21 (by kernel_rfl)
        rw [show v = _ from gg] at tt
        rw [tt]
        simp
      by_cases k7 : d = 28
      · subst k7
        obtain ⟨v, tt, gg⟩ := M.get hL 7 28 (by kernel_rfl)
        rw [show v = _ from gg] at tt
        rw [tt]
        simp
      by_cases k8 : d = 29
      · subst k8
        obtain ⟨v, tt, gg⟩ := M.get hL 8 29 (by kernel_rfl)
        rw [show v = _ from gg] at tt
        rw [tt]
        simp
      by_cases k9 : d = 6
      · subst k9
        obtain ⟨v, tt, gg⟩ := M.get hL 9 6 (by kernel_rfl)
        rw [show v = _ from gg] at tt
        rw [tt]
        simp
      by_cases k11 : d = 7
      · subst k11
        obtain ⟨v, tt, gg⟩ := M.get hL 11 7 (by kernel_rfl)
        rw [show v = _ from gg] at tt
        rw [tt]
        simp
      have ho : outB aw_ops d = true := by
        simp [outB, aw_ops, aw_o0, aw_o1, aw_o2, aw_o3, aw_o4, aw_o5, aw_o6, aw_o7, aw_o8, aw_o9, aw_o10, aw_o11, Ne.symm k0, Ne.symm k1, Ne.symm k2, Ne.symm k3, Ne.symm k4, Ne.symm k5, Ne.symm k6, Ne.symm k7, Ne.symm k8, Ne.symm k9, Ne.symm k11]
      rw [M.out d ho]
      rw [if_neg (Ne.symm k11), if_neg (Ne.symm k9), if_neg (Ne.symm k8), if_neg (Ne.symm k7), if_neg (Ne.symm k6), if_neg (Ne.symm k5), if_neg (Ne.symm k4), if_neg (Ne.symm k3), if_neg (Ne.symm k2), if_neg (Ne.symm k1), if_neg (Ne.symm k0)]
    rw [e]
    have hx := M.inv.x1 (hL 9 (by decide)) (hL 10 (by decide))
    exact hK g.rb g.xb g.A wz M.inv.below hx.1 hx.2

end Go.Proofs.YthcbgijmnonckaaGreat
/- Layer 4: the law's own test that a program answers at all. -/
namespace Go.Proofs.YthcbgijmnonckaaGreat
open Go.RowKit Zo Zp
set_option linter.unusedVariables false
set_option linter.unusedSimpArgs false

theorem wpList_load_row_w {P : Program} {ops : Array Oper} {rest : List Oper} {o : Oper} {a : Act} {w : World} {Q : Exit → Act → World → Prop} (hw : Region.wanted o (yielded ops a.tmps) = true) (ty : TypeId) (x : Operand) (ho : o.op = .load ty x)
    (g : Nat) (hx : a.eval x = .pointer (some ⟨g, 0, none⟩)) (t : TypeId) (cs : Array Value) (fr : Nat × Nat) (d : TypeDesc) (hg : w.heap[g]? = some (.cells cs t fr))
    (hu : P.underlying ty = some d) (hd : (match d with | .struct _ | .array _ _ => true | _ => false) = true) (hi : (P.info? ty).map (·.size) = some cs.size)
    (h : wpList P ops Q rest (a.put o.dst (.agg cs)) w) : wpList P ops Q (o :: rest) a w :=
  wpList_step fun K hK => by rw [if_pos hw]; exact wp_load_row ty x ho g hx t cs fr d hg hu hd hi (hK _ _ h)

def tinyB : List Bool := headB (tinyH 26) tinyS tinyP 1 true

theorem tiny_rows (w : World) (q : Int) (A : Adr) : HeadRows w (tinyH q) A.m0 A.m1 A.q0 A.q1 A.os :=
  ⟨KRow.nil _ _ _ _, KRow.nil _ _ _ _, KRow.nil _ _ _ _, KRow.nil _ _ _ _, KRow.nil _ _ _ _, by simp [tinyH], by simp [tinyH], by simp [tinyH], by simp [tinyH], by simp [tinyH]⟩

theorem tiny_low (B : Nat) (q : Int) : HeadLow B (tinyH q) none none none none none :=
  ⟨fun _ _ e => (by cases e), fun _ _ e => (by cases e), fun _ _ e => (by cases e), fun _ _ e => (by cases e), fun _ _ e => (by cases e)⟩

theorem put_tiny (w : World) (B wb : Nat) (hw : WrE w B wb []) : Calls Tryz.prog 13 #[.pointer (some ⟨wb, 0, none⟩), .agg (tinyHC 26), .agg tinySC, .agg tinyPC, .int .i64 1, .bool true] w fun e w' => e = .returned (.int .i64 0) ∧ WNext w B wb tinyB w' := by
  obtain ⟨wo, h⟩ := hw
  exact putYes_any w B wb wo [] tinyS none 0 tinyP 1 true (tinyH 26) none none none none none 0 0 0 0 0 (IntRow.nil _ _) (by decide) (tiny_rows w 26 zAdr) (tiny_low B 26) h (by simp) tiny_may

theorem put_52 (w : World) (wb : Nat) : Calls Tryz.prog 13 #[.pointer (some ⟨wb, 0, none⟩), .agg (tinyHC 52), .agg tinySC, .agg tinyPC, .int .i64 1, .bool true] w fun e w' => e = .returned (.int .i64 401) ∧ Below w.heap.size w w' :=
  putNo_any w ⟨wb, 0, none⟩ tinyS none 0 tinyP 1 true (tinyH 52) none none none none none 0 0 0 0 0 (IntRow.nil _ _) (by decide) (tiny_rows w 52 zAdr) tiny_not

theorem put_nil (w : World) (q : Int) : Calls Tryz.prog 13 #[.pointer none, .agg (tinyHC q), .agg tinySC, .agg tinyPC, .int .i64 1, .bool true] w fun e w' => e = .returned (.int .i64 1) ∧ Below w.heap.size w w' :=
  putNil_any w tinyS none 0 tinyP 1 true (tinyH q) none none none none none 0 0 0 0 0

theorem may_tiny (w : World) : Calls Tryz.prog 16 #[.agg (tinyHC 26), .agg tinySC, .agg tinyPC, .int .i64 1, .bool true] w fun e w' => e = .returned (.bool true) ∧ Below w.heap.size w w' := by
  have h := may_is w tinyS none 0 tinyP 1 true (tinyH 26) none none none none none 0 0 0 0 0 (IntRow.nil _ _) (by decide) (tiny_rows w 26 zAdr)
  rw [decide_eq_true tiny_may] at h
  exact h

theorem get_tiny (B rb : Nat) (w : World) (hr : Rd w B rb (bstr (packB tinyB)) 0) : Calls Tryz.prog 28 #[.pointer (some ⟨rb, 0, none⟩), .agg tinySC, .agg tinyPC, .int .i64 1, .bool true] w fun e w' => ∃ A, e = .returned (.tuple #[.agg (headCells (tinyH 26) A), .int .i64 0]) ∧ Fr (fun k => k = rb ∨ ¬ Plain B w k) w w' := by
  have h := getGo_any w B rb 0 (bstr (packB tinyB)) tinyS none 0 tinyP 1 true (IntRow.nil _ _) (by decide) hr (by rw [size_pack]; decide) (headMay_stands tiny_may)
  have e := got_pack (h := tinyH 26) (s := tinyS) (p := tinyP) (ref := 1) (key := true) tiny_may []
  rw [List.append_nil] at e
  unfold tinyB at h
  rw [e] at h
  exact h.mono fun e w' ⟨A, he, _, f, _⟩ => ⟨A, he, f⟩

set_option maxRecDepth 100000 in
set_option maxHeartbeats 8000000 in
theorem awake4 (w : World) : Calls Tryz.prog 23 #[] w fun e w' => e = .returned (.bool true) ∧ Below w.heap.size w w' := by
  go_enter Tryz.func23, Tryz.ntmps23
  go_wp2_with fail
  refine (tiny_any _).mono ?_
  rintro e w1 ⟨rfl, b1⟩
  obtain ⟨r1, r2, r3, B3, z3⟩ := boxes3 w1 #[.int .i64 0, .int .i64 0, .int .i64 0, .int .i64 0, .int .i64 0, .int .i64 0, .slice none 0 0, .int .i64 0, .int .i64 0] #[.bool false, .bool false, .int .i64 0, .int .i64 0, .int .i64 0, .bool false, .bool false, .int .i64 0, .int .i64 0] #[.int .i64 0, .int .i64 0, .int .i64 0, .int .i64 0, .int .i64 0, .int .i64 0, .bool false, .int .i64 0, .int .i64 0, .slice none 0 0, .slice none 0 0, .int .i64 0, .int .i64 0, .slice none 0 0, .slice none 0 0, .bool false, .slice none 0 0, .int .i64 0, .bool false, .int .i64 0, .int .i64 0] 29 31 26
  have D3 := Lib.hid (b1.trans (B3.mono b1.size))
  have R1 := Lib.hid r1
  have R2 := Lib.hid r2
  have R3 := Lib.hid r3
  have Z1 := b1.size
  clear r1 r2 r3 B3 b1
  go_upto_region 2 with (first
    | (refine wpList_store_whole rfl 29 (.tmp 1) (.tmp 12) rfl w1.heap.size tinySC ?_ ?_ 29 #[.int .i64 0, .int .i64 0, .int .i64 0, .int .i64 0, .int .i64 0, .int .i64 0, .slice none 0 0, .int .i64 0, .int .i64 0] R1.out ?_ ?_ ?_ ?_; rfl; rfl; kernel_rfl; rfl; (simp [tinySC, Value.oneCell']); intro w4 s4 f4; have p4 := (f4.block _ (row_lt R2.out) (by omega)).trans R2.out; have h4 := (f4.block _ (row_lt R3.out) (by omega)).trans R3.out)
    | (refine wpList_store_whole rfl 31 (.tmp 2) (.tmp 13) rfl (w1.heap.size + 1) tinyPC ?_ ?_ 31 #[.bool false, .bool false, .int .i64 0, .int .i64 0, .int .i64 0, .bool false, .bool false, .int .i64 0, .int .i64 0] p4 ?_ ?_ ?_ ?_; rfl; rfl; kernel_rfl; rfl; (simp [tinyPC, Value.oneCell']); intro w5 p5 f5; have s5 := (f5.block _ (row_lt s4) (by omega)).trans s4; have h5 := (f5.block _ (row_lt h4) (by omega)).trans h4)
    | (refine wpList_store_whole rfl 26 (.tmp 3) (.tmp 14) rfl (w1.heap.size + 1 + 1) (tinyHC 26) ?_ ?_ 26 #[.int .i64 0, .int .i64 0, .int .i64 0, .int .i64 0, .int .i64 0, .int .i64 0, .bool false, .int .i64 0, .int .i64 0, .slice none 0 0, .slice none 0 0, .int .i64 0, .int .i64 0, .slice none 0 0, .slice none 0 0, .bool false, .slice none 0 0, .int .i64 0, .bool false, .int .i64 0, .int .i64 0] h5 ?_ ?_ ?_ ?_; rfl; rfl; kernel_rfl; rfl; (simp [tinyHC, headCells, Value.oneCell']); intro w6 h6 f6; have s6 := (f6.block _ (row_lt s5) (by omega)).trans s5; have p6 := (f6.block _ (row_lt p5) (by omega)).trans p5))
  have D6 := Lib.hid (((D3.out.trans (Fr.below f4 D3.out.size (fun k e => by omega))).trans (Fr.below f5 (Nat.le_trans D3.out.size f4.size) (fun k e => by omega))).trans (Fr.below f6 (Nat.le_trans D3.out.size (Nat.le_trans f4.size f5.size)) (fun k e => by omega)))
  have lh := row_lt h6
  clear f4 f5 f6 s4 p4 h4 s5 p5 h5 R1 R2 R3 D3
  go_wp2_with fail
  refine (new_e (w := w6) (B := w6.heap.size) (Nat.le_refl _)).mono ?_
  rintro e w7 ⟨wb, rfl, n7, d7, _⟩
  have h7 := (d7.block _ lh).trans h6
  have s7 := (d7.block _ (row_lt s6)).trans s6
  have p7 := (d7.block _ (row_lt p6)).trans p6
  have N7 := Lib.hid n7
  have D7 := Lib.hid d7
  clear n7 d7 h6 s6 p6
  go_wp2_with (first | (refine wpList_load_row_w rfl 26 (.tmp 3) rfl (w1.heap.size + 1 + 1) rfl 26 (tinyHC 26) (0, 0) _ h7 Tryz.underlying26 rfl (by kernel_rfl) ?_) | (refine wpList_load_row_w rfl 29 (.tmp 1) rfl w1.heap.size rfl 29 tinySC (0, 0) _ s7 Tryz.underlying29 rfl (by kernel_rfl) ?_) | (refine wpList_load_row_w rfl 31 (.tmp 2) rfl (w1.heap.size + 1) rfl 31 tinyPC (0, 0) _ p7 Tryz.underlying31 rfl (by kernel_rfl) ?_))
  refine (put_tiny _ w6.heap.size wb N7.out).mono ?_
  rintro e w8 ⟨rfl, n8, d8, _⟩
  have h8 := (d8.block _ lh).trans h7
  have s8 := (d8.block _ (by omega)).trans s7
  have p8 := (d8.block _ (by omega)).trans p7
  have N8 := Lib.hid n8
  have D8 := Lib.hid (D7.out.trans d8)
  clear n8 d8 h7 s7 p7 N7 D7
  go_wp2_with fail
  refine aw_reg w6.heap.size wb w1.heap.size (w1.heap.size + 1) tinyB (bstr (packB tinyB)) rfl rfl rfl rfl s8 p8 (by omega) (by omega) D8.out.size rfl (by decide) (by rw [size_pack]; decide) N8.out (fun w rb _ hr => get_tiny _ rb w hr) (fun rb xb A w9 b9 x9 lx => ?_)
  simp only [Act.put, List.setIfInBounds_toArray, List.set_cons_zero, List.set_cons_succ]
  have h9 := (b9.block _ lh).trans h8
  have s9 := (b9.block _ (by omega)).trans s8
  have p9 := (b9.block _ (by omega)).trans p8
  have D9 := Lib.hid (D6.out.trans ((D8.out.trans b9).mono D6.out.size))
  clear b9 h8 s8 p8 N8 D8 D6
  have hx : xb ≠ w1.heap.size + 1 + 1 := by omega
  have c17 : w9.cell? ⟨w1.heap.size + 1 + 1, 17, none⟩ = some (.int .i64 26) := by rw [cell_of_row w9 _ 17 _ _ _ h9]; rfl
  have z17 : w9.frozen? ⟨w1.heap.size + 1 + 1, 17, none⟩ = false := free_row h9 17
  obtain ⟨wA, hwA⟩ : ∃ x, w9.setCell ⟨w1.heap.size + 1 + 1, 17, none⟩ (.int .i64 52) = x := ⟨_, rfl⟩
  have fA : Fr (fun k => k = w1.heap.size + 1 + 1) w9 wA := by rw [← hwA]; exact set_fr _ _ _ _
  have hA : wA.heap[w1.heap.size + 1 + 1]? = some (.cells (tinyHC 52) 26 (0, 0)) := by rw [← hwA]; exact heap_setCell_row h9 17 _
  have sA := (fA.block _ (row_lt s9) (by omega)).trans s9
  have pA := (fA.block _ (row_lt p9) (by omega)).trans p9
  have xA := (fA.block _ (row_lt x9) hx).trans x9
  go_upto_region 6 with fail
  try rw [hwA]
  have DA := Lib.hid (D9.out.trans (Fr.below fA D9.out.size (fun k e => by omega)))
  clear c17 z17 hwA fA h9 s9 p9 x9 D9
  go_wp2_with (first | (refine wpList_load_row_w rfl 26 (.tmp 3) rfl (w1.heap.size + 1 + 1) rfl 26 (tinyHC 52) (0, 0) _ hA Tryz.underlying26 rfl (by kernel_rfl) ?_) | (refine wpList_load_row_w rfl 29 (.tmp 1) rfl w1.heap.size rfl 29 tinySC (0, 0) _ sA Tryz.underlying29 rfl (by kernel_rfl) ?_) | (refine wpList_load_row_w rfl 31 (.tmp 2) rfl (w1.heap.size + 1) rfl 31 tinyPC (0, 0) _ pA Tryz.underlying31 rfl (by kernel_rfl) ?_))
  refine (put_52 _ wb).mono ?_
  rintro e wB ⟨rfl, bB⟩
  have hB := (bB.block _ (row_lt hA)).trans hA
  have sB := (bB.block _ (row_lt sA)).trans sA
  have pB := (bB.block _ (row_lt pA)).trans pA
  have xB := (bB.block _ (row_lt xA)).trans xA
  have DB := Lib.hid (DA.out.trans (bB.mono DA.out.size))
  clear bB hA sA pA xA DA
  go_wp2_with (first | (refine wpList_load_row_w rfl 26 (.tmp 3) rfl (w1.heap.size + 1 + 1) rfl 26 (tinyHC 52) (0, 0) _ hB Tryz.underlying26 rfl (by kernel_rfl) ?_) | (refine wpList_load_row_w rfl 29 (.tmp 1) rfl w1.heap.size rfl 29 tinySC (0, 0) _ sB Tryz.underlying29 rfl (by kernel_rfl) ?_) | (refine wpList_load_row_w rfl 31 (.tmp 2) rfl (w1.heap.size + 1) rfl 31 tinyPC (0, 0) _ pB Tryz.underlying31 rfl (by kernel_rfl) ?_))
  refine (put_nil _ 52).mono ?_
  rintro e wC ⟨rfl, bC⟩
  have hC := (bC.block _ (row_lt hB)).trans hB
  have sC := (bC.block _ (row_lt sB)).trans sB
  have pC := (bC.block _ (row_lt pB)).trans pB
  have xC := (bC.block _ (row_lt xB)).trans xB
  have DC := Lib.hid (DB.out.trans (bC.mono DB.out.size))
  clear bC hB sB pB xB DB
  have c17 : wC.cell? ⟨w1.heap.size + 1 + 1, 17, none⟩ = some (.int .i64 52) := by rw [cell_of_row wC _ 17 _ _ _ hC]; rfl
  have z17 : wC.frozen? ⟨w1.heap.size + 1 + 1, 17, none⟩ = false := free_row hC 17
  obtain ⟨wD, hwD⟩ : ∃ x, wC.setCell ⟨w1.heap.size + 1 + 1, 17, none⟩ (.int .i64 26) = x := ⟨_, rfl⟩
  have fD : Fr (fun k => k = w1.heap.size + 1 + 1) wC wD := by rw [← hwD]; exact set_fr _ _ _ _
  have hD : wD.heap[w1.heap.size + 1 + 1]? = some (.cells (tinyHC 26) 26 (0, 0)) := by rw [← hwD]; exact heap_setCell_row hC 17 _
  have sD := (fD.block _ (row_lt sC) (by omega)).trans sC
  have pD := (fD.block _ (row_lt pC) (by omega)).trans pC
  have xD := (fD.block _ (row_lt xC) hx).trans xC
  go_upto_region 9 with fail
  try rw [hwD]
  have DD := Lib.hid (DC.out.trans (Fr.below fD DC.out.size (fun k e => by omega)))
  clear c17 z17 hwD fD hC sC pC xC DC
  go_wp2_with (first | (refine wpList_load_row_w rfl 26 (.tmp 3) rfl (w1.heap.size + 1 + 1) rfl 26 (tinyHC 26) (0, 0) _ hD Tryz.underlying26 rfl (by kernel_rfl) ?_) | (refine wpList_load_row_w rfl 29 (.tmp 1) rfl w1.heap.size rfl 29 tinySC (0, 0) _ sD Tryz.underlying29 rfl (by kernel_rfl) ?_) | (refine wpList_load_row_w rfl 31 (.tmp 2) rfl (w1.heap.size + 1) rfl 31 tinyPC (0, 0) _ pD Tryz.underlying31 rfl (by kernel_rfl) ?_))
  refine (may_tiny _).mono ?_
  rintro e wE ⟨rfl, bE⟩
  have hE := (bE.block _ (row_lt hD)).trans hD
  have xE := (bE.block _ (row_lt xD)).trans xD
  have DE := Lib.hid (DD.out.trans (bE.mono DD.out.size))
  clear bE hD sD pD xD DD
  go_wp2_with (first | (refine wpList_load_row_w rfl 26 (.tmp 3) rfl (w1.heap.size + 1 + 1) rfl 26 (tinyHC 26) (0, 0) _ hE Tryz.underlying26 rfl (by kernel_rfl) ?_) | (refine wpList_load_row_w rfl 26 (.tmp 6) rfl xb rfl 26 (headCells (tinyH 26) A) (0, 0) _ xE Tryz.underlying26 rfl (by kernel_rfl) ?_) | (go_at_call 18; refine (num_any _ _).mono ?_; rintro e w' ⟨rfl, rfl⟩))
  refine (sameHead_yes wE (tinyH 26) A zAdr (tiny_rows _ _ _) (tiny_rows _ _ _)).mono ?_
  rintro e wF ⟨rfl, bF⟩
  have DF := Lib.hid (DE.out.trans (bF.mono DE.out.size))
  clear bF
  go_wp2_with (first | (go_at_call 18; refine (num_any _ _).mono ?_; rintro e w' ⟨rfl, rfl⟩))
  go_ret
  exact ⟨rfl, DF.out⟩

end Go.Proofs.YthcbgijmnonckaaGreat
