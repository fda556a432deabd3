/- Layer 4: the walk of HeadBack. -/
import Derived.Test.YthcbgijmnonckaaGreatLC
import Derived.Test.YthcbgijmnonckaaGreatLE
import Derived.Test.YthcbgijmnonckaaGreatLX
namespace Go.Proofs.YthcbgijmnonckaaGreat
open Go.RowKit Zo Zp
set_option linter.unusedVariables false
set_option linter.unusedSimpArgs false

theorem bits_e {w : World} {B b : Nat} {bits : List Bool} (x n : Int) (h : WrE w B b bits) (hb : bits.length ≤ 100000000000) :
    Calls Tryz.prog 12 #[.pointer (some ⟨b, 0, none⟩), .int .i64 x, .int .i64 n] w fun e w' => e = .returned (.int .i64 (bitsAns x n).1) ∧ WNext w B b (bits ++ (bitsAns x n).2) w' := by
  obtain ⟨o, h⟩ := h
  exact (bitsW_any w B b o bits x n h hb).mono fun _ _ ⟨he, p⟩ => ⟨he, wnext h p⟩

theorem bits_len (x : Int) : (bitsAns x 8).2.length ≤ 8 := by
  unfold bitsAns
  split
  · rw [digs_length]; decide
  · simp

theorem WrE.fr0 {w w' : World} {B b : Nat} {bits : List Bool} (h : WrE w B b bits) (f : Below w.heap.size w w') : WrE w' B b bits := by
  obtain ⟨o, h⟩ := h
  exact ⟨o, h.fr (S := fun _ => False) (Fr.of_below f) (fun _ _ e => e)⟩

set_option maxRecDepth 100000 in
set_option maxHeartbeats 8000000 in
theorem headBack_at (s : SpsN) (sa : Option Addr) (scap : Nat) (p : PpsN) (h : HeadN) (A : Adr) (ref : Int) (key : Bool) (tail : Int) (W : World) (hi : IntRow W sa s.cycle) (hl : s.cycle.length ≤ 1000000000) (R : HeadRows W h A.m0 A.m1 A.q0 A.q1 A.os) (LW : HeadLow W.heap.size h A.m0 A.m1 A.q0 A.q1 A.os) :
    Calls Tryz.prog 5 #[.agg #[.int .i64 h.first, .int .i64 h.count, .int .i64 h.type, .int .i64 h.fnum, .int .i64 h.id, .int .i64 h.poc, .bool h.spatial, .int .i64 h.act0, .int .i64 h.act1, .slice A.m0 h.mods0.length A.m0c, .slice A.m1 h.mods1.length A.m1c, .int .i64 h.log, .int .i64 h.logc, .slice A.q0 h.w0.length A.q0c, .slice A.q1 h.w1.length A.q1c, .bool h.longkey, .slice A.os h.ops.length A.osc, .int .i64 h.qp, .bool h.off, .int .i64 h.a, .int .i64 h.b], .agg #[.int .i64 s.wide, .int .i64 s.high, .int .i64 s.fbits, .int .i64 s.ptype, .int .i64 s.pbits, .int .i64 s.nonref, .slice sa s.cycle.length scap, .int .i64 s.refs, .int .i64 s.delay], .agg #[.bool p.cabac, .bool p.weighted, .int .i64 p.bipred, .int .i64 p.qp, .int .i64 p.chroma, .bool p.constrained, .bool p.deblock, .int .i64 p.act0, .int .i64 p.act1], .int .i64 ref, .bool key, .int .i64 tail] W fun e w' => e = .returned (.bool true) ∧ Below W.heap.size W w' := by
  obtain ⟨r1, r2, r3, B3, z3⟩ := boxes3 W #[.int .i64 h.first, .int .i64 h.count, .int .i64 h.type, .int .i64 h.fnum, .int .i64 h.id, .int .i64 h.poc, .bool h.spatial, .int .i64 h.act0, .int .i64 h.act1, .slice A.m0 h.mods0.length A.m0c, .slice A.m1 h.mods1.length A.m1c, .int .i64 h.log, .int .i64 h.logc, .slice A.q0 h.w0.length A.q0c, .slice A.q1 h.w1.length A.q1c, .bool h.longkey, .slice A.os h.ops.length A.osc, .int .i64 h.qp, .bool h.off, .int .i64 h.a, .int .i64 h.b] #[.int .i64 s.wide, .int .i64 s.high, .int .i64 s.fbits, .int .i64 s.ptype, .int .i64 s.pbits, .int .i64 s.nonref, .slice sa s.cycle.length scap, .int .i64 s.refs, .int .i64 s.delay] #[.bool p.cabac, .bool p.weighted, .int .i64 p.bipred, .int .i64 p.qp, .int .i64 p.chroma, .bool p.constrained, .bool p.deblock, .int .i64 p.act0, .int .i64 p.act1] 26 29 31
  have HI := Lib.hid hi
  have HL := Lib.hid hl
  have HR := Lib.hid R
  have HLO := Lib.hid LW
  have BB := Lib.hid B3
  have R1 := Lib.hid r1
  have R2 := Lib.hid r2
  have R3 := Lib.hid r3
  have ZZ := Lib.hid z3
  clear r1 r2 r3 B3 z3 hi hl R LW
  go_enter Tryz.func5, Tryz.ntmps5
  go_wp2_with fail
  refine (awake4 _).mono ?_
  rintro e w1 ⟨rfl, b1⟩
  have q1 := ZZ.out
  have z1 := b1.size
  rw [q1] at z1
  have h1 := (b1.block _ (by rw [q1]; omega)).trans R1.out
  have s1 := (b1.block _ (by rw [q1]; omega)).trans R2.out
  have p1 := (b1.block _ (by rw [q1]; omega)).trans R3.out
  have D1 := Lib.hid (BB.out.trans (b1.mono (by rw [q1]; omega)))
  clear b1 q1 R1 R2 R3 BB ZZ
  go_wp2_with fail
  refine (new_e (w := w1) (B := w1.heap.size) (Nat.le_refl _)).mono ?_
  rintro e w2 ⟨wb, rfl, n2, d2, _⟩
  have h2 := (d2.block _ (by omega)).trans h1
  have s2 := (d2.block _ (by omega)).trans s1
  have p2 := (d2.block _ (by omega)).trans p1
  have z2 := d2.size
  have N2 := Lib.hid n2
  have E2 := Lib.hid d2
  have D2 := Lib.hid (D1.out.trans (d2.mono (by omega)))
  clear n2 d2 h1 s1 p1
  have I2 := Lib.hid (HI.out.below D2.out (Nat.le_refl _))
  have RR2 := Lib.hid (HR.out.below D2.out (Nat.le_refl _))
  by_cases hm : headMay h s p ref key
  · have HM := Lib.hid hm
    clear hm
    go_wp2_with (first | (refine wpList_load_row_w rfl 26 (.tmp 6) rfl W.heap.size rfl 26 _ (0, 0) _ h2 Tryz.underlying26 rfl (by kernel_rfl) ?_) | (refine wpList_load_row_w rfl 29 (.tmp 7) rfl (W.heap.size + 1) rfl 29 _ (0, 0) _ s2 Tryz.underlying29 rfl (by kernel_rfl) ?_) | (refine wpList_load_row_w rfl 31 (.tmp 8) rfl (W.heap.size + 1 + 1) rfl 31 _ (0, 0) _ p2 Tryz.underlying31 rfl (by kernel_rfl) ?_))
    obtain ⟨wo, n2⟩ := N2.out
    refine (putYes_any w2 w1.heap.size wb wo [] s sa scap p ref key h A.m0 A.m1 A.q0 A.q1 A.os A.m0c A.m1c A.q0c A.q1c A.osc I2.out HL.out RR2.out ⟨fun x a b => by have := HLO.out.m0 x a b; omega, fun x a b => by have := HLO.out.m1 x a b; omega, fun x a b => by have := HLO.out.q0 x a b; omega, fun x a b => by have := HLO.out.q1 x a b; omega, fun x a b => by have := HLO.out.os x a b; omega⟩ n2 (by simp) HM.out).mono ?_
    rintro e w3 ⟨rfl, n3, d3, _⟩
    rw [List.nil_append] at n3
    have hlen := head_len HM.out
    have HLN := Lib.hid hlen
    clear n2 hlen
    obtain ⟨X, hX⟩ : ∃ l, headB h s p ref key = l := ⟨_, rfl⟩
    have HX := Lib.hid hX
    rw [hX] at n3
    rw [hX] at HLN
    clear hX
    have h3 := (d3.block _ (by omega)).trans h2
    have s3 := (d3.block _ (by omega)).trans s2
    have p3 := (d3.block _ (by omega)).trans p2
    have z3 := d3.size
    have N3 := Lib.hid n3
    have D3 := Lib.hid (D2.out.trans (d3.mono (by omega)))
    clear n3 d3 h2 s2 p2 N2 E2 I2 RR2
    go_wp2_with (first | (go_at_call 18; refine (num_any _ _).mono ?_; rintro e w' ⟨rfl, rfl⟩))
    refine (len_e N3.out (by have := HLN.out; omega)).mono ?_
    rintro e w4 ⟨rfl, n4, d4, _⟩
    have h4 := (d4.block _ (by omega)).trans h3
    have s4 := (d4.block _ (by omega)).trans s3
    have p4 := (d4.block _ (by omega)).trans p3
    have z4 := d4.size
    have N4 := Lib.hid n4
    have D4 := Lib.hid (D3.out.trans (d4.mono (by omega)))
    clear n4 d4 h3 s3 p3 N3 D3
    go_wp2_with fail
    refine (bits_e _ 8 N4.out (by have := HLN.out; omega)).mono ?_
    rintro e w5 ⟨rfl, n5, d5, _⟩
    have h5 := (d5.block _ (by omega)).trans h4
    have s5 := (d5.block _ (by omega)).trans s4
    have p5 := (d5.block _ (by omega)).trans p4
    have z5 := d5.size
    obtain ⟨T, hT, n5⟩ : ∃ T : List Bool, T.length ≤ 8 ∧ WrE w5 w1.heap.size wb (X ++ T) := ⟨_, bits_len _, n5⟩
    have HT := Lib.hid hT
    have N5 := Lib.hid n5
    have D5 := Lib.hid (D4.out.trans (d5.mono (by omega)))
    clear hT n5 d5 h4 s4 p4 N4 D4
    have HU := Lib.hid (show (X ++ T).length ≤ 50008 by have := HLN.out; have := HT.out; rw [List.length_append]; omega)
    go_wp2_with fail
    refine (bytes_e N5.out (by have := HU.out; omega)).mono ?_
    rintro e w6 ⟨rfl, _, d6, _⟩
    have h6 := (d6.block _ (by omega)).trans h5
    have s6 := (d6.block _ (by omega)).trans s5
    have p6 := (d6.block _ (by omega)).trans p5
    have z6 := d6.size
    have D6 := Lib.hid (D5.out.trans (d6.mono (by omega)))
    clear d6 h5 s5 p5 N5 D5
    go_wp2_with fail
    refine (open_e (w := w6) (B := w6.heap.size) _ (Nat.le_refl _) (by rw [size_pack]; have := HU.out; omega)).mono ?_
    rintro e w7 ⟨rb, rfl, o7, d7, _⟩
    have h7 := (d7.block _ (by omega)).trans h6
    have s7 := (d7.block _ (by omega)).trans s6
    have p7 := (d7.block _ (by omega)).trans p6
    have z7 := d7.size
    have O7 := Lib.hid o7
    have D7 := Lib.hid (D6.out.trans (d7.mono (by omega)))
    clear o7 d7 h6 s6 p6 D6
    go_wp2_with (first | (refine wpList_load_row_w rfl 26 (.tmp 6) rfl W.heap.size rfl 26 _ (0, 0) _ h7 Tryz.underlying26 rfl (by kernel_rfl) ?_) | (refine wpList_load_row_w rfl 29 (.tmp 7) rfl (W.heap.size + 1) rfl 29 _ (0, 0) _ s7 Tryz.underlying29 rfl (by kernel_rfl) ?_) | (refine wpList_load_row_w rfl 31 (.tmp 8) rfl (W.heap.size + 1 + 1) rfl 31 _ (0, 0) _ p7 Tryz.underlying31 rfl (by kernel_rfl) ?_))
    have hg := getGo_any w7 w6.heap.size rb 0 (bstr (packB (X ++ T))) s sa scap p ref key (HI.out.below D7.out (Nat.le_refl _)) HL.out O7.out (by rw [size_pack]; have := HU.out; omega) (headMay_stands HM.out)
    have eg := got_pack HM.out T
    rw [HX.out] at eg
    rw [eg] at hg
    clear eg
    refine hg.mono ?_
    clear hg
    rintro e w8 ⟨A', rfl, o8, f8, new8⟩
    simp only at o8 new8
    have lr := (Rd.row o8).2
    have lr8 : rb < w8.heap.size := by obtain ⟨⟨cs, hc⟩, _⟩ := Rd.row o8; exact row_lt hc
    have h8 := (f8.block _ (row_lt h7) (fun e => e.elim (fun e => by omega) (fun e => e (.inl (by omega))))).trans h7
    have z8 := f8.size
    have D8 := Lib.hid (D7.out.trans (f8.below (by omega) (fun k e => by
      rcases e with e | e
      · omega
      · exact Classical.byContradiction fun h => e (.inl (by omega)))))
    have O8 := Lib.hid o8
    have R8 := Lib.hid (show HeadRows w8 h A'.m0 A'.m1 A'.q0 A'.q1 A'.os from ⟨new8.m0.row, new8.m1.row, new8.q0.row, new8.q1.row, new8.os.row, HR.out.l0, HR.out.l1, HR.out.l2, HR.out.l3, HR.out.l4⟩)
    have X8 := Lib.hid (heap_alloc_last w8 (.cells #[.int .i64 0, .int .i64 0, .int .i64 0, .int .i64 0, .int .i64 0, .int .i64 0, .bool false, .int .i64 0, .int .i64 0, .slice none 0 0, .slice none 0 0, .int .i64 0, .int .i64 0, .slice none 0 0, .slice none 0 0, .bool false, .slice none 0 0, .int .i64 0, .bool false, .int .i64 0, .int .i64 0] 26))
    have h8' := box_more h8 (.cells #[.int .i64 0, .int .i64 0, .int .i64 0, .int .i64 0, .int .i64 0, .int .i64 0, .bool false, .int .i64 0, .int .i64 0, .slice none 0 0, .slice none 0 0, .int .i64 0, .int .i64 0, .slice none 0 0, .slice none 0 0, .bool false, .slice none 0 0, .int .i64 0, .bool false, .int .i64 0, .int .i64 0] 26)
    clear o8 f8 new8 h7 s7 p7 O7 D7 h8
    go_upto_region 11 with (refine wpList_store_whole rfl 26 (.tmp 17) (.tmp 60) rfl w8.heap.size (headCells h A') ?_ ?_ 26 #[.int .i64 0, .int .i64 0, .int .i64 0, .int .i64 0, .int .i64 0, .int .i64 0, .bool false, .int .i64 0, .int .i64 0, .slice none 0 0, .slice none 0 0, .int .i64 0, .int .i64 0, .slice none 0 0, .slice none 0 0, .bool false, .slice none 0 0, .int .i64 0, .bool false, .int .i64 0, .int .i64 0] X8.out ?_ ?_ ?_ ?_; rfl; rfl; kernel_rfl; rfl; (simp [headCells, Value.oneCell']); intro w9 x9 f9)
    have h9 := (f9.block _ (row_lt h8') (by omega)).trans h8'
    have lx := row_lt x9
    have b9 : Below w8.heap.size w8 w9 := ((Below.refl _ _).alloc (Nat.le_refl _) _).trans (Fr.below f9 (by simp) (fun k e => by omega))
    have O9 := Lib.hid ((O8.out.fr (S := fun _ => False) ((Fr.refl _ _).alloc _) (fun e => e)).fr f9 (by omega))
    have R9 := Lib.hid (R8.out.below b9 (Nat.le_refl _))
    have D9 := Lib.hid (D8.out.trans (b9.mono D8.out.size))
    have RH9 := Lib.hid (HR.out.below D9.out (Nat.le_refl _))
    clear f9 b9 h8' X8 O8 R8 D8
    go_wp2_with (first | (go_at_call 18; refine (num_any _ _).mono ?_; rintro e w' ⟨rfl, rfl⟩) | (refine wpList_load_row_w rfl 26 (.tmp 17) rfl w8.heap.size rfl 26 _ (0, 0) _ x9 Tryz.underlying26 rfl (by kernel_rfl) ?_) | (refine wpList_load_row_w rfl 26 (.tmp 6) rfl W.heap.size rfl 26 _ (0, 0) _ h9 Tryz.underlying26 rfl (by kernel_rfl) ?_))
    refine (sameHead_yes w9 h A' A R9.out RH9.out).mono ?_
    rintro e wA ⟨rfl, bA⟩
    have OA := Lib.hid (O9.out.fr (S := fun _ => False) (Fr.of_below bA) (fun e => e))
    have DA := Lib.hid (D9.out.trans (bA.mono D9.out.size))
    clear bA
    go_wp2_with fail
    refine (at_e OA.out).mono ?_
    rintro e wB ⟨rfl, _, dB, _⟩
    have DB := Lib.hid (DA.out.trans (dB.mono (by omega)))
    go_wp2_with fail
    go_ret
    exact ⟨ret_bool (by simp), DB.out⟩
  · have HM := Lib.hid hm
    clear hm
    go_wp2_with (first | (refine wpList_load_row_w rfl 26 (.tmp 6) rfl W.heap.size rfl 26 _ (0, 0) _ h2 Tryz.underlying26 rfl (by kernel_rfl) ?_) | (refine wpList_load_row_w rfl 29 (.tmp 7) rfl (W.heap.size + 1) rfl 29 _ (0, 0) _ s2 Tryz.underlying29 rfl (by kernel_rfl) ?_) | (refine wpList_load_row_w rfl 31 (.tmp 8) rfl (W.heap.size + 1 + 1) rfl 31 _ (0, 0) _ p2 Tryz.underlying31 rfl (by kernel_rfl) ?_))
    refine (putNo_any w2 ⟨wb, 0, none⟩ s sa scap p ref key h A.m0 A.m1 A.q0 A.q1 A.os A.m0c A.m1c A.q0c A.q1c A.osc I2.out HL.out RR2.out HM.out).mono ?_
    rintro e w3 ⟨rfl, b3⟩
    have h3 := (b3.block _ (by omega)).trans h2
    have s3 := (b3.block _ (by omega)).trans s2
    have p3 := (b3.block _ (by omega)).trans p2
    have z3 := b3.size
    have N3 := Lib.hid (N2.out.fr0 b3)
    have D3 := Lib.hid (D2.out.trans (b3.mono D2.out.size))
    clear b3 h2 s2 p2 N2 E2
    go_wp2_with (first | (go_at_call 18; refine (num_any _ _).mono ?_; rintro e w' ⟨rfl, rfl⟩))
    refine (len_e N3.out (by simp)).mono ?_
    rintro e w4 ⟨rfl, n4, d4, _⟩
    have h4 := (d4.block _ (by omega)).trans h3
    have s4 := (d4.block _ (by omega)).trans s3
    have p4 := (d4.block _ (by omega)).trans p3
    have z4 := d4.size
    have D4 := Lib.hid (D3.out.trans (d4.mono (by omega)))
    clear n4 d4 h3 s3 p3 N3 D3
    go_wp2_with (first | (refine wpList_load_row_w rfl 26 (.tmp 6) rfl W.heap.size rfl 26 _ (0, 0) _ h4 Tryz.underlying26 rfl (by kernel_rfl) ?_) | (refine wpList_load_row_w rfl 29 (.tmp 7) rfl (W.heap.size + 1) rfl 29 _ (0, 0) _ s4 Tryz.underlying29 rfl (by kernel_rfl) ?_) | (refine wpList_load_row_w rfl 31 (.tmp 8) rfl (W.heap.size + 1 + 1) rfl 31 _ (0, 0) _ p4 Tryz.underlying31 rfl (by kernel_rfl) ?_))
    have hmy := may_is w4 s sa scap p ref key h A.m0 A.m1 A.q0 A.q1 A.os A.m0c A.m1c A.q0c A.q1c A.osc (HI.out.below D4.out (Nat.le_refl _)) HL.out (HR.out.below D4.out (Nat.le_refl _))
    rw [decide_eq_false HM.out] at hmy
    refine hmy.mono ?_
    rintro e w5 ⟨rfl, b5⟩
    have D5 := Lib.hid (D4.out.trans (b5.mono D4.out.size))
    clear hmy
    go_wp2_with fail
    go_ret
    exact ⟨rfl, D5.out⟩

end Go.Proofs.YthcbgijmnonckaaGreat
