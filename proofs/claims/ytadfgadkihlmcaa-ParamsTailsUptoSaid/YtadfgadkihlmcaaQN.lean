/- Layer 3: the program's PutPps and PutSps, told that its ranges answer as they should. -/
import Derived.Test.YtadfgadkihlmcaaQM
namespace Go.Proofs.Ytadfgadkihlmcaa
open Go.RowKit Zo Zp

def MayPpsOk : Prop := ∀ (p : PpsN) (w : World), Calls Try.prog 26 #[ppsV p] w fun e w' => e = .returned (.bool (decide p.may)) ∧ Below w.heap.size w w'
def MaySpsOk : Prop := ∀ (s : SpsN) (a : Option Addr) (cap : Nat) (w : World), IntRow w a s.cycle → s.cycle.length ≤ 1000000000 →
  Calls Try.prog 15 #[spsV s a cap] w fun e w' => e = .returned (.bool (decide s.may)) ∧ Below w.heap.size w w'

theorem Wt.start {W w1 : World} {cs : Array Value} {t : TypeId} (ht : t ≠ 109 ∧ t ≠ 5) (b1 : Below (W.alloc (.cells cs t)).heap.size (W.alloc (.cells cs t)) w1) {w2 : World} {b : Nat}
    (hw : Wr w2 W.heap.size b none []) (f : Fr (fun _ => False) w1 w2) : Wt W w2 b none [] W.heap.size cs t := by
  have d1 : Below W.heap.size W w1 := ((Below.refl W.heap.size W).alloc (Nat.le_refl _) (.cells cs t)).trans (b1.mono (by simp))
  have r1 := (b1.block W.heap.size (by simp)).trans (heap_alloc_last W (.cells cs t))
  exact ⟨hw, below_fr d1 (Nat.le_refl _) f (fun _ e => e.elim), (f.block _ (row_lt r1) (fun e => e)).trans r1, ht⟩

set_option maxRecDepth 100000 in
theorem putPps_no (HM : MayPpsOk) (w : World) (p : PpsN) (hm : ¬ p.may) : Calls Try.prog 22 #[ppsV p] w (StrPut ([], 301) w) := by
  have HM := fun o => HM p (w.alloc o)
  rw [decide_eq_false hm] at HM
  have HH := Lib.hid HM
  clear HM hm
  obtain ⟨cabac, weighted, bipred, qp, chroma, constrained, deblock, act0, act1⟩ := p
  unfold ppsV at HH ⊢
  go_enter Try.func22, Try.ntmps22
  go_wp2_with fail
  refine (HH.out _).mono ?_
  rintro e w1 ⟨rfl, b1⟩
  have HB := Lib.hid (((Below.refl w.heap.size w).alloc (Nat.le_refl _) (.cells #[.bool cabac, .bool weighted, .int .i64 bipred, .int .i64 qp, .int .i64 chroma, .bool constrained, .bool deblock, .int .i64 act0, .int .i64 act1] 43)).trans (b1.mono (by simp)))
  go_wp2_with fail
  go_ret2
  exact ⟨rfl, HB.out⟩

set_option maxRecDepth 100000 in
set_option maxHeartbeats 4000000 in
theorem putPps_yes (HM : MayPpsOk) (w : World) (p : PpsN) (hm : p.may) : Calls Try.prog 22 #[ppsV p] w (StrPut (packB (trailed (ppsB p)), 0) w) := by
  have HM := fun o => HM p (w.alloc o)
  rw [decide_eq_true hm] at HM
  have HH := Lib.hid HM
  clear HM
  obtain ⟨cabac, weighted, bipred, qp, chroma, constrained, deblock, act0, act1⟩ := p
  obtain ⟨m1, m2, m3, m4, m5, m6, m7, m8, m9, m10⟩ := hm
  simp only at m1 m2 m3 m4 m5 m6 m7 m8 m9 m10
  unfold ppsV at HH ⊢
  go_enter Try.func22, Try.ntmps22
  go_wp2_with fail
  refine (HH.out _).mono ?_
  rintro e w1 ⟨rfl, b1⟩
  have z1 : w.heap.size ≤ w1.heap.size := by have := b1.size; simp at this; omega
  have B1 := Lib.hid b1
  clear b1 HH
  go_wp2_with fail
  refine (new_any _ w.heap.size z1).mono ?_
  rintro e w2 ⟨rfl, h2, f2, _⟩
  have k1 := Wt.start (by decide) B1.out h2 f2
  obtain ⟨l1, hl1⟩ : ∃ l : List Bool, [] = l := ⟨_, rfl⟩
  have N1 : l1.length ≤ 0 := by rw [← hl1]; simp
  rw [hl1] at k1
  have K1 := Lib.hid k1
  have E1 := Lib.hid hl1
  clear k1 hl1
  have c0 := K1.out.cell 0 (.bool cabac) rfl
  clear h2 f2 B1
  go_wp2_with fail
  refine (putFlag_any _ w.heap.size _ none l1 cabac K1.out.1 (by omega)).mono ?_
  rintro e w2 ⟨rfl, p2⟩
  obtain ⟨o2, k2⟩ := K1.out.step p2
  have G2 : (digs 1 cabac.toNat).length ≤ 1 := (by simp [digs_length])
  obtain ⟨l2, hl2⟩ : ∃ l2, l1 ++ digs 1 cabac.toNat = l2 := ⟨_, rfl⟩
  have N2 : l2.length ≤ 1 := by rw [← hl2, List.length_append]; omega
  rw [hl2] at k2
  have K2 := Lib.hid k2
  have E2 := Lib.hid hl2
  clear k2 hl2 p2 K1 G2 c0
  have c2_1 := K2.out.cell 1 (.bool weighted) rfl
  go_wp2_with fail
  refine (putFlag_any _ w.heap.size _ o2 l2 weighted K2.out.1 (by omega)).mono ?_
  rintro e w3 ⟨rfl, p3⟩
  obtain ⟨o3, k3⟩ := K2.out.step p3
  have G3 : (digs 1 weighted.toNat).length ≤ 1 := (by simp [digs_length])
  obtain ⟨l3, hl3⟩ : ∃ l3, l2 ++ digs 1 weighted.toNat = l3 := ⟨_, rfl⟩
  have N3 : l3.length ≤ 2 := by rw [← hl3, List.length_append]; omega
  rw [hl3] at k3
  have K3 := Lib.hid k3
  have E3 := Lib.hid hl3
  clear k3 hl3 p3 K2 G3 c2_1
  have c3_2 := K3.out.cell 2 (.int .i64 bipred) rfl
  go_wp2_with fail
  refine (bitsW_fine _ w.heap.size _ o3 l3 _ 2 K3.out.1 (by omega) (by omega) (by omega) (by omega)).mono ?_
  rintro e w4 ⟨rfl, p4⟩
  obtain ⟨o4, k4⟩ := K3.out.step p4
  have G4 : (digs 2 (bipred).toNat).length ≤ 2 := (by simp [digs_length])
  obtain ⟨l4, hl4⟩ : ∃ l4, l3 ++ digs 2 (bipred).toNat = l4 := ⟨_, rfl⟩
  have N4 : l4.length ≤ 4 := by rw [← hl4, List.length_append]; omega
  rw [hl4] at k4
  have K4 := Lib.hid k4
  have E4 := Lib.hid hl4
  clear k4 hl4 p4 K3 G4 c3_2
  have c4_3 := K4.out.cell 3 (.int .i64 qp) rfl
  go_wp2_with fail
  refine (ue_fine _ w.heap.size _ o4 l4 _ K4.out.1 (by omega) (by omega) (by omega)).mono ?_
  rintro e w5 ⟨rfl, p5⟩
  obtain ⟨o5, k5⟩ := K4.out.step p5
  have G5 : (ueB (qp).toNat).length ≤ 61 := (ueB_length _ (by omega)).2
  obtain ⟨l5, hl5⟩ : ∃ l5, l4 ++ ueB (qp).toNat = l5 := ⟨_, rfl⟩
  have N5 : l5.length ≤ 65 := by rw [← hl5, List.length_append]; omega
  rw [hl5] at k5
  have K5 := Lib.hid k5
  have E5 := Lib.hid hl5
  clear k5 hl5 p5 K4 G5 c4_3
  have c5_4 := K5.out.cell 4 (.int .i64 chroma) rfl
  go_wp2_with fail
  refine (se_fine _ w.heap.size _ o5 l5 _ K5.out.1 (by omega) (by omega) (by omega)).mono ?_
  rintro e w6 ⟨rfl, p6⟩
  obtain ⟨o6, k6⟩ := K5.out.step p6
  have G6 : (seB chroma).length ≤ 61 := seB_le _ (by omega) (by omega)
  obtain ⟨l6, hl6⟩ : ∃ l6, l5 ++ seB chroma = l6 := ⟨_, rfl⟩
  have N6 : l6.length ≤ 126 := by rw [← hl6, List.length_append]; omega
  rw [hl6] at k6
  have K6 := Lib.hid k6
  have E6 := Lib.hid hl6
  clear k6 hl6 p6 K5 G6 c5_4
  have c6_5 := K6.out.cell 5 (.bool constrained) rfl
  go_wp2_with fail
  refine (putFlag_any _ w.heap.size _ o6 l6 constrained K6.out.1 (by omega)).mono ?_
  rintro e w7 ⟨rfl, p7⟩
  obtain ⟨o7, k7⟩ := K6.out.step p7
  have G7 : (digs 1 constrained.toNat).length ≤ 1 := (by simp [digs_length])
  obtain ⟨l7, hl7⟩ : ∃ l7, l6 ++ digs 1 constrained.toNat = l7 := ⟨_, rfl⟩
  have N7 : l7.length ≤ 127 := by rw [← hl7, List.length_append]; omega
  rw [hl7] at k7
  have K7 := Lib.hid k7
  have E7 := Lib.hid hl7
  clear k7 hl7 p7 K6 G7 c6_5
  have c7_6 := K7.out.cell 6 (.bool deblock) rfl
  go_wp2_with fail
  refine (putFlag_any _ w.heap.size _ o7 l7 deblock K7.out.1 (by omega)).mono ?_
  rintro e w8 ⟨rfl, p8⟩
  obtain ⟨o8, k8⟩ := K7.out.step p8
  have G8 : (digs 1 deblock.toNat).length ≤ 1 := (by simp [digs_length])
  obtain ⟨l8, hl8⟩ : ∃ l8, l7 ++ digs 1 deblock.toNat = l8 := ⟨_, rfl⟩
  have N8 : l8.length ≤ 128 := by rw [← hl8, List.length_append]; omega
  rw [hl8] at k8
  have K8 := Lib.hid k8
  have E8 := Lib.hid hl8
  clear k8 hl8 p8 K7 G8 c7_6
  have c8_7 := K8.out.cell 7 (.int .i64 act0) rfl
  go_wp2_with fail
  refine (ue_fine _ w.heap.size _ o8 l8 _ K8.out.1 (by omega) (by omega) (by omega)).mono ?_
  rintro e w9 ⟨rfl, p9⟩
  obtain ⟨o9, k9⟩ := K8.out.step p9
  have G9 : (ueB (act0 - 1).toNat).length ≤ 61 := (ueB_length _ (by omega)).2
  obtain ⟨l9, hl9⟩ : ∃ l9, l8 ++ ueB (act0 - 1).toNat = l9 := ⟨_, rfl⟩
  have N9 : l9.length ≤ 189 := by rw [← hl9, List.length_append]; omega
  rw [hl9] at k9
  have K9 := Lib.hid k9
  have E9 := Lib.hid hl9
  clear k9 hl9 p9 K8 G9 c8_7
  have c9_8 := K9.out.cell 8 (.int .i64 act1) rfl
  go_wp2_with fail
  refine (ue_fine _ w.heap.size _ o9 l9 _ K9.out.1 (by omega) (by omega) (by omega)).mono ?_
  rintro e w10 ⟨rfl, p10⟩
  obtain ⟨o10, k10⟩ := K9.out.step p10
  have G10 : (ueB (act1 - 1).toNat).length ≤ 61 := (ueB_length _ (by omega)).2
  obtain ⟨l10, hl10⟩ : ∃ l10, l9 ++ ueB (act1 - 1).toNat = l10 := ⟨_, rfl⟩
  have N10 : l10.length ≤ 250 := by rw [← hl10, List.length_append]; omega
  rw [hl10] at k10
  have K10 := Lib.hid k10
  have E10 := Lib.hid hl10
  clear k10 hl10 p10 K9 G10 c9_8
  go_wp2_with fail
  refine (trailW_any _ w.heap.size _ o10 l10 K10.out.1 (by omega)).mono ?_
  rintro e wt ⟨rfl, pt⟩
  obtain ⟨ot, kt⟩ := K10.out.step pt
  have hs : ppsB ⟨cabac, weighted, bipred, qp, chroma, constrained, deblock, act0, act1⟩ = l10 := by
    rw [← E10.out, ← E9.out, ← E8.out, ← E7.out, ← E6.out, ← E5.out, ← E4.out, ← E3.out, ← E2.out, ← E1.out]
    simp [ppsB]
  obtain ⟨LT, hLT⟩ : ∃ LT, trailed (ppsB ⟨cabac, weighted, bipred, qp, chroma, constrained, deblock, act0, act1⟩) = LT := ⟨_, rfl⟩
  have GT : LT.length ≤ 100000000 := by rw [← hLT, trailed_length, hs]; omega
  rw [show l10 ++ trailB l10.length = LT from by rw [← hLT, trailed, hs]] at kt
  have KT := Lib.hid kt
  have HL := Lib.hid hLT
  clear kt hLT hs pt K10
  go_wp2_with fail
  refine (bytes_any _ w.heap.size _ ot LT KT.out.1 (by omega)).mono ?_
  rintro e wb ⟨rfl, pb⟩
  obtain ⟨ob, kb⟩ := KT.out.step pb
  have KB := Lib.hid kb
  clear kb pb
  go_wp2_with fail
  go_ret2
  rw [HL.out]
  exact ⟨rfl, KB.out.2.1⟩

theorem cycle_snoc (cycle : List Int) (j : Nat) (h : j < cycle.length) : cycleB (cycle.take (j + 1)) = cycleB (cycle.take j) ++ seB cycle[j] := cycleB_snoc cycle j h

set_option maxRecDepth 100000 in
theorem putSps_no (HM : MaySpsOk) (w : World) (s : SpsN) (a : Option Addr) (cap : Nat) (h : IntRow w a s.cycle) (hl : s.cycle.length ≤ 1000000000) (hm : ¬ s.may) : Calls Try.prog 11 #[spsV s a cap] w (StrPut ([], 301) w) := by
  have HM := fun o => HM s a cap (w.alloc o) (h.alloc o) hl
  rw [decide_eq_false hm] at HM
  have HH := Lib.hid HM
  clear HM hm h
  obtain ⟨wide, high, fbits, ptype, pbits, nonref, cycle, refs, delay⟩ := s
  unfold spsV at HH ⊢
  go_enter Try.func11, Try.ntmps11
  go_wp2_with fail
  refine (HH.out _).mono ?_
  rintro e w1 ⟨rfl, b1⟩
  have HB := Lib.hid (((Below.refl w.heap.size w).alloc (Nat.le_refl _) (.cells #[.int .i64 wide, .int .i64 high, .int .i64 fbits, .int .i64 ptype, .int .i64 pbits, .int .i64 nonref, .slice a cycle.length cap, .int .i64 refs, .int .i64 delay] 24)).trans (b1.mono (by simp)))
  go_wp2_with fail
  go_ret2
  exact ⟨rfl, HB.out⟩

/-- putCycle under way: its own box lies in block w.heap.size. -/
def Pc (W w wr : World) (b : Nat) (o : Option Nat) (l : List Bool) (cs : Array Value) : Prop :=
  ∃ o', Wt W wr b o' l w.heap.size cs 24 ∧ Fr (wsel b o) w wr ∧ ∀ k, o' = some k → o = some k ∨ w.heap.size ≤ k

theorem Pc.mk {W w wr w' : World} {b : Nat} {o o1 : Option Nat} {l l' : List Bool} {cs : Array Value} (t1 : Wt W wr b o1 l w.heap.size cs 24) (f1 : Fr (wsel b o) w wr) (q1 : ∀ k, o1 = some k → o = some k ∨ w.heap.size ≤ k)
    (p : WPost wr W.heap.size b o1 l' w') : Pc W w w' b o l' cs := by
  obtain ⟨h1, h2, h3, h4⟩ := t1
  obtain ⟨o2, r, f2, q2⟩ := p
  obtain ⟨⟨c0, hc0⟩, hb, ho⟩ := h1.row
  refine ⟨o2, ⟨r, ?_, (f2.block _ (row_lt h3) ?_).trans h3, h4⟩, f1.trans f2 (fun i hi e => ?_), fun k e => ?_⟩
  · refine below_fr h2 (Nat.le_refl _) f2 (fun k e => ?_)
    rcases e with e | e
    · omega
    · exact (ho k e).1
  · rintro (e | e)
    · exact ne_of_type h3 hc0 h4.1 e
    · obtain ⟨_, c1, hc1⟩ := ho _ e
      exact ne_of_type h3 hc1 h4.2 rfl
  · rcases e with e | e
    · exact .inl e
    · rcases q1 i e with g | g
      · exact .inr g
      · omega
  · rcases q2 k e with g | g
    · exact q1 k g
    · have := f1.size; exact .inr (by omega)

set_option maxRecDepth 100000 in
set_option maxHeartbeats 4000000 in
theorem putCycle_any (W w : World) (b : Nat) (o : Option Nat) (bits : List Bool) (s : SpsN) (a : Option Addr) (cap : Nat) (h : Wr w W.heap.size b o bits) (hd : Below W.heap.size W w) (hi : IntRow W a s.cycle) (hb : bits.length ≤ 1000000)
    (n1 : -1000 ≤ s.nonref) (n2 : s.nonref ≤ 1000) (hc : s.cycle.length ≤ 4) (hx : ∀ x ∈ s.cycle, -1000 ≤ x ∧ x ≤ 1000) :
    Calls Try.prog 31 #[.pointer (some ⟨b, 0, none⟩), spsV s a cap] w fun e w' => e = .returned (.tuple #[]) ∧ WPost w W.heap.size b o (bits ++ seB s.nonref ++ ueB s.cycle.length ++ cycleB s.cycle) w' := by
  obtain ⟨wide, high, fbits, ptype, pbits, nonref, cycle, refs, delay⟩ := s
  unfold spsV
  simp only at hi n1 n2 hc hx ⊢
  obtain ⟨l1, hl1⟩ : ∃ l : List Bool, bits = l := ⟨_, rfl⟩
  rw [hl1] at h hb ⊢
  clear hl1
  have kb := heap_alloc_last w (.cells #[.int .i64 wide, .int .i64 high, .int .i64 fbits, .int .i64 ptype, .int .i64 pbits, .int .i64 nonref, .slice a cycle.length cap, .int .i64 refs, .int .i64 delay] 24)
  have t1 : Wt W (w.alloc (.cells #[.int .i64 wide, .int .i64 high, .int .i64 fbits, .int .i64 ptype, .int .i64 pbits, .int .i64 nonref, .slice a cycle.length cap, .int .i64 refs, .int .i64 delay] 24)) b o l1 w.heap.size #[.int .i64 wide, .int .i64 high, .int .i64 fbits, .int .i64 ptype, .int .i64 pbits, .int .i64 nonref, .slice a cycle.length cap, .int .i64 refs, .int .i64 delay] 24 := by
    refine ⟨?_, hd.alloc hd.size _, kb, by decide⟩
    obtain ⟨bytes, kk, r, ⟨c, v, hrow, h1, h2, hown, h3⟩, rest⟩ := h
    exact ⟨bytes, kk, r, ⟨c, v, (heap_alloc_other (row_lt hrow)).trans hrow, h1, h2, hown.alloc _, h3⟩, rest⟩
  have f1 : Fr (wsel b o) w (w.alloc (.cells #[.int .i64 wide, .int .i64 high, .int .i64 fbits, .int .i64 ptype, .int .i64 pbits, .int .i64 nonref, .slice a cycle.length cap, .int .i64 refs, .int .i64 delay] 24)) := (Fr.refl _ _).alloc _
  have T1 := Lib.hid t1
  have F1 := Lib.hid f1
  have H := Lib.hid hi
  have HX := Lib.hid hx
  clear kb h hd hi hx t1 f1
  go_enter Try.func31, Try.ntmps31
  go_wp2_with fail
  refine (se_fine _ W.heap.size _ o l1 _ T1.out.1 (by omega) (by omega) (by omega)).mono ?_
  rintro e w2 ⟨rfl, p2⟩
  obtain ⟨o2, t2, f2, q2⟩ := Pc.mk T1.out F1.out (fun _ e => .inl e) p2
  have g2 := seB_le nonref (by omega) (by omega)
  obtain ⟨l2, hl2⟩ : ∃ l, l1 ++ seB nonref = l := ⟨_, rfl⟩
  have N2 : l2.length ≤ 1000061 := by rw [← hl2, List.length_append]; omega
  rw [hl2] at t2
  have c := t2.cell 6 (.slice a cycle.length cap) rfl
  have T2 := Lib.hid t2
  have F2 := Lib.hid (And.intro f2 q2)
  have E2 := Lib.hid hl2
  clear t2 f2 q2 hl2 p2 T1 F1 g2
  go_wp2_with fail
  refine (ue_fine _ W.heap.size _ o2 l2 _ T2.out.1 (by omega) (by omega) (by omega)).mono ?_
  rw [Int.toNat_natCast]
  rintro e w3 ⟨rfl, p3⟩
  obtain ⟨o3, t3, f3, q3⟩ := Pc.mk T2.out F2.out.1 F2.out.2 p3
  have g3 := (ueB_length cycle.length (by omega)).2
  obtain ⟨l3, hl3⟩ : ∃ l, l2 ++ ueB cycle.length = l := ⟨_, rfl⟩
  have N3 : l3.length ≤ 1000122 := by rw [← hl3, List.length_append]; omega
  rw [hl3] at t3
  have c := t3.cell 6 (.slice a cycle.length cap) rfl
  have T3 : Hid (Pc W w w3 b o l3 #[.int .i64 wide, .int .i64 high, .int .i64 fbits, .int .i64 ptype, .int .i64 pbits, .int .i64 nonref, .slice a cycle.length cap, .int .i64 refs, .int .i64 delay]) := ⟨o3, t3, f3, q3⟩
  have E3 := Lib.hid hl3
  clear t3 f3 q3 hl3 p3 T2 F2 g3
  go_wp2_with fail
  clear c
  go_loopg [18] cycle.length (fun q i wr => ∃ (j : Nat) (l : List Bool), j + q = cycle.length ∧ i = .int .i64 (j : Int) ∧ l.length ≤ 1000122 + 61 * j ∧ Aside (l = l3 ++ cycleB (cycle.take j)) ∧ Hid (Pc W w wr b o l #[.int .i64 wide, .int .i64 high, .int .i64 fbits, .int .i64 ptype, .int .i64 pbits, .int .i64 nonref, .slice a cycle.length cap, .int .i64 refs, .int .i64 delay]))
  case atStart => exact ⟨0, l3, by omega, rfl, by omega, (by simp [cycleB] : l3 = l3 ++ cycleB (cycle.take 0)), T3⟩
  case round =>
    clear T3
    obtain ⟨j, l, hq, rfl, hll, AL, P⟩ := hrel
    by_cases hlt : j < cycle.length
    · obtain ⟨o4, t4, f4, q4⟩ := P.out
      obtain ⟨g, og, ha, hg, hcell⟩ := (H.out.below t4.2.1 (Nat.le_refl _)).at hlt
      subst ha
      have hxj := HX.out cycle[j] (List.getElem_mem hlt)
      have hx1 := hxj.1
      have hx2 := hxj.2
      have HS := Lib.hid (cycleB_snoc cycle j hlt)
      have T4 := Lib.hid t4
      have F4 := Lib.hid (And.intro f4 q4)
      generalize cycle[j] = x at *
      have g5 := seB_le x (by omega) (by omega)
      clear hxj t4 f4 q4 P
      go_wp2_with fail
      refine (se_fine _ W.heap.size _ o4 l _ T4.out.1 (by omega) (by omega) (by omega)).mono ?_
      rintro e w5 ⟨rfl, p5⟩
      have P5 := Lib.hid (Pc.mk T4.out F4.out.1 F4.out.2 p5)
      clear p5 T4 F4
      go_wp2_with fail
      go_roundg (gk - 1)
      case measure => omega
      case rel => exact ⟨j + 1, l ++ seB x, by omega, by go_num, by rw [List.length_append]; omega, (by rw [HS.out, AL, List.append_assoc] : l ++ seB x = l3 ++ cycleB (cycle.take (j + 1))), P5⟩
    · obtain rfl : j = cycle.length := by omega
      go_wp2_with fail
      go_end0
      obtain ⟨o4, t4, f4, q4⟩ := P.out
      rw [List.take_length] at AL
      have AL' : l = l3 ++ cycleB cycle := AL
      rw [show l1 ++ seB nonref ++ ueB cycle.length ++ cycleB cycle = l from by rw [AL', ← E3.out, ← E2.out]]
      exact ⟨rfl, o4, t4.1, f4, q4⟩

end Go.Proofs.Ytadfgadkihlmcaa
