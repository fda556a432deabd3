/- Layer 3: the document's own GetPps. -/
import Derived.Test.YtadfgadkihlmcaaQG
import Derived.Test.YtadfgadkihlmcaaAA
namespace Go.Proofs.Ytadfgadkihlmcaa
open Go.RowKit Zo Zp

theorem refUe3e (w : World) (base b rb : Nat) (l : List Bool) (st : Option Nat) (h : SRd w base b rb l st) (hl : l.length ≤ 1000000000) {x : Nat} {st' : Option Nat} (hX : sUe (fl l) l.length st = (x, st')) :
    Calls Try.prog 46 #[.pointer (some ⟨b, 0, none⟩)] w (SPost w base b rb l (.int .i64 (x : Int)) st') := by
  have := refUe3 w base b rb l st h hl
  rwa [hX] at this

theorem refSe3e (w : World) (base b rb : Nat) (l : List Bool) (st : Option Nat) (h : SRd w base b rb l st) (hl : l.length ≤ 1000000000) {x : Int} {st' : Option Nat} (hX : sSe (fl l) l.length st = (x, st')) :
    Calls Try.prog 47 #[.pointer (some ⟨b, 0, none⟩)] w (SPost w base b rb l (.int .i64 x) st') := by
  have := refSe3 w base b rb l st h hl
  rwa [hX] at this

theorem refBits3e (w : World) (base b rb : Nat) (l : List Bool) (st : Option Nat) (n : Nat) (hn : n ≤ 32) (h : SRd w base b rb l st) (hl : l.length ≤ 1000000000) {x : Nat} {st' : Option Nat} (hX : sBits (fl l) l.length n st = (x, st')) :
    Calls Try.prog 58 #[.pointer (some ⟨b, 0, none⟩), .int .i64 (n : Int)] w (SPost w base b rb l (.int .i64 (x : Int)) st') := by
  have := refBits3 w base b rb l st n hn h hl
  rwa [hX] at this

theorem trails_q {f : Nat → Bool} {T p q : Nat} (hT : T % 8 = 0) (hf : ∀ i, T ≤ i → f i = false) (hq : IsPast f T q) (hp : p ≤ T) : (p + 1 = q ∧ T - p ≤ 8) ↔ Trails f T p := by
  by_cases h : p < T
  · rw [trails_past hT hf h]
    constructor
    · rintro ⟨rfl, h8⟩; exact ⟨hq, h8⟩
    · rintro ⟨h1, h8⟩; exact ⟨h1.unique hq, h8⟩
  · constructor
    · rintro ⟨rfl, h8⟩; have := hq.1; omega
    · intro ht
      have := ht.1
      rw [trailB_length] at this
      omega

/-- The Reader's Trail beneath a reader of fields. -/
theorem refTrail3 (w : World) (base b rb : Nat) (l : List Bool) (p : Nat) (h : SRd w base b rb l (some p)) (hl : l.length ≤ 1000000000) (hT : l.length % 8 = 0) {q : Nat} (hq : IsPast (fl l) l.length q) :
    Calls Try.prog 48 #[.pointer (some ⟨rb, 0, none⟩)] w fun e w' => e = .returned (.int .i64 (if Trails (fl l) l.length p then 0 else 101)) ∧ Fr (fun k => k = rb) w w' := by
  obtain ⟨_, _, p0, hp, hpq⟩ := h
  obtain rfl := hpq p rfl
  have hple : p0 ≤ l.length := by obtain ⟨_, _, _, _, _, h⟩ := hp; exact h
  refine (refTrail_any w base rb l p0 q hp hq hl).mono ?_
  rintro e w' ⟨rfl, r⟩
  refine ⟨?_, r.2⟩
  have ht := trails_q hT (fun i hi => fl_end l i hi) hq hple
  by_cases hc : p0 + 1 = q ∧ l.length - p0 ≤ 8
  · rw [if_pos hc, if_pos (ht.1 hc)]
  · rw [if_neg hc, if_neg (fun h => hc (ht.2 h))]

theorem Gt.turn {S : Nat → Prop} {W wr w' : World} {T : TypeId} {ob b rb sb : Nat} {l : List Bool} {st : Option Nat} {zs cs : Array Value} (h : Gt W wr T ob b rb sb l st zs cs) (f : Fr S wr w') (hS : ∀ k, S k → k = rb) :
    w'.heap[sb]? = some (.cells cs T (0, 0)) ∧ w'.heap[ob]? = some (.cells zs T (0, 0)) ∧ Below W.heap.size W w' := by
  obtain ⟨h1, h2, h3, h4, h5, h6⟩ := h
  obtain ⟨⟨rc, hrc⟩, hrb⟩ := h1.reader
  refine ⟨(f.block sb (row_lt h2) fun e => ne_of_type h2 hrc h6.2.1 (hS _ e)).trans h2, (f.block ob (row_lt h3) fun e => ne_of_type h3 hrc h6.2.1 (hS _ e)).trans h3, ?_⟩
  exact ⟨f.os.trans h5.os, f.tape.trans h5.tape, f.output.trans h5.output, Nat.le_trans h5.size f.size, fun i hi => (f.block i (Nat.lt_of_lt_of_le hi h5.size) (fun e => by have := hS _ e; omega)).trans (h5.block i hi)⟩

def PPost (t : PpsN × Int) (w : World) (e : Ending) (w' : World) : Prop := e = .returned (.tuple #[ppsV t.1, .int .i64 t.2]) ∧ Below w.heap.size w w'

set_option maxRecDepth 100000 in
set_option maxHeartbeats 4000000 in
theorem refGetPps_any (s : ByteArray) (w : World) (hs : s.size ≤ 1048576) : Calls Try.prog 25 #[.string s] w (PPost (gotPps (bitAt s) (8 * s.size)) w) := by
  obtain ⟨l, hl⟩ : ∃ l, win (bitAt s) 0 (8 * s.size) = l := ⟨_, rfl⟩
  have hF : bitAt s = fl l := by rw [← hl, fl_win]
  have hT : 8 * s.size = l.length := by rw [← hl, win_length]
  obtain ⟨q, hq⟩ := past_exists s
  have HO : ∀ o, Calls Try.prog 45 #[.string s] (w.alloc o) fun e w' => ∃ v, e = .returned v ∧ NewBits (w.alloc o) w' v l := fun o => by
    have := openRef_any s (w.alloc o) hs
    rwa [hl] at this
  have HOO := Lib.hid HO
  rw [hF, hT] at hq
  rw [gotPps_run, hF, hT]
  have hll : l.length ≤ 1000000000 := by omega
  have hT8 := Lib.hid (show l.length % 8 = 0 by omega)
  have HQ := Lib.hid hq
  clear hF hT hl HO hq
  obtain ⟨⟨x1, t1⟩, h1⟩ : ∃ X, sBits (fl l) l.length 1 (some 0) = X := ⟨_, rfl⟩
  obtain ⟨⟨x2, t2⟩, h2⟩ : ∃ X, sBits (fl l) l.length 1 t1 = X := ⟨_, rfl⟩
  obtain ⟨⟨x3, t3⟩, h3⟩ : ∃ X, sBits (fl l) l.length 2 t2 = X := ⟨_, rfl⟩
  obtain ⟨⟨x4, t4⟩, h4⟩ : ∃ X, sUe (fl l) l.length t3 = X := ⟨_, rfl⟩
  have B4 : x4 ≤ 2147483646 := by have := sUe_le (fl l) l.length t3; rw [h4] at this; exact this
  obtain ⟨⟨x5, t5⟩, h5⟩ : ∃ X, sSe (fl l) l.length t4 = X := ⟨_, rfl⟩
  obtain ⟨⟨x6, t6⟩, h6⟩ : ∃ X, sBits (fl l) l.length 1 t5 = X := ⟨_, rfl⟩
  obtain ⟨⟨x7, t7⟩, h7⟩ : ∃ X, sBits (fl l) l.length 1 t6 = X := ⟨_, rfl⟩
  obtain ⟨⟨x8, t8⟩, h8⟩ : ∃ X, sUe (fl l) l.length t7 = X := ⟨_, rfl⟩
  have B8 : x8 ≤ 2147483646 := by have := sUe_le (fl l) l.length t7; rw [h8] at this; exact this
  obtain ⟨⟨x9, t9⟩, h9⟩ : ∃ X, sUe (fl l) l.length t8 = X := ⟨_, rfl⟩
  have B9 : x9 ≤ 2147483646 := by have := sUe_le (fl l) l.length t8; rw [h9] at this; exact this
  have hrun : runPps (fl l) l.length = sEnd PpsN.zero (fl l) l.length ⟨decide (x1 = 1), decide (x2 = 1), x3, x4, x5, decide (x6 = 1), decide (x7 = 1), (x8 : Int) + 1, (x9 : Int) + 1⟩ (decide (PpsN.may ⟨decide (x1 = 1), decide (x2 = 1), x3, x4, x5, decide (x6 = 1), decide (x7 = 1), (x8 : Int) + 1, (x9 : Int) + 1⟩)) t9 := by
    simp only [runPps, runP, q9, q8, q7, q6, q5, q4, q3, q2, q1, h1, h2, h3, h4, h5, h6, h7, h8, h9]
  obtain ⟨c1, hc1⟩ : ∃ c, ((x1 : Int) == 1) = c := ⟨_, rfl⟩
  have e1 : decide (x1 = 1) = c1 := by rw [← hc1, Bool.eq_iff_iff]; simp; omega
  obtain ⟨c2, hc2⟩ : ∃ c, ((x2 : Int) == 1) = c := ⟨_, rfl⟩
  have e2 : decide (x2 = 1) = c2 := by rw [← hc2, Bool.eq_iff_iff]; simp; omega
  obtain ⟨c6, hc6⟩ : ∃ c, ((x6 : Int) == 1) = c := ⟨_, rfl⟩
  have e6 : decide (x6 = 1) = c6 := by rw [← hc6, Bool.eq_iff_iff]; simp; omega
  obtain ⟨c7, hc7⟩ : ∃ c, ((x7 : Int) == 1) = c := ⟨_, rfl⟩
  have e7 : decide (x7 = 1) = c7 := by rw [← hc7, Bool.eq_iff_iff]; simp; omega
  rw [e1, e2, e6, e7] at hrun
  have H1 := Lib.hid h1
  have H2 := Lib.hid h2
  have H3 := Lib.hid h3
  have H4 := Lib.hid h4
  have H5 := Lib.hid h5
  have H6 := Lib.hid h6
  have H7 := Lib.hid h7
  have H8 := Lib.hid h8
  have H9 := Lib.hid h9
  have HR := Lib.hid hrun
  clear hrun e1 e2 e6 e7 h1 h2 h3 h4 h5 h6 h7 h8 h9
  rw [HR.out]
  go_enter Try.func25, Try.ntmps25
  go_wp2_with fail
  refine (HOO.out _).mono ?_
  rintro e w1 ⟨v, rfl, hn⟩
  have K0 := Lib.hid (Gt.start (by decide) hn)
  obtain ⟨g0, cap0, hv, _⟩ := hn
  subst hv
  go_wp2_with fail
  refine (refBits3e _ w.heap.size _ _ l _ 1 (by omega) K0.out.rd hll H1.out).mono ?_
  rintro e v1 p1
  obtain ⟨d1, g1⟩ := (K0.out.call p1).cell 0 (.bool false) rfl
  have K1 : Hid (Gt w (v1.setCell ⟨w1.heap.size + 2, 0, none⟩ (.bool c1)) 43 w.heap.size (w1.heap.size + 1) w1.heap.size (w1.heap.size + 2) l t1 #[.bool false, .bool false, .int .i64 0, .int .i64 0, .int .i64 0, .bool false, .bool false, .int .i64 0, .int .i64 0] #[.bool c1, .bool false, .int .i64 0, .int .i64 0, .int .i64 0, .bool false, .bool false, .int .i64 0, .int .i64 0]) := (K0.out.call p1).set 0 (.bool c1)
  obtain ⟨rfl, _⟩ := p1
  clear K0
  go_wp2_with fail
  refine (refBits3e _ w.heap.size _ _ l _ 1 (by omega) K1.out.rd hll H2.out).mono ?_
  rintro e v2 p2
  obtain ⟨d2, g2⟩ := (K1.out.call p2).cell 1 (.bool false) rfl
  have K2 : Hid (Gt w (v2.setCell ⟨w1.heap.size + 2, 1, none⟩ (.bool c2)) 43 w.heap.size (w1.heap.size + 1) w1.heap.size (w1.heap.size + 2) l t2 #[.bool false, .bool false, .int .i64 0, .int .i64 0, .int .i64 0, .bool false, .bool false, .int .i64 0, .int .i64 0] #[.bool c1, .bool c2, .int .i64 0, .int .i64 0, .int .i64 0, .bool false, .bool false, .int .i64 0, .int .i64 0]) := (K1.out.call p2).set 1 (.bool c2)
  obtain ⟨rfl, _⟩ := p2
  clear K1
  go_wp2_with fail
  refine (refBits3e _ w.heap.size _ _ l _ 2 (by omega) K2.out.rd hll H3.out).mono ?_
  rintro e v3 p3
  obtain ⟨d3, g3⟩ := (K2.out.call p3).cell 2 (.int .i64 0) rfl
  have K3 : Hid (Gt w (v3.setCell ⟨w1.heap.size + 2, 2, none⟩ (.int .i64 (x3 : Int))) 43 w.heap.size (w1.heap.size + 1) w1.heap.size (w1.heap.size + 2) l t3 #[.bool false, .bool false, .int .i64 0, .int .i64 0, .int .i64 0, .bool false, .bool false, .int .i64 0, .int .i64 0] #[.bool c1, .bool c2, .int .i64 (x3 : Int), .int .i64 0, .int .i64 0, .bool false, .bool false, .int .i64 0, .int .i64 0]) := (K2.out.call p3).set 2 (.int .i64 (x3 : Int))
  obtain ⟨rfl, _⟩ := p3
  clear K2
  go_wp2_with fail
  refine (refUe3e _ w.heap.size _ _ l _ K3.out.rd hll H4.out).mono ?_
  rintro e v4 p4
  obtain ⟨d4, g4⟩ := (K3.out.call p4).cell 3 (.int .i64 0) rfl
  have K4 : Hid (Gt w (v4.setCell ⟨w1.heap.size + 2, 3, none⟩ (.int .i64 (x4 : Int))) 43 w.heap.size (w1.heap.size + 1) w1.heap.size (w1.heap.size + 2) l t4 #[.bool false, .bool false, .int .i64 0, .int .i64 0, .int .i64 0, .bool false, .bool false, .int .i64 0, .int .i64 0] #[.bool c1, .bool c2, .int .i64 (x3 : Int), .int .i64 (x4 : Int), .int .i64 0, .bool false, .bool false, .int .i64 0, .int .i64 0]) := (K3.out.call p4).set 3 (.int .i64 (x4 : Int))
  obtain ⟨rfl, _⟩ := p4
  clear K3
  go_wp2_with fail
  refine (refSe3e _ w.heap.size _ _ l _ K4.out.rd hll H5.out).mono ?_
  rintro e v5 p5
  obtain ⟨d5, g5⟩ := (K4.out.call p5).cell 4 (.int .i64 0) rfl
  have K5 : Hid (Gt w (v5.setCell ⟨w1.heap.size + 2, 4, none⟩ (.int .i64 x5)) 43 w.heap.size (w1.heap.size + 1) w1.heap.size (w1.heap.size + 2) l t5 #[.bool false, .bool false, .int .i64 0, .int .i64 0, .int .i64 0, .bool false, .bool false, .int .i64 0, .int .i64 0] #[.bool c1, .bool c2, .int .i64 (x3 : Int), .int .i64 (x4 : Int), .int .i64 x5, .bool false, .bool false, .int .i64 0, .int .i64 0]) := (K4.out.call p5).set 4 (.int .i64 x5)
  obtain ⟨rfl, _⟩ := p5
  clear K4
  go_wp2_with fail
  refine (refBits3e _ w.heap.size _ _ l _ 1 (by omega) K5.out.rd hll H6.out).mono ?_
  rintro e v6 p6
  obtain ⟨d6, g6⟩ := (K5.out.call p6).cell 5 (.bool false) rfl
  have K6 : Hid (Gt w (v6.setCell ⟨w1.heap.size + 2, 5, none⟩ (.bool c6)) 43 w.heap.size (w1.heap.size + 1) w1.heap.size (w1.heap.size + 2) l t6 #[.bool false, .bool false, .int .i64 0, .int .i64 0, .int .i64 0, .bool false, .bool false, .int .i64 0, .int .i64 0] #[.bool c1, .bool c2, .int .i64 (x3 : Int), .int .i64 (x4 : Int), .int .i64 x5, .bool c6, .bool false, .int .i64 0, .int .i64 0]) := (K5.out.call p6).set 5 (.bool c6)
  obtain ⟨rfl, _⟩ := p6
  clear K5
  go_wp2_with fail
  refine (refBits3e _ w.heap.size _ _ l _ 1 (by omega) K6.out.rd hll H7.out).mono ?_
  rintro e v7 p7
  obtain ⟨d7, g7⟩ := (K6.out.call p7).cell 6 (.bool false) rfl
  have K7 : Hid (Gt w (v7.setCell ⟨w1.heap.size + 2, 6, none⟩ (.bool c7)) 43 w.heap.size (w1.heap.size + 1) w1.heap.size (w1.heap.size + 2) l t7 #[.bool false, .bool false, .int .i64 0, .int .i64 0, .int .i64 0, .bool false, .bool false, .int .i64 0, .int .i64 0] #[.bool c1, .bool c2, .int .i64 (x3 : Int), .int .i64 (x4 : Int), .int .i64 x5, .bool c6, .bool c7, .int .i64 0, .int .i64 0]) := (K6.out.call p7).set 6 (.bool c7)
  obtain ⟨rfl, _⟩ := p7
  clear K6
  go_wp2_with fail
  refine (refUe3e _ w.heap.size _ _ l _ K7.out.rd hll H8.out).mono ?_
  rintro e v8 p8
  obtain ⟨d8, g8⟩ := (K7.out.call p8).cell 7 (.int .i64 0) rfl
  have K8 : Hid (Gt w (v8.setCell ⟨w1.heap.size + 2, 7, none⟩ (.int .i64 ((x8 : Int) + 1))) 43 w.heap.size (w1.heap.size + 1) w1.heap.size (w1.heap.size + 2) l t8 #[.bool false, .bool false, .int .i64 0, .int .i64 0, .int .i64 0, .bool false, .bool false, .int .i64 0, .int .i64 0] #[.bool c1, .bool c2, .int .i64 (x3 : Int), .int .i64 (x4 : Int), .int .i64 x5, .bool c6, .bool c7, .int .i64 ((x8 : Int) + 1), .int .i64 0]) := (K7.out.call p8).set 7 (.int .i64 ((x8 : Int) + 1))
  obtain ⟨rfl, _⟩ := p8
  clear K7
  go_wp2_with fail
  refine (refUe3e _ w.heap.size _ _ l _ K8.out.rd hll H9.out).mono ?_
  rintro e v9 p9
  obtain ⟨d9, g9⟩ := (K8.out.call p9).cell 8 (.int .i64 0) rfl
  have K9 : Hid (Gt w (v9.setCell ⟨w1.heap.size + 2, 8, none⟩ (.int .i64 ((x9 : Int) + 1))) 43 w.heap.size (w1.heap.size + 1) w1.heap.size (w1.heap.size + 2) l t9 #[.bool false, .bool false, .int .i64 0, .int .i64 0, .int .i64 0, .bool false, .bool false, .int .i64 0, .int .i64 0] #[.bool c1, .bool c2, .int .i64 (x3 : Int), .int .i64 (x4 : Int), .int .i64 x5, .bool c6, .bool c7, .int .i64 ((x8 : Int) + 1), .int .i64 ((x9 : Int) + 1)]) := (K8.out.call p9).set 8 (.int .i64 ((x9 : Int) + 1))
  obtain ⟨rfl, _⟩ := p9
  clear K8
  obtain ⟨r0, r1, _⟩ := srd_cells K9.out.rd
  have R9 := Lib.hid K9.out.2.2.1
  cases t9 with
  | none =>
    simp only [Option.isNone_none] at r1
    have o0 := cell_of_row _ w.heap.size 0 _ _ _ R9.out
    have f0 := free_row R9.out 0
    have o1 := cell_of_row _ w.heap.size 1 _ _ _ R9.out
    have f1 := free_row R9.out 1
    have o2 := cell_of_row _ w.heap.size 2 _ _ _ R9.out
    have f2 := free_row R9.out 2
    have o3 := cell_of_row _ w.heap.size 3 _ _ _ R9.out
    have f3 := free_row R9.out 3
    have o4 := cell_of_row _ w.heap.size 4 _ _ _ R9.out
    have f4 := free_row R9.out 4
    have o5 := cell_of_row _ w.heap.size 5 _ _ _ R9.out
    have f5 := free_row R9.out 5
    have o6 := cell_of_row _ w.heap.size 6 _ _ _ R9.out
    have f6 := free_row R9.out 6
    have o7 := cell_of_row _ w.heap.size 7 _ _ _ R9.out
    have f7 := free_row R9.out 7
    have o8 := cell_of_row _ w.heap.size 8 _ _ _ R9.out
    have f8 := free_row R9.out 8
    simp at o0 o1 o2 o3 o4 o5 o6 o7 o8
    go_wp2_with fail
    refine bodyPost_ret (v := .tuple #[.agg #[.bool false, .bool false, .int .i64 0, .int .i64 0, .int .i64 0, .bool false, .bool false, .int .i64 0, .int .i64 0], .int .i64 300]) (by simp [results, Try.results25, go_sem, *]) rfl ⟨rfl, ?_⟩
    exact ((((((((((K9.out.down).setCell (Nat.le_refl _) _).setCell (Nat.le_refl _) _).setCell (Nat.le_refl _) _).setCell (Nat.le_refl _) _).setCell (Nat.le_refl _) _).setCell (Nat.le_refl _) _).setCell (Nat.le_refl _) _).setCell (Nat.le_refl _) _).setCell (Nat.le_refl _) _)
  | some p =>
    simp only [Option.isNone_some] at r1
    have htr := refTrail3 _ w.heap.size _ _ l p K9.out.rd hll hT8.out HQ.out
    by_cases ht : Trails (fl l) l.length p
    · rw [if_pos ht] at htr
      have HTR := Lib.hid htr
      have HT := Lib.hid ht
      clear htr ht
      go_wp2_with fail
      refine HTR.out.mono ?_
      rintro e wt ⟨rfl, ft⟩
      obtain ⟨k1, k2, k3⟩ := K9.out.turn ft (fun _ h => h)
      have y0 := cell_of_row _ (w1.heap.size + 2) 0 _ _ _ k1
      have y1 := cell_of_row _ (w1.heap.size + 2) 1 _ _ _ k1
      have y2 := cell_of_row _ (w1.heap.size + 2) 2 _ _ _ k1
      have y3 := cell_of_row _ (w1.heap.size + 2) 3 _ _ _ k1
      have y4 := cell_of_row _ (w1.heap.size + 2) 4 _ _ _ k1
      have y5 := cell_of_row _ (w1.heap.size + 2) 5 _ _ _ k1
      have y6 := cell_of_row _ (w1.heap.size + 2) 6 _ _ _ k1
      have y7 := cell_of_row _ (w1.heap.size + 2) 7 _ _ _ k1
      have y8 := cell_of_row _ (w1.heap.size + 2) 8 _ _ _ k1
      simp at y0 y1 y2 y3 y4 y5 y6 y7 y8
      have Q1 := Lib.hid k1
      have Q2 := Lib.hid k2
      have Q3 := Lib.hid k3
      clear k1 k2 k3 ft r0 r1
      have hm := refMayPps_any wt ⟨c1, c2, x3, x4, x5, c6, c7, (x8 : Int) + 1, (x9 : Int) + 1⟩
      unfold ppsV at hm
      by_cases hmay : PpsN.may ⟨c1, c2, x3, x4, x5, c6, c7, (x8 : Int) + 1, (x9 : Int) + 1⟩
      · rw [decide_eq_true hmay] at hm
        have HM := Lib.hid hm
        have HMY := Lib.hid hmay
        clear hm hmay
        go_wp2_with fail
        refine HM.out.mono ?_
        rintro e w3 ⟨rfl, b3⟩
        have q1 := (b3.block _ (row_lt Q1.out)).trans Q1.out
        have q2 := (b3.block _ (row_lt Q2.out)).trans Q2.out
        have D3 := Lib.hid (Q3.out.trans (b3.mono Q3.out.size))
        clear y0 y1 y2 y3 y4 y5 y6 y7 y8
        have y0 := cell_of_row _ (w1.heap.size + 2) 0 _ _ _ q1
        have y1 := cell_of_row _ (w1.heap.size + 2) 1 _ _ _ q1
        have y2 := cell_of_row _ (w1.heap.size + 2) 2 _ _ _ q1
        have y3 := cell_of_row _ (w1.heap.size + 2) 3 _ _ _ q1
        have y4 := cell_of_row _ (w1.heap.size + 2) 4 _ _ _ q1
        have y5 := cell_of_row _ (w1.heap.size + 2) 5 _ _ _ q1
        have y6 := cell_of_row _ (w1.heap.size + 2) 6 _ _ _ q1
        have y7 := cell_of_row _ (w1.heap.size + 2) 7 _ _ _ q1
        have y8 := cell_of_row _ (w1.heap.size + 2) 8 _ _ _ q1
        simp at y0 y1 y2 y3 y4 y5 y6 y7 y8
        have o0 := cell_of_row _ w.heap.size 0 _ _ _ q2
        have f0 := free_row q2 0
        have o1 := cell_of_row _ w.heap.size 1 _ _ _ q2
        have f1 := free_row q2 1
        have o2 := cell_of_row _ w.heap.size 2 _ _ _ q2
        have f2 := free_row q2 2
        have o3 := cell_of_row _ w.heap.size 3 _ _ _ q2
        have f3 := free_row q2 3
        have o4 := cell_of_row _ w.heap.size 4 _ _ _ q2
        have f4 := free_row q2 4
        have o5 := cell_of_row _ w.heap.size 5 _ _ _ q2
        have f5 := free_row q2 5
        have o6 := cell_of_row _ w.heap.size 6 _ _ _ q2
        have f6 := free_row q2 6
        have o7 := cell_of_row _ w.heap.size 7 _ _ _ q2
        have f7 := free_row q2 7
        have o8 := cell_of_row _ w.heap.size 8 _ _ _ q2
        have f8 := free_row q2 8
        simp at o0 o1 o2 o3 o4 o5 o6 o7 o8
        have Q4 := Lib.hid q1
        have Q5 := Lib.hid q2
        clear q1 q2 b3
        go_wp2_with fail
        refine bodyPost_ret (v := .tuple #[.agg #[.bool c1, .bool c2, .int .i64 (x3 : Int), .int .i64 (x4 : Int), .int .i64 x5, .bool c6, .bool c7, .int .i64 ((x8 : Int) + 1), .int .i64 ((x9 : Int) + 1)], .int .i64 0]) (by simp [results, Try.results25, go_sem, *]) rfl ⟨by rw [sEnd, if_pos HT.out, decide_eq_true HMY.out]; rfl, ?_⟩
        exact ((((((((((D3.out).setCell (Nat.le_refl _) _).setCell (Nat.le_refl _) _).setCell (Nat.le_refl _) _).setCell (Nat.le_refl _) _).setCell (Nat.le_refl _) _).setCell (Nat.le_refl _) _).setCell (Nat.le_refl _) _).setCell (Nat.le_refl _) _).setCell (Nat.le_refl _) _)
      · rw [decide_eq_false hmay] at hm
        have HM := Lib.hid hm
        have HMY := Lib.hid hmay
        clear hm hmay
        go_wp2_with fail
        refine HM.out.mono ?_
        rintro e w3 ⟨rfl, b3⟩
        have q1 := (b3.block _ (row_lt Q1.out)).trans Q1.out
        have q2 := (b3.block _ (row_lt Q2.out)).trans Q2.out
        have D3 := Lib.hid (Q3.out.trans (b3.mono Q3.out.size))
        have o0 := cell_of_row _ w.heap.size 0 _ _ _ q2
        have f0 := free_row q2 0
        have o1 := cell_of_row _ w.heap.size 1 _ _ _ q2
        have f1 := free_row q2 1
        have o2 := cell_of_row _ w.heap.size 2 _ _ _ q2
        have f2 := free_row q2 2
        have o3 := cell_of_row _ w.heap.size 3 _ _ _ q2
        have f3 := free_row q2 3
        have o4 := cell_of_row _ w.heap.size 4 _ _ _ q2
        have f4 := free_row q2 4
        have o5 := cell_of_row _ w.heap.size 5 _ _ _ q2
        have f5 := free_row q2 5
        have o6 := cell_of_row _ w.heap.size 6 _ _ _ q2
        have f6 := free_row q2 6
        have o7 := cell_of_row _ w.heap.size 7 _ _ _ q2
        have f7 := free_row q2 7
        have o8 := cell_of_row _ w.heap.size 8 _ _ _ q2
        have f8 := free_row q2 8
        simp at o0 o1 o2 o3 o4 o5 o6 o7 o8
        have Q4 := Lib.hid q1
        have Q5 := Lib.hid q2
        clear q1 q2 b3
        go_wp2_with fail
        refine bodyPost_ret (v := .tuple #[.agg #[.bool false, .bool false, .int .i64 0, .int .i64 0, .int .i64 0, .bool false, .bool false, .int .i64 0, .int .i64 0], .int .i64 301]) (by simp [results, Try.results25, go_sem, *]) rfl ⟨by rw [sEnd, if_pos HT.out, decide_eq_false HMY.out]; rfl, ?_⟩
        exact ((((((((((D3.out).setCell (Nat.le_refl _) _).setCell (Nat.le_refl _) _).setCell (Nat.le_refl _) _).setCell (Nat.le_refl _) _).setCell (Nat.le_refl _) _).setCell (Nat.le_refl _) _).setCell (Nat.le_refl _) _).setCell (Nat.le_refl _) _).setCell (Nat.le_refl _) _)
    · rw [if_neg ht] at htr
      have HTR := Lib.hid htr
      have HT := Lib.hid ht
      clear htr ht
      go_wp2_with fail
      refine HTR.out.mono ?_
      rintro e wt ⟨rfl, ft⟩
      obtain ⟨k1, k2, k3⟩ := K9.out.turn ft (fun _ h => h)
      have o0 := cell_of_row _ w.heap.size 0 _ _ _ k2
      have f0 := free_row k2 0
      have o1 := cell_of_row _ w.heap.size 1 _ _ _ k2
      have f1 := free_row k2 1
      have o2 := cell_of_row _ w.heap.size 2 _ _ _ k2
      have f2 := free_row k2 2
      have o3 := cell_of_row _ w.heap.size 3 _ _ _ k2
      have f3 := free_row k2 3
      have o4 := cell_of_row _ w.heap.size 4 _ _ _ k2
      have f4 := free_row k2 4
      have o5 := cell_of_row _ w.heap.size 5 _ _ _ k2
      have f5 := free_row k2 5
      have o6 := cell_of_row _ w.heap.size 6 _ _ _ k2
      have f6 := free_row k2 6
      have o7 := cell_of_row _ w.heap.size 7 _ _ _ k2
      have f7 := free_row k2 7
      have o8 := cell_of_row _ w.heap.size 8 _ _ _ k2
      have f8 := free_row k2 8
      simp at o0 o1 o2 o3 o4 o5 o6 o7 o8
      have Q2 := Lib.hid k2
      have Q3 := Lib.hid k3
      clear k1 k2 k3 ft
      go_wp2_with fail
      refine bodyPost_ret (v := .tuple #[.agg #[.bool false, .bool false, .int .i64 0, .int .i64 0, .int .i64 0, .bool false, .bool false, .int .i64 0, .int .i64 0], .int .i64 300]) (by simp [results, Try.results25, go_sem, *]) rfl ⟨by rw [sEnd, if_neg HT.out]; rfl, ?_⟩
      exact ((((((((((Q3.out).setCell (Nat.le_refl _) _).setCell (Nat.le_refl _) _).setCell (Nat.le_refl _) _).setCell (Nat.le_refl _) _).setCell (Nat.le_refl _) _).setCell (Nat.le_refl _) _).setCell (Nat.le_refl _) _).setCell (Nat.le_refl _) _).setCell (Nat.le_refl _) _)
end Go.Proofs.Ytadfgadkihlmcaa
