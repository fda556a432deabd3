/- Layer 3: the program's GetPps, told that its ranges answer as they should. -/
import Derived.Test.YtadfgadkihlmcaaQP
namespace Go.Proofs.Ytadfgadkihlmcaa
open Go.RowKit Zo Zp

/-- A getter of the program under way: its result's block, its reader, the variable that it fills. -/
def Gp (W wr : World) (T : TypeId) (ob b rb sb : Nat) (s : ByteArray) (st : Option Nat) (zs cs : Array Value) : Prop :=
  PRd wr W.heap.size b rb s st ∧ wr.heap[sb]? = some (.cells cs T (0, 0)) ∧ wr.heap[ob]? = some (.cells zs T (0, 0)) ∧ (ob ≠ sb ∧ W.heap.size ≤ sb ∧ W.heap.size ≤ ob) ∧ Below W.heap.size W wr ∧
    (T ≠ 88 ∧ T ≠ 116)

section
variable {W wr w' : World} {T : TypeId} {ob b rb sb : Nat} {s : ByteArray} {st : Option Nat} {zs cs : Array Value}

theorem PRd.reader {w : World} {base : Nat} (h : PRd w base b rb s st) : (∃ cs, w.heap[rb]? = some (.cells cs 116 (0, 0))) ∧ base ≤ rb := by
  obtain ⟨_, _, p, hp, _⟩ := h
  exact ⟨hp.block.1, hp.block.2.1⟩

theorem Gp.call {st' : Option Nat} {v : Value} {e : Ending} (h : Gp W wr T ob b rb sb s st zs cs) (p : PSt wr W.heap.size b rb s v st' e w') : Gp W w' T ob b rb sb s st' zs cs := by
  obtain ⟨h1, h2, h3, h4, h5, h6⟩ := h
  obtain ⟨_, p1, p2⟩ := p
  obtain ⟨⟨rc, hrc⟩, hrb⟩ := h1.reader
  have hb := h1.2.1
  refine ⟨p1, (p2.block sb (row_lt h2) ?_).trans h2, (p2.block ob (row_lt h3) ?_).trans h3, h4, below_fr h5 (Nat.le_refl _) p2 (fun k e => by omega), h6⟩
  · rintro (e | e)
    · exact ne_of_type h2 h1.1 h6.1 e
    · exact ne_of_type h2 hrc h6.2 e
  · rintro (e | e)
    · exact ne_of_type h3 h1.1 h6.1 e
    · exact ne_of_type h3 hrc h6.2 e

theorem Gp.set (h : Gp W wr T ob b rb sb s st zs cs) (i : Nat) (u : Value) : Gp W (wr.setCell ⟨sb, i, none⟩ u) T ob b rb sb s st zs (cs.setIfInBounds i u) := by
  obtain ⟨h1, h2, h3, h4, h5, h6⟩ := h
  obtain ⟨⟨rc, hrc⟩, _⟩ := h1.reader
  have f : Fr (fun k => k = sb) wr (wr.setCell ⟨sb, i, none⟩ u) := Fr.setCell (S := fun k => k = sb) (Fr.refl _ _) (fun _ => rfl) u
  exact ⟨h1.keep f (fun e => ne_of_type h2 h1.1 h6.1 e.symm) (fun e => ne_of_type h2 hrc h6.2 e.symm), heap_setCell_row h2 i u, (f.block ob (row_lt h3) h4.1).trans h3, h4, h5.setCell h4.2.1 _, h6⟩

theorem Gp.cell (h : Gp W wr T ob b rb sb s st zs cs) (i : Nat) (u : Value) (hu : cs[i]? = some u) : wr.cell? ⟨sb, i, none⟩ = some u ∧ wr.frozen? ⟨sb, i, none⟩ = false :=
  ⟨by rw [cell_of_row wr sb i _ _ _ h.2.1, hu], free_row h.2.1 i⟩

theorem Gp.down (h : Gp W wr T ob b rb sb s st zs cs) : Below W.heap.size W wr := h.2.2.2.2.1
theorem Gp.rd (h : Gp W wr T ob b rb sb s st zs cs) : PRd wr W.heap.size b rb s st := h.1

theorem Gp.turn {S : Nat → Prop} (h : Gp W wr T ob b rb sb s st zs cs) (f : Fr S wr w') (hS : ∀ k, S k → k = rb) : w'.heap[ob]? = some (.cells zs T (0, 0)) ∧ Below W.heap.size W w' := by
  obtain ⟨h1, h2, h3, h4, h5, h6⟩ := h
  obtain ⟨⟨rc, hrc⟩, hrb⟩ := h1.reader
  exact ⟨(f.block ob (row_lt h3) fun e => ne_of_type h3 hrc h6.2 (hS _ e)).trans h3, below_fr h5 (Nat.le_refl _) f (fun k e => by have := hS _ e; omega)⟩

/-- The beginning. -/
theorem Gp.start {w1 : World} {zs cs : Array Value} (ht : T ≠ 88 ∧ T ≠ 116) (hr : Rd w1 W.heap.size (W.heap.size + 1) s 0) (f : Fr (fun _ => False) (W.alloc (.cells zs T)) w1) (hz : w1.heap.size = W.heap.size + 2) :
    Gp W ((w1.alloc (.cells #[.pointer (some ⟨W.heap.size + 1, 0, none⟩), .bool false] 88)).alloc (.cells cs T)) T W.heap.size w1.heap.size (W.heap.size + 1) (w1.heap.size + 1) s (some 0) zs cs := by
  have r1 := heap_alloc_last w1 (.cells #[.pointer (some ⟨W.heap.size + 1, 0, none⟩), .bool false] 88)
  have e1 : (w1.alloc (.cells #[.pointer (some ⟨W.heap.size + 1, 0, none⟩), .bool false] 88)).heap.size = w1.heap.size + 1 := by simp
  have r2 := heap_alloc_last (w1.alloc (.cells #[.pointer (some ⟨W.heap.size + 1, 0, none⟩), .bool false] 88)) (.cells cs T)
  rw [e1] at r2
  have r0 := (f.block W.heap.size (by simp) (fun e => e)).trans (heap_alloc_last W (.cells zs T))
  refine ⟨⟨?_, by omega, 0, ?_, fun q hq => by simpa using hq⟩, r2, ?_, ⟨by omega, by omega, Nat.le_refl _⟩, ?_, ht⟩
  · rw [heap_alloc_other (by omega)]; exact r1
  · exact hr.fr (S := fun _ => False) (((Fr.refl _ _).alloc _).alloc _) (fun e => e)
  · rw [heap_alloc_other (by omega), heap_alloc_other (by omega)]; exact r0
  · exact (((below_fr ((Below.refl W.heap.size W).alloc (Nat.le_refl _) (.cells zs T)) (Nat.le_refl _) f (fun _ e => e.elim)).alloc (by omega) _).alloc (by omega) _)
end

theorem pUe3e (w : World) (base b rb : Nat) (s : ByteArray) (st : Option Nat) (h : PRd w base b rb s st) (hs : s.size ≤ 1048576) {x : Nat} {st' : Option Nat} (hX : sUe (bitAt s) (8 * s.size) st = (x, st')) :
    Calls Try.prog 39 #[.pointer (some ⟨b, 0, none⟩)] w (PSt w base b rb s (.int .i64 (x : Int)) st') := by
  have := pUe3 w base b rb s st h hs
  rwa [hX] at this

theorem pSe3e (w : World) (base b rb : Nat) (s : ByteArray) (st : Option Nat) (h : PRd w base b rb s st) (hs : s.size ≤ 1048576) {x : Int} {st' : Option Nat} (hX : sSe (bitAt s) (8 * s.size) st = (x, st')) :
    Calls Try.prog 40 #[.pointer (some ⟨b, 0, none⟩)] w (PSt w base b rb s (.int .i64 x) st') := by
  have := pSe3 w base b rb s st h hs
  rwa [hX] at this

theorem pBits3e (w : World) (base b rb : Nat) (s : ByteArray) (st : Option Nat) (n : Nat) (hn : n ≤ 32) (h : PRd w base b rb s st) (hs : s.size ≤ 1048576) {x : Nat} {st' : Option Nat} (hX : sBits (bitAt s) (8 * s.size) n st = (x, st')) :
    Calls Try.prog 56 #[.pointer (some ⟨b, 0, none⟩), .int .i64 (n : Int)] w (PSt w base b rb s (.int .i64 (x : Int)) st') := by
  have := pBits3 w base b rb s st n hn h hs
  rwa [hX] at this

theorem pFlag3e (w : World) (base b rb : Nat) (s : ByteArray) (st : Option Nat) (h : PRd w base b rb s st) (hs : s.size ≤ 1048576) {x : Nat} {st' : Option Nat} {c : Bool} (hX : sBits (bitAt s) (8 * s.size) 1 st = (x, st')) (hc : ((x : Int) == 1) = c) :
    Calls Try.prog 55 #[.pointer (some ⟨b, 0, none⟩)] w (PSt w base b rb s (.bool c) st') := by
  have := pFlag3 w base b rb s st h hs
  rw [hX] at this
  simp only at this
  rwa [hc] at this

set_option maxRecDepth 100000 in
set_option maxHeartbeats 4000000 in
theorem getPps_any (HM : MayPpsOk) (s : ByteArray) (w : World) (hs : s.size ≤ 1048576) : Calls Try.prog 24 #[.string s] w (PPost (gotPps (bitAt s) (8 * s.size)) w) := by
  obtain ⟨q, hq⟩ := past_exists s
  have HQ := Lib.hid hq
  have HO := Lib.hid (open_any s (w.alloc (.cells #[.bool false, .bool false, .int .i64 0, .int .i64 0, .int .i64 0, .bool false, .bool false, .int .i64 0, .int .i64 0] 43)) w.heap.size (by simp) (by omega))
  rw [gotPps_run]
  clear hq
  obtain ⟨⟨x1, t1⟩, h1⟩ : ∃ X, sBits (bitAt s) (8 * s.size) 1 (some 0) = X := ⟨_, rfl⟩
  obtain ⟨⟨x2, t2⟩, h2⟩ : ∃ X, sBits (bitAt s) (8 * s.size) 1 t1 = X := ⟨_, rfl⟩
  obtain ⟨⟨x3, t3⟩, h3⟩ : ∃ X, sBits (bitAt s) (8 * s.size) 2 t2 = X := ⟨_, rfl⟩
  obtain ⟨⟨x4, t4⟩, h4⟩ : ∃ X, sUe (bitAt s) (8 * s.size) t3 = X := ⟨_, rfl⟩
  have B4 : x4 ≤ 2147483646 := by have := sUe_le (bitAt s) (8 * s.size) t3; rw [h4] at this; exact this
  obtain ⟨⟨x5, t5⟩, h5⟩ : ∃ X, sSe (bitAt s) (8 * s.size) t4 = X := ⟨_, rfl⟩
  obtain ⟨⟨x6, t6⟩, h6⟩ : ∃ X, sBits (bitAt s) (8 * s.size) 1 t5 = X := ⟨_, rfl⟩
  obtain ⟨⟨x7, t7⟩, h7⟩ : ∃ X, sBits (bitAt s) (8 * s.size) 1 t6 = X := ⟨_, rfl⟩
  obtain ⟨⟨x8, t8⟩, h8⟩ : ∃ X, sUe (bitAt s) (8 * s.size) t7 = X := ⟨_, rfl⟩
  have B8 : x8 ≤ 2147483646 := by have := sUe_le (bitAt s) (8 * s.size) t7; rw [h8] at this; exact this
  obtain ⟨⟨x9, t9⟩, h9⟩ : ∃ X, sUe (bitAt s) (8 * s.size) t8 = X := ⟨_, rfl⟩
  have B9 : x9 ≤ 2147483646 := by have := sUe_le (bitAt s) (8 * s.size) t8; rw [h9] at this; exact this
  have hrun : runPps (bitAt s) (8 * s.size) = sEnd PpsN.zero (bitAt s) (8 * s.size) ⟨decide (x1 = 1), decide (x2 = 1), x3, x4, x5, decide (x6 = 1), decide (x7 = 1), (x8 : Int) + 1, (x9 : Int) + 1⟩ (decide (PpsN.may ⟨decide (x1 = 1), decide (x2 = 1), x3, x4, x5, decide (x6 = 1), decide (x7 = 1), (x8 : Int) + 1, (x9 : Int) + 1⟩)) t9 := by
    simp only [runPps, runP, q9, q8, q7, q6, q5, q4, q3, q2, q1, h1, h2, h3, h4, h5, h6, h7, h8, h9]
  obtain ⟨c1, hc1⟩ : ∃ c, ((x1 : Int) == 1) = c := ⟨_, rfl⟩
  have e1 : decide (x1 = 1) = c1 := by rw [← hc1, Bool.eq_iff_iff]; simp; omega
  obtain ⟨c2, hc2⟩ : ∃ c, ((x2 : Int) == 1) = c := ⟨_, rfl⟩
  have e2 : decide (x2 = 1) = c2 := by rw [← hc2, Bool.eq_iff_iff]; simp; omega
  obtain ⟨c6, hc6⟩ : ∃ c, ((x6 : Int) == 1) = c := ⟨_, rfl⟩
  have e6 : decide (x6 = 1) = c6 := by rw [← hc6, Bool.eq_iff_iff]; simp; omega
  obtain ⟨c7, hc7⟩ : ∃ c, ((x7 : Int) == 1) = c := ⟨_, rfl⟩
  have e7 : decide (x7 = 1) = c7 := by rw [← hc7, Bool.eq_iff_iff]; simp; omega
  rw [e1, e2, e6, e7] at hrun
  have C1 := Lib.hid hc1
  have C2 := Lib.hid hc2
  have C6 := Lib.hid hc6
  have C7 := Lib.hid hc7
  have H1 := Lib.hid h1
  have H2 := Lib.hid h2
  have H3 := Lib.hid h3
  have H4 := Lib.hid h4
  have H5 := Lib.hid h5
  have H6 := Lib.hid h6
  have H7 := Lib.hid h7
  have H8 := Lib.hid h8
  have H9 := Lib.hid h9
  have HR := Lib.hid hrun
  clear hrun e1 e2 e6 e7 hc1 hc2 hc6 hc7 h1 h2 h3 h4 h5 h6 h7 h8 h9
  rw [HR.out]
  go_enter Try.func24, Try.ntmps24
  go_wp2_with fail
  refine HO.out.mono ?_
  rintro e w1 ⟨he, hr, f1, hz⟩
  have hz' : w1.heap.size = w.heap.size + 2 := by rw [hz]; simp
  rw [show (w.alloc (.cells #[.bool false, .bool false, .int .i64 0, .int .i64 0, .int .i64 0, .bool false, .bool false, .int .i64 0, .int .i64 0] 43)).heap.size = w.heap.size + 1 from by simp] at he hr
  subst he
  have K0 := Lib.hid (Gp.start (cs := #[.bool false, .bool false, .int .i64 0, .int .i64 0, .int .i64 0, .bool false, .bool false, .int .i64 0, .int .i64 0]) (by decide) hr f1 hz')
  have HZ := Lib.hid hz'
  clear hr f1 hz hz' HO
  go_wp2_with fail
  refine (pFlag3e _ w.heap.size _ _ s _ K0.out.rd hs H1.out C1.out).mono ?_
  rintro e v1 p1
  obtain ⟨d1, g1⟩ := (K0.out.call p1).cell 0 (.bool false) rfl
  have K1 : Hid (Gp w (v1.setCell ⟨w1.heap.size + 1, 0, none⟩ (.bool c1)) 43 w.heap.size w1.heap.size (w.heap.size + 1) (w1.heap.size + 1) s t1 #[.bool false, .bool false, .int .i64 0, .int .i64 0, .int .i64 0, .bool false, .bool false, .int .i64 0, .int .i64 0] #[.bool c1, .bool false, .int .i64 0, .int .i64 0, .int .i64 0, .bool false, .bool false, .int .i64 0, .int .i64 0]) := (K0.out.call p1).set 0 (.bool c1)
  obtain ⟨rfl, _⟩ := p1
  clear K0
  go_wp2_with fail
  refine (pFlag3e _ w.heap.size _ _ s _ K1.out.rd hs H2.out C2.out).mono ?_
  rintro e v2 p2
  obtain ⟨d2, g2⟩ := (K1.out.call p2).cell 1 (.bool false) rfl
  have K2 : Hid (Gp w (v2.setCell ⟨w1.heap.size + 1, 1, none⟩ (.bool c2)) 43 w.heap.size w1.heap.size (w.heap.size + 1) (w1.heap.size + 1) s t2 #[.bool false, .bool false, .int .i64 0, .int .i64 0, .int .i64 0, .bool false, .bool false, .int .i64 0, .int .i64 0] #[.bool c1, .bool c2, .int .i64 0, .int .i64 0, .int .i64 0, .bool false, .bool false, .int .i64 0, .int .i64 0]) := (K1.out.call p2).set 1 (.bool c2)
  obtain ⟨rfl, _⟩ := p2
  clear K1 d1 g1
  go_wp2_with fail
  refine (pBits3e _ w.heap.size _ _ s _ 2 (by omega) K2.out.rd hs H3.out).mono ?_
  rintro e v3 p3
  obtain ⟨d3, g3⟩ := (K2.out.call p3).cell 2 (.int .i64 0) rfl
  have K3 : Hid (Gp w (v3.setCell ⟨w1.heap.size + 1, 2, none⟩ (.int .i64 (x3 : Int))) 43 w.heap.size w1.heap.size (w.heap.size + 1) (w1.heap.size + 1) s t3 #[.bool false, .bool false, .int .i64 0, .int .i64 0, .int .i64 0, .bool false, .bool false, .int .i64 0, .int .i64 0] #[.bool c1, .bool c2, .int .i64 (x3 : Int), .int .i64 0, .int .i64 0, .bool false, .bool false, .int .i64 0, .int .i64 0]) := (K2.out.call p3).set 2 (.int .i64 (x3 : Int))
  obtain ⟨rfl, _⟩ := p3
  clear K2 d2 g2
  go_wp2_with fail
  refine (pUe3e _ w.heap.size _ _ s _ K3.out.rd hs H4.out).mono ?_
  rintro e v4 p4
  obtain ⟨d4, g4⟩ := (K3.out.call p4).cell 3 (.int .i64 0) rfl
  have K4 : Hid (Gp w (v4.setCell ⟨w1.heap.size + 1, 3, none⟩ (.int .i64 (x4 : Int))) 43 w.heap.size w1.heap.size (w.heap.size + 1) (w1.heap.size + 1) s t4 #[.bool false, .bool false, .int .i64 0, .int .i64 0, .int .i64 0, .bool false, .bool false, .int .i64 0, .int .i64 0] #[.bool c1, .bool c2, .int .i64 (x3 : Int), .int .i64 (x4 : Int), .int .i64 0, .bool false, .bool false, .int .i64 0, .int .i64 0]) := (K3.out.call p4).set 3 (.int .i64 (x4 : Int))
  obtain ⟨rfl, _⟩ := p4
  clear K3 d3 g3
  go_wp2_with fail
  refine (pSe3e _ w.heap.size _ _ s _ K4.out.rd hs H5.out).mono ?_
  rintro e v5 p5
  obtain ⟨d5, g5⟩ := (K4.out.call p5).cell 4 (.int .i64 0) rfl
  have K5 : Hid (Gp w (v5.setCell ⟨w1.heap.size + 1, 4, none⟩ (.int .i64 x5)) 43 w.heap.size w1.heap.size (w.heap.size + 1) (w1.heap.size + 1) s t5 #[.bool false, .bool false, .int .i64 0, .int .i64 0, .int .i64 0, .bool false, .bool false, .int .i64 0, .int .i64 0] #[.bool c1, .bool c2, .int .i64 (x3 : Int), .int .i64 (x4 : Int), .int .i64 x5, .bool false, .bool false, .int .i64 0, .int .i64 0]) := (K4.out.call p5).set 4 (.int .i64 x5)
  obtain ⟨rfl, _⟩ := p5
  clear K4 d4 g4
  go_wp2_with fail
  refine (pFlag3e _ w.heap.size _ _ s _ K5.out.rd hs H6.out C6.out).mono ?_
  rintro e v6 p6
  obtain ⟨d6, g6⟩ := (K5.out.call p6).cell 5 (.bool false) rfl
  have K6 : Hid (Gp w (v6.setCell ⟨w1.heap.size + 1, 5, none⟩ (.bool c6)) 43 w.heap.size w1.heap.size (w.heap.size + 1) (w1.heap.size + 1) s t6 #[.bool false, .bool false, .int .i64 0, .int .i64 0, .int .i64 0, .bool false, .bool false, .int .i64 0, .int .i64 0] #[.bool c1, .bool c2, .int .i64 (x3 : Int), .int .i64 (x4 : Int), .int .i64 x5, .bool c6, .bool false, .int .i64 0, .int .i64 0]) := (K5.out.call p6).set 5 (.bool c6)
  obtain ⟨rfl, _⟩ := p6
  clear K5 d5 g5
  go_wp2_with fail
  refine (pFlag3e _ w.heap.size _ _ s _ K6.out.rd hs H7.out C7.out).mono ?_
  rintro e v7 p7
  obtain ⟨d7, g7⟩ := (K6.out.call p7).cell 6 (.bool false) rfl
  have K7 : Hid (Gp w (v7.setCell ⟨w1.heap.size + 1, 6, none⟩ (.bool c7)) 43 w.heap.size w1.heap.size (w.heap.size + 1) (w1.heap.size + 1) s t7 #[.bool false, .bool false, .int .i64 0, .int .i64 0, .int .i64 0, .bool false, .bool false, .int .i64 0, .int .i64 0] #[.bool c1, .bool c2, .int .i64 (x3 : Int), .int .i64 (x4 : Int), .int .i64 x5, .bool c6, .bool c7, .int .i64 0, .int .i64 0]) := (K6.out.call p7).set 6 (.bool c7)
  obtain ⟨rfl, _⟩ := p7
  clear K6 d6 g6
  go_wp2_with fail
  refine (pUe3e _ w.heap.size _ _ s _ K7.out.rd hs H8.out).mono ?_
  rintro e v8 p8
  obtain ⟨d8, g8⟩ := (K7.out.call p8).cell 7 (.int .i64 0) rfl
  have K8 : Hid (Gp w (v8.setCell ⟨w1.heap.size + 1, 7, none⟩ (.int .i64 ((x8 : Int) + 1))) 43 w.heap.size w1.heap.size (w.heap.size + 1) (w1.heap.size + 1) s t8 #[.bool false, .bool false, .int .i64 0, .int .i64 0, .int .i64 0, .bool false, .bool false, .int .i64 0, .int .i64 0] #[.bool c1, .bool c2, .int .i64 (x3 : Int), .int .i64 (x4 : Int), .int .i64 x5, .bool c6, .bool c7, .int .i64 ((x8 : Int) + 1), .int .i64 0]) := (K7.out.call p8).set 7 (.int .i64 ((x8 : Int) + 1))
  obtain ⟨rfl, _⟩ := p8
  clear K7 d7 g7
  go_wp2_with fail
  refine (pUe3e _ w.heap.size _ _ s _ K8.out.rd hs H9.out).mono ?_
  rintro e v9 p9
  obtain ⟨d9, g9⟩ := (K8.out.call p9).cell 8 (.int .i64 0) rfl
  have K9 : Hid (Gp w (v9.setCell ⟨w1.heap.size + 1, 8, none⟩ (.int .i64 ((x9 : Int) + 1))) 43 w.heap.size w1.heap.size (w.heap.size + 1) (w1.heap.size + 1) s t9 #[.bool false, .bool false, .int .i64 0, .int .i64 0, .int .i64 0, .bool false, .bool false, .int .i64 0, .int .i64 0] #[.bool c1, .bool c2, .int .i64 (x3 : Int), .int .i64 (x4 : Int), .int .i64 x5, .bool c6, .bool c7, .int .i64 ((x8 : Int) + 1), .int .i64 ((x9 : Int) + 1)]) := (K8.out.call p9).set 8 (.int .i64 ((x9 : Int) + 1))
  obtain ⟨rfl, _⟩ := p9
  clear K8 d8 g8
  have y0 := (K9.out.cell 0 (.bool c1) rfl).1
  have y1 := (K9.out.cell 1 (.bool c2) rfl).1
  have y2 := (K9.out.cell 2 (.int .i64 (x3 : Int)) rfl).1
  have y3 := (K9.out.cell 3 (.int .i64 (x4 : Int)) rfl).1
  have y4 := (K9.out.cell 4 (.int .i64 x5) rfl).1
  have y5 := (K9.out.cell 5 (.bool c6) rfl).1
  have y6 := (K9.out.cell 6 (.bool c7) rfl).1
  have y7 := (K9.out.cell 7 (.int .i64 ((x8 : Int) + 1)) rfl).1
  have y8 := (K9.out.cell 8 (.int .i64 ((x9 : Int) + 1)) rfl).1
  cases t9 with
  | none =>
    have HE := Lib.hid (endedPpsNone _ w.heap.size _ _ s c1 c2 (x3 : Int) (x4 : Int) x5 c6 c7 ((x8 : Int) + 1) ((x9 : Int) + 1) K9.out.rd)
    go_wp2_with fail
    refine HE.out.mono ?_
    rintro e we ⟨rfl, fe⟩
    obtain ⟨r2, d2⟩ := K9.out.turn fe (fun _ h => h)
    have R2 := Lib.hid r2
    have D2 := Lib.hid d2
    clear r2 d2 fe y0 y1 y2 y3 y4 y5 y6 y7 y8
    go_wp2_with (refine wpList_store_whole rfl 43 (.tmp 2) (.tmp 42) rfl w.heap.size #[.bool false, .bool false, .int .i64 0, .int .i64 0, .int .i64 0, .bool false, .bool false, .int .i64 0, .int .i64 0] ?_ ?_ 43 _ R2.out ?_ ?_ ?_ ?_; rfl; rfl; kernel_rfl; rfl; (simp [Value.oneCell']); intro wz hz fz)
    have z0 := cell_of_row _ w.heap.size 0 _ _ _ hz
    have z1 := cell_of_row _ w.heap.size 1 _ _ _ hz
    have z2 := cell_of_row _ w.heap.size 2 _ _ _ hz
    have z3 := cell_of_row _ w.heap.size 3 _ _ _ hz
    have z4 := cell_of_row _ w.heap.size 4 _ _ _ hz
    have z5 := cell_of_row _ w.heap.size 5 _ _ _ hz
    have z6 := cell_of_row _ w.heap.size 6 _ _ _ hz
    have z7 := cell_of_row _ w.heap.size 7 _ _ _ hz
    have z8 := cell_of_row _ w.heap.size 8 _ _ _ hz
    simp at z0 z1 z2 z3 z4 z5 z6 z7 z8
    refine bodyPost_ret (v := .tuple #[.agg #[.bool false, .bool false, .int .i64 0, .int .i64 0, .int .i64 0, .bool false, .bool false, .int .i64 0, .int .i64 0], .int .i64 300]) (by simp [results, Try.results24, go_sem, z0, z1, z2, z3, z4, z5, z6, z7, z8]) rfl ⟨rfl, ?_⟩
    exact below_fr D2.out (Nat.le_refl _) fz (fun k e => Nat.le_of_eq e.symm)
  | some p =>
    by_cases ht : Trails (bitAt s) (8 * s.size) p
    · have HT := Lib.hid ht
      by_cases hm : PpsN.may ⟨c1, c2, x3, x4, x5, c6, c7, (x8 : Int) + 1, (x9 : Int) + 1⟩
      · have HMY := Lib.hid hm
        have HE := Lib.hid (endedPpsFine _ w.heap.size _ _ s c1 c2 (x3 : Int) (x4 : Int) x5 c6 c7 ((x8 : Int) + 1) ((x9 : Int) + 1) HM p q K9.out.rd hs HQ.out ht hm)
        go_wp2_with fail
        refine HE.out.mono ?_
        rintro e we ⟨rfl, fe⟩
        obtain ⟨r2, d2⟩ := K9.out.turn fe (fun _ h => h)
        have R2 := Lib.hid r2
        have D2 := Lib.hid d2
        clear r2 d2 fe y0 y1 y2 y3 y4 y5 y6 y7 y8
        go_wp2_with (refine wpList_store_whole rfl 43 (.tmp 2) (.tmp 42) rfl w.heap.size #[.bool c1, .bool c2, .int .i64 (x3 : Int), .int .i64 (x4 : Int), .int .i64 x5, .bool c6, .bool c7, .int .i64 ((x8 : Int) + 1), .int .i64 ((x9 : Int) + 1)] ?_ ?_ 43 _ R2.out ?_ ?_ ?_ ?_; rfl; rfl; kernel_rfl; rfl; (simp [Value.oneCell']); intro wz hz fz)
        have z0 := cell_of_row _ w.heap.size 0 _ _ _ hz
        have z1 := cell_of_row _ w.heap.size 1 _ _ _ hz
        have z2 := cell_of_row _ w.heap.size 2 _ _ _ hz
        have z3 := cell_of_row _ w.heap.size 3 _ _ _ hz
        have z4 := cell_of_row _ w.heap.size 4 _ _ _ hz
        have z5 := cell_of_row _ w.heap.size 5 _ _ _ hz
        have z6 := cell_of_row _ w.heap.size 6 _ _ _ hz
        have z7 := cell_of_row _ w.heap.size 7 _ _ _ hz
        have z8 := cell_of_row _ w.heap.size 8 _ _ _ hz
        simp at z0 z1 z2 z3 z4 z5 z6 z7 z8
        refine bodyPost_ret (v := .tuple #[.agg #[.bool c1, .bool c2, .int .i64 (x3 : Int), .int .i64 (x4 : Int), .int .i64 x5, .bool c6, .bool c7, .int .i64 ((x8 : Int) + 1), .int .i64 ((x9 : Int) + 1)], .int .i64 0]) (by simp [results, Try.results24, go_sem, z0, z1, z2, z3, z4, z5, z6, z7, z8]) rfl ⟨by rw [sEnd, if_pos HT.out, decide_eq_true HMY.out]; rfl, ?_⟩
        exact below_fr D2.out (Nat.le_refl _) fz (fun k e => Nat.le_of_eq e.symm)
      · have HMY := Lib.hid hm
        have HE := Lib.hid (endedPpsRange _ w.heap.size _ _ s c1 c2 (x3 : Int) (x4 : Int) x5 c6 c7 ((x8 : Int) + 1) ((x9 : Int) + 1) HM p q K9.out.rd hs HQ.out ht hm)
        go_wp2_with fail
        refine HE.out.mono ?_
        rintro e we ⟨rfl, fe⟩
        obtain ⟨r2, d2⟩ := K9.out.turn fe (fun _ h => h)
        have R2 := Lib.hid r2
        have D2 := Lib.hid d2
        clear r2 d2 fe y0 y1 y2 y3 y4 y5 y6 y7 y8
        go_wp2_with (refine wpList_store_whole rfl 43 (.tmp 2) (.tmp 42) rfl w.heap.size #[.bool false, .bool false, .int .i64 0, .int .i64 0, .int .i64 0, .bool false, .bool false, .int .i64 0, .int .i64 0] ?_ ?_ 43 _ R2.out ?_ ?_ ?_ ?_; rfl; rfl; kernel_rfl; rfl; (simp [Value.oneCell']); intro wz hz fz)
        have z0 := cell_of_row _ w.heap.size 0 _ _ _ hz
        have z1 := cell_of_row _ w.heap.size 1 _ _ _ hz
        have z2 := cell_of_row _ w.heap.size 2 _ _ _ hz
        have z3 := cell_of_row _ w.heap.size 3 _ _ _ hz
        have z4 := cell_of_row _ w.heap.size 4 _ _ _ hz
        have z5 := cell_of_row _ w.heap.size 5 _ _ _ hz
        have z6 := cell_of_row _ w.heap.size 6 _ _ _ hz
        have z7 := cell_of_row _ w.heap.size 7 _ _ _ hz
        have z8 := cell_of_row _ w.heap.size 8 _ _ _ hz
        simp at z0 z1 z2 z3 z4 z5 z6 z7 z8
        refine bodyPost_ret (v := .tuple #[.agg #[.bool false, .bool false, .int .i64 0, .int .i64 0, .int .i64 0, .bool false, .bool false, .int .i64 0, .int .i64 0], .int .i64 301]) (by simp [results, Try.results24, go_sem, z0, z1, z2, z3, z4, z5, z6, z7, z8]) rfl ⟨by rw [sEnd, if_pos HT.out, decide_eq_false HMY.out]; rfl, ?_⟩
        exact below_fr D2.out (Nat.le_refl _) fz (fun k e => Nat.le_of_eq e.symm)
    · have HT := Lib.hid ht
      have HE := Lib.hid (endedPpsForm _ w.heap.size _ _ s c1 c2 (x3 : Int) (x4 : Int) x5 c6 c7 ((x8 : Int) + 1) ((x9 : Int) + 1) p q K9.out.rd hs HQ.out ht)
      go_wp2_with fail
      refine HE.out.mono ?_
      rintro e we ⟨rfl, fe⟩
      obtain ⟨r2, d2⟩ := K9.out.turn fe (fun _ h => h)
      have R2 := Lib.hid r2
      have D2 := Lib.hid d2
      clear r2 d2 fe y0 y1 y2 y3 y4 y5 y6 y7 y8
      go_wp2_with (refine wpList_store_whole rfl 43 (.tmp 2) (.tmp 42) rfl w.heap.size #[.bool false, .bool false, .int .i64 0, .int .i64 0, .int .i64 0, .bool false, .bool false, .int .i64 0, .int .i64 0] ?_ ?_ 43 _ R2.out ?_ ?_ ?_ ?_; rfl; rfl; kernel_rfl; rfl; (simp [Value.oneCell']); intro wz hz fz)
      have z0 := cell_of_row _ w.heap.size 0 _ _ _ hz
      have z1 := cell_of_row _ w.heap.size 1 _ _ _ hz
      have z2 := cell_of_row _ w.heap.size 2 _ _ _ hz
      have z3 := cell_of_row _ w.heap.size 3 _ _ _ hz
      have z4 := cell_of_row _ w.heap.size 4 _ _ _ hz
      have z5 := cell_of_row _ w.heap.size 5 _ _ _ hz
      have z6 := cell_of_row _ w.heap.size 6 _ _ _ hz
      have z7 := cell_of_row _ w.heap.size 7 _ _ _ hz
      have z8 := cell_of_row _ w.heap.size 8 _ _ _ hz
      simp at z0 z1 z2 z3 z4 z5 z6 z7 z8
      refine bodyPost_ret (v := .tuple #[.agg #[.bool false, .bool false, .int .i64 0, .int .i64 0, .int .i64 0, .bool false, .bool false, .int .i64 0, .int .i64 0], .int .i64 300]) (by simp [results, Try.results24, go_sem, z0, z1, z2, z3, z4, z5, z6, z7, z8]) rfl ⟨by rw [sEnd, if_neg HT.out]; rfl, ?_⟩
      exact below_fr D2.out (Nat.le_refl _) fz (fun k e => Nat.le_of_eq e.symm)
end Go.Proofs.Ytadfgadkihlmcaa
