/- Layer 3: the document's own bits of a sequence's parameters. -/
import Derived.Test.YtadfgadkihlmcaaQC
namespace Go.Proofs.Ytadfgadkihlmcaa
open Go.RowKit Zo Zp

/-- What a call that makes bits has under way: the bits, and the box that holds its argument. -/
def Mk (W wr : World) (v : Value) (l : List Bool) (k : Nat) (cs : Array Value) (t : TypeId) : Prop :=
  OwnBits wr W.heap.size v l ∧ Below W.heap.size W wr ∧ wr.heap[k]? = some (.cells cs t (0, 0)) ∧ t ≠ 5

theorem Mk.own {W wr : World} {v : Value} {l : List Bool} {k : Nat} {cs : Array Value} {t : TypeId} (h : Mk W wr v l k cs t) : OwnBits wr W.heap.size v l := h.1
theorem Mk.down {W wr : World} {v : Value} {l : List Bool} {k : Nat} {cs : Array Value} {t : TypeId} (h : Mk W wr v l k cs t) : Below W.heap.size W wr := h.2.1
theorem Mk.cell {W wr : World} {v : Value} {l : List Bool} {k : Nat} {cs : Array Value} {t : TypeId} (h : Mk W wr v l k cs t) (i : Nat) (u : Value) (hu : cs[i]? = some u) : wr.cell? ⟨k, i, none⟩ = some u := by
  rw [cell_of_row wr k i _ _ _ h.2.2.1, hu]
theorem Mk.new {W wr w' : World} {v : Value} {l : List Bool} {k : Nat} {cs : Array Value} {t : TypeId} (h : Mk W wr v l k cs t) (b : Below wr.heap.size wr w') : Mk W w' v l k cs t :=
  ⟨h.1.below b (Nat.le_refl _), h.2.1.trans (b.mono h.2.1.size), (b.block k (row_lt h.2.2.1)).trans h.2.2.1, h.2.2.2⟩
theorem Mk.app {W wr w' : World} {v v' : Value} {l l' : List Bool} {k : Nat} {cs : Array Value} {t : TypeId} (h : Mk W wr v l k cs t) (p : APost wr W.heap.size v l' v' w') : Mk W w' v' l' k cs t := by
  obtain ⟨h1, h2, h3, h4⟩ := h
  obtain ⟨p1, p2, p3⟩ := p
  have hlt := h1.lt
  refine ⟨p1, ⟨p2.os.trans h2.os, p2.tape.trans h2.tape, p2.output.trans h2.output, Nat.le_trans h2.size p2.size, fun i hi => ?_⟩, (p2.block k (row_lt h3) (fun e => ownsRow_ne h1 h3 h4 e.symm)).trans h3, h4⟩
  exact (p2.block i (Nat.lt_of_lt_of_le hi h2.size) (fun e => by have := (hlt i e).1; omega)).trans (h2.block i hi)

theorem bvNews {w : World} {base g cap : Nat} {l : List Bool} (h : OwnBits w base (.slice (some ⟨g, 0, none⟩) l.length cap) l) : ∀ j u, (bv l)[j]? = some u → w.cell? ((⟨g, 0, none⟩ : Addr).add j) = some u := by
  intro j u hj
  have hjl : j < l.length := by
    by_cases hjl : j < l.length
    · exact hjl
    · rw [List.getElem?_eq_none (by rw [bv_length]; omega)] at hj; cases hj
  obtain ⟨g2, cap2, hv, _, _, hc⟩ := h.cell j hjl
  simp only [Value.slice.injEq, Option.some.injEq, Addr.mk.injEq] at hv
  obtain ⟨⟨rfl, _⟩, _⟩ := hv
  rw [addr_at, Nat.zero_add, hc]
  simpa [bv, hjl] using hj

theorem NewBits.down {w w' : World} {v : Value} {l : List Bool} (h : NewBits w w' v l) : Below w.heap.size w w' := by
  obtain ⟨_, _, _, _, _, _, hb⟩ := h
  exact hb

theorem cycleB_snoc (l : List Int) (j : Nat) (h : j < l.length) : cycleB (l.take (j + 1)) = cycleB (l.take j) ++ seB l[j] := by
  unfold cycleB
  rw [List.take_succ_eq_append_getElem h, List.flatMap_append]
  simp

/-- append of bits that a call made, onto bits that are owned. -/
theorem wpList_append_bits {w : World} {ops : Array Oper} {rest : List Oper} {o : Oper} {a : Act} {Q : Exit → Act → World → Prop} (hgd : o.guard = none) (s x : Operand)
    (ho : o.op = .call { callee := .builtin .append, args := #[s, x], argTypes := #[56, 56] })
    (base : Nat) (v : Value) (l : List Bool) (hs : a.eval s = v) (hown : OwnBits w base v l) (hb : base ≤ w.heap.size)
    (w0 : World) (v2 : Value) (l2 : List Bool) (hx : a.eval x = v2) (hn : NewBits w0 w v2 l2) (h0 : 0 < l2.length) (hl : l.length ≤ 1000000000) (hl2 : l2.length ≤ 1000000000)
    (h : ∀ v' w', APost w base v (l ++ l2) v' w' → wpList Try.prog ops Q rest (a.put o.dst v') w') : wpList Try.prog ops Q (o :: rest) a w := by
  obtain ⟨i0, hi, hz0, hz1, hz2⟩ := info_parts Try.info5
  obtain ⟨g, cap, rfl, hg1, hg2, hown2, hbel⟩ := hn
  refine wpList_append_lies _ hgd s x 56 ho base 5 i0 (.int .u8 0) 1 1 Try.underlying56 hi hz0 hz1 hz2 rfl (by decide) v l.length (bv l) hs hown ⟨g, 0, none⟩ l2.length cap (bv l2) hx (by rw [bv_length]; omega) (bvNews hown2) (bv_one _) h0 (by unfold maxLen; omega) (by omega) hb _ rfl ?_
  intro g' cap' w' hown' hgrow' hat' hlt'
  refine h _ w' ⟨?_, (Fr.refl _ _).grown hgrow' (fun k _ e => e), fun k e => ?_⟩
  · unfold OwnBits
    rw [bv_append, List.length_append]
    exact hown'
  · obtain rfl : g' = k := by simpa [Value.ownBlock] using e
    rcases hat' with e1 | e1
    · exact .inl e1
    · exact .inr (by omega)

theorem ueB_pos (x : Nat) (hx : x ≤ 2147483646) : 0 < (ueB x).length := by
  obtain ⟨_, _, h3, _⟩ := Zo.bitLen_spec (x + 1) (by omega) (by omega)
  have := (ueB_length x hx).1
  omega

theorem seB_pos (x : Int) (h1 : -1073741823 ≤ x) (h2 : x ≤ 1073741823) : 0 < (seB x).length := ueB_pos _ (foldedN_le x h1 h2)
theorem seB_le (x : Int) (h1 : -1073741823 ≤ x) (h2 : x ≤ 1073741823) : (seB x).length ≤ 61 := (ueB_length _ (foldedN_le x h1 h2)).2

/-- What PutSps answers. -/
def putSpsAns (s : SpsN) : List Nat × Int := if s.may then (packB (trailed (spsB s)), 0) else ([], 301)

def StrPut (t : List Nat × Int) (w : World) (e : Ending) (w' : World) : Prop := e = .returned (.tuple #[.string (bstr t.1), .int .i64 t.2]) ∧ Below w.heap.size w w'

set_option maxRecDepth 100000 in
theorem refPutSps_no (w : World) (s : SpsN) (a : Option Addr) (cap : Nat) (h : IntRow w a s.cycle) (hl : s.cycle.length ≤ 1000000000) (hm : ¬ s.may) :
    Calls Try.prog 12 #[spsV s a cap] w (StrPut ([], 301) w) := by
  have hb : decide s.may = false := by simpa using hm
  have HM : ∀ o, Calls Try.prog 16 #[spsV s a cap] (w.alloc o) fun e w' => e = .returned (.bool false) ∧ Below (w.alloc o).heap.size (w.alloc o) w' := fun o => by
    have := refMaySps_any (w.alloc o) s a cap (h.alloc o) hl
    rwa [hb] at this
  have HH := Lib.hid HM
  clear HM h hb hm
  obtain ⟨wide, high, fbits, ptype, pbits, nonref, cycle, refs, delay⟩ := s
  unfold spsV at HH ⊢
  go_enter Try.func12, Try.ntmps12
  go_wp2_with fail
  refine (HH.out _).mono ?_
  rintro e w1 ⟨rfl, b1⟩
  have HB := Lib.hid (((Below.refl w.heap.size w).alloc (Nat.le_refl _) (.cells #[.int .i64 wide, .int .i64 high, .int .i64 fbits, .int .i64 ptype, .int .i64 pbits, .int .i64 nonref, .slice a cycle.length cap, .int .i64 refs, .int .i64 delay] 24)).trans (b1.mono (by simp)))
  go_wp2_with fail
  go_ret2
  exact ⟨rfl, HB.out⟩

set_option maxRecDepth 100000 in
set_option maxHeartbeats 3200000 in
theorem refPutSps_yes (w : World) (s : SpsN) (a : Option Addr) (cap : Nat) (h : IntRow w a s.cycle) (hm : s.may) :
    Calls Try.prog 12 #[spsV s a cap] w (StrPut (packB (trailed (spsB s)), 0) w) := by
  have hl : s.cycle.length ≤ 1000000000 := by have := hm.2.2.2.2.2.2.2.2.2.2.2.2.1; omega
  have hb : decide s.may = true := by simpa using hm
  have HM : ∀ o, Calls Try.prog 16 #[spsV s a cap] (w.alloc o) fun e w' => e = .returned (.bool true) ∧ Below (w.alloc o).heap.size (w.alloc o) w' := fun o => by
    have := refMaySps_any (w.alloc o) s a cap (h.alloc o) hl
    rwa [hb] at this
  have HH := Lib.hid HM
  clear HM hb
  obtain ⟨wide, high, fbits, ptype, pbits, nonref, cycle, refs, delay⟩ := s
  obtain ⟨m1, m2, m3, m4, m5, m6, m7, m8, m9, m10, m11, m12, m13, m14, m15, m16, m17, m18, m19, m20, m21⟩ := hm
  simp only at h hl m1 m2 m3 m4 m5 m6 m7 m8 m9 m10 m11 m12 m13 m14 m15 m16 m17 m18 m19 m20 m21
  unfold spsV at HH ⊢
  have hbox := Lib.hid (heap_alloc_last w (.cells #[.int .i64 wide, .int .i64 high, .int .i64 fbits, .int .i64 ptype, .int .i64 pbits, .int .i64 nonref, .slice a cycle.length cap, .int .i64 refs, .int .i64 delay] 24))
  have H := Lib.hid h
  have M14 := Lib.hid m14
  have M15 := Lib.hid m15
  have M16 := Lib.hid m16
  clear h m14 m15 m16 m21
  go_enter Try.func12, Try.ntmps12
  go_wp2_with fail
  refine (HH.out _).mono ?_
  rintro e w1 ⟨rfl, b1⟩
  have K1 : Hid (Mk w w1 (.slice none 0 0) [] w.heap.size #[.int .i64 wide, .int .i64 high, .int .i64 fbits, .int .i64 ptype, .int .i64 pbits, .int .i64 nonref, .slice a cycle.length cap, .int .i64 refs, .int .i64 delay] 24) := ⟨World.ownsRow_nil _ _ _ _, ((Below.refl w.heap.size w).alloc (Nat.le_refl _) _).trans (b1.mono (by simp)), (b1.block _ (by simp)).trans hbox.out, by decide⟩
  have c := K1.out.cell 0 (.int .i64 wide) rfl
  clear b1
  go_wp2_with fail
  refine (ueRef_any _ _ (by omega) (by omega)).mono ?_
  rintro e wa2 ⟨u2, rfl, n2⟩
  have J2 := Lib.hid (K1.out.new n2.down)
  have N2 := Lib.hid n2
  have G2 : (ueB (wide - 1).toNat).length ≤ 61 := (ueB_length _ (by omega)).2
  clear n2 c
  go_wp2_with (refine wpList_append_bits rfl (.tmp 9) (.tmp 13) rfl w.heap.size (.slice none 0 0) [] ?_ J2.out.own J2.out.down.size _ u2 (ueB (wide - 1).toNat) ?_ N2.out ?_ ?_ ?_ ?_; rfl; rfl; exact ueB_pos _ (by omega); (exact Nat.zero_le _); omega; intro v2 w2 p2; have hh := J2.out.app p2; rw [List.nil_append] at hh; have K2 := Lib.hid hh; have c := K2.out.cell 1 (.int .i64 high) rfl; clear p2 hh)
  go_wp2_with fail
  refine (ueRef_any _ _ (by omega) (by omega)).mono ?_
  rintro e wa3 ⟨u3, rfl, n3⟩
  have J3 := Lib.hid (K2.out.new n3.down)
  have N3 := Lib.hid n3
  have G3 : (ueB (high - 1).toNat).length ≤ 61 := (ueB_length _ (by omega)).2
  clear n3 c
  go_wp2_with (refine wpList_append_bits rfl (.tmp 15) (.tmp 19) rfl w.heap.size v2 (ueB (wide - 1).toNat) ?_ J3.out.own J3.out.down.size _ u3 (ueB (high - 1).toNat) ?_ N3.out ?_ ?_ ?_ ?_; rfl; rfl; exact ueB_pos _ (by omega); (first | omega | (simp only [List.length_append]; omega)); omega; intro v3 w3 p3; have K3 := Lib.hid (J3.out.app p3); have c := K3.out.cell 2 (.int .i64 fbits) rfl; clear p3)
  go_wp2_with fail
  refine (ueRef_any _ _ (by omega) (by omega)).mono ?_
  rintro e wa4 ⟨u4, rfl, n4⟩
  have J4 := Lib.hid (K3.out.new n4.down)
  have N4 := Lib.hid n4
  have G4 : (ueB (fbits - 4).toNat).length ≤ 61 := (ueB_length _ (by omega)).2
  clear n4 c
  go_wp2_with (refine wpList_append_bits rfl (.tmp 21) (.tmp 25) rfl w.heap.size v3 ((ueB (wide - 1).toNat) ++ (ueB (high - 1).toNat)) ?_ J4.out.own J4.out.down.size _ u4 (ueB (fbits - 4).toNat) ?_ N4.out ?_ ?_ ?_ ?_; rfl; rfl; exact ueB_pos _ (by omega); (first | omega | (simp only [List.length_append]; omega)); omega; intro v4 w4 p4; have K4 := Lib.hid (J4.out.app p4); have c := K4.out.cell 3 (.int .i64 ptype) rfl; clear p4)
  rcases (show ptype = 0 ∨ ptype = 1 ∨ ptype = 2 by omega) with rfl | rfl | rfl
  · clear HH hbox K1
    go_wp2_with fail
    refine (ueRef_any _ _ (by omega) (by omega)).mono ?_
    rintro e wa5 ⟨u5, rfl, n5⟩
    have J5 := Lib.hid (K4.out.new n5.down)
    have N5 := Lib.hid n5
    have G5 : (ueB ((0 : Int)).toNat).length ≤ 61 := (ueB_length _ (by omega)).2
    clear n5 c
    go_wp2_with (refine wpList_append_bits rfl (.tmp 27) (.tmp 30) rfl w.heap.size v4 (((ueB (wide - 1).toNat) ++ (ueB (high - 1).toNat)) ++ (ueB (fbits - 4).toNat)) ?_ J5.out.own J5.out.down.size _ u5 (ueB ((0 : Int)).toNat) ?_ N5.out ?_ ?_ ?_ ?_; rfl; rfl; exact ueB_pos _ (by omega); (first | omega | (simp only [List.length_append]; omega)); omega; intro v5 w5 p5; have K5 := Lib.hid (J5.out.app p5); have c := K5.out.cell 3 (.int .i64 0) rfl; have c1 := K5.out.cell 4 (.int .i64 pbits) rfl; clear p5)
    go_wp2_with fail
    refine (ueRef_any _ _ (by omega) (by omega)).mono ?_
    rintro e wa6 ⟨u6, rfl, n6⟩
    have J6 := Lib.hid (K5.out.new n6.down)
    have N6 := Lib.hid n6
    have G6 : (ueB (pbits - 4).toNat).length ≤ 61 := (ueB_length _ (by omega)).2
    clear n6 c
    go_wp2_with (refine wpList_append_bits rfl (.tmp 35) (.tmp 39) rfl w.heap.size v5 ((((ueB (wide - 1).toNat) ++ (ueB (high - 1).toNat)) ++ (ueB (fbits - 4).toNat)) ++ (ueB ((0 : Int)).toNat)) ?_ J6.out.own J6.out.down.size _ u6 (ueB (pbits - 4).toNat) ?_ N6.out ?_ ?_ ?_ ?_; rfl; rfl; exact ueB_pos _ (by omega); (first | omega | (simp only [List.length_append]; omega)); omega; intro v6 w6 p6; have K6 := Lib.hid (J6.out.app p6); have c := K6.out.cell 3 (.int .i64 0) rfl; have c1 := K6.out.cell 7 (.int .i64 refs) rfl; clear p6)
    go_wp2_with fail
    refine (ueRef_any _ _ (by omega) (by omega)).mono ?_
    rintro e wa7 ⟨u7, rfl, n7⟩
    have J7 := Lib.hid (K6.out.new n7.down)
    have N7 := Lib.hid n7
    have G7 : (ueB (refs).toNat).length ≤ 61 := (ueB_length _ (by omega)).2
    clear n7 c
    go_wp2_with (refine wpList_append_bits rfl (.tmp 70) (.tmp 73) rfl w.heap.size v6 (((((ueB (wide - 1).toNat) ++ (ueB (high - 1).toNat)) ++ (ueB (fbits - 4).toNat)) ++ (ueB ((0 : Int)).toNat)) ++ (ueB (pbits - 4).toNat)) ?_ J7.out.own J7.out.down.size _ u7 (ueB (refs).toNat) ?_ N7.out ?_ ?_ ?_ ?_; rfl; rfl; exact ueB_pos _ (by omega); (first | omega | (simp only [List.length_append]; omega)); omega; intro v7 w7 p7; have K7 := Lib.hid (J7.out.app p7); have c := K7.out.cell 8 (.int .i64 delay) rfl; clear p7)
    go_wp2_with fail
    refine (ueRef_any _ _ (by omega) (by omega)).mono ?_
    rintro e wa8 ⟨u8, rfl, n8⟩
    have J8 := Lib.hid (K7.out.new n8.down)
    have N8 := Lib.hid n8
    have G8 : (ueB (delay).toNat).length ≤ 61 := (ueB_length _ (by omega)).2
    clear n8 c
    go_wp2_with (refine wpList_append_bits rfl (.tmp 75) (.tmp 78) rfl w.heap.size v7 ((((((ueB (wide - 1).toNat) ++ (ueB (high - 1).toNat)) ++ (ueB (fbits - 4).toNat)) ++ (ueB ((0 : Int)).toNat)) ++ (ueB (pbits - 4).toNat)) ++ (ueB (refs).toNat)) ?_ J8.out.own J8.out.down.size _ u8 (ueB (delay).toNat) ?_ N8.out ?_ ?_ ?_ ?_; rfl; rfl; exact ueB_pos _ (by omega); (first | omega | (simp only [List.length_append]; omega)); omega; intro v8 w8 p8; have K8 := Lib.hid (J8.out.app p8); clear p8)
    go_wp2_with fail
    refine (trailRef_any _ (((((((ueB (wide - 1).toNat) ++ (ueB (high - 1).toNat)) ++ (ueB (fbits - 4).toNat)) ++ (ueB ((0 : Int)).toNat)) ++ (ueB (pbits - 4).toNat)) ++ (ueB (refs).toNat)) ++ (ueB (delay).toNat)) _ w.heap.size K8.out.own K8.out.down.size (by simp only [List.length_append]; omega)).mono ?_
    rintro e wt ⟨vt, rfl, pt⟩
    have e1 : spsB ⟨wide, high, fbits, 0, pbits, nonref, cycle, refs, delay⟩ = (((((((ueB (wide - 1).toNat) ++ (ueB (high - 1).toNat)) ++ (ueB (fbits - 4).toNat)) ++ (ueB ((0 : Int)).toNat)) ++ (ueB (pbits - 4).toNat)) ++ (ueB (refs).toNat)) ++ (ueB (delay).toNat)) := by simp [spsB, midB]
    obtain ⟨LT, hLT⟩ : ∃ LT, trailed (spsB ⟨wide, high, fbits, 0, pbits, nonref, cycle, refs, delay⟩) = LT := ⟨_, rfl⟩
    have hK := K8.out.app pt
    have GT : LT.length ≤ 1000000000 := by rw [← hLT, trailed_length, e1]; simp only [List.length_append]; omega
    rw [show (((((((ueB (wide - 1).toNat) ++ (ueB (high - 1).toNat)) ++ (ueB (fbits - 4).toNat)) ++ (ueB ((0 : Int)).toNat)) ++ (ueB (pbits - 4).toNat)) ++ (ueB (refs).toNat)) ++ (ueB (delay).toNat)) ++ trailB ((((((((ueB (wide - 1).toNat) ++ (ueB (high - 1).toNat)) ++ (ueB (fbits - 4).toNat)) ++ (ueB ((0 : Int)).toNat)) ++ (ueB (pbits - 4).toNat)) ++ (ueB (refs).toNat)) ++ (ueB (delay).toNat))).length = LT from by rw [← hLT, trailed, e1]] at hK
    have KT := Lib.hid hK
    have HL := Lib.hid hLT
    clear pt e1 hLT hK
    go_wp2_with fail
    refine (pack_any _ LT _ w.heap.size KT.out.own GT).mono ?_
    rintro e wp ⟨rfl, bp⟩
    go_wp2_with fail
    go_ret2
    rw [HL.out]
    exact ⟨rfl, KT.out.down.trans (bp.mono KT.out.down.size)⟩
  · clear HH hbox K1
    go_wp2_with fail
    refine (ueRef_any _ _ (by omega) (by omega)).mono ?_
    rintro e wa5 ⟨u5, rfl, n5⟩
    have J5 := Lib.hid (K4.out.new n5.down)
    have N5 := Lib.hid n5
    have G5 : (ueB ((1 : Int)).toNat).length ≤ 61 := (ueB_length _ (by omega)).2
    clear n5 c
    go_wp2_with (refine wpList_append_bits rfl (.tmp 27) (.tmp 30) rfl w.heap.size v4 (((ueB (wide - 1).toNat) ++ (ueB (high - 1).toNat)) ++ (ueB (fbits - 4).toNat)) ?_ J5.out.own J5.out.down.size _ u5 (ueB ((1 : Int)).toNat) ?_ N5.out ?_ ?_ ?_ ?_; rfl; rfl; exact ueB_pos _ (by omega); (first | omega | (simp only [List.length_append]; omega)); omega; intro v5 w5 p5; have K5 := Lib.hid (J5.out.app p5); have c := K5.out.cell 3 (.int .i64 1) rfl; have c1 := K5.out.cell 5 (.int .i64 nonref) rfl; clear p5)
    go_wp2_with fail
    refine (seRef_any _ _ (by omega) (by omega)).mono ?_
    rintro e wa6 ⟨u6, rfl, n6⟩
    have J6 := Lib.hid (K5.out.new n6.down)
    have N6 := Lib.hid n6
    have G6 : (seB nonref).length ≤ 61 := seB_le _ (by omega) (by omega)
    clear n6 c
    go_wp2_with (refine wpList_append_bits rfl (.tmp 44) (.tmp 47) rfl w.heap.size v5 ((((ueB (wide - 1).toNat) ++ (ueB (high - 1).toNat)) ++ (ueB (fbits - 4).toNat)) ++ (ueB ((1 : Int)).toNat)) ?_ J6.out.own J6.out.down.size _ u6 (seB nonref) ?_ N6.out ?_ ?_ ?_ ?_; rfl; rfl; exact seB_pos _ (by omega) (by omega); (first | omega | (simp only [List.length_append]; omega)); omega; intro v6 w6 p6; have K6 := Lib.hid (J6.out.app p6); have c := K6.out.cell 6 (.slice a cycle.length cap) rfl; clear p6)
    go_wp2_with fail
    refine (ueRef_any _ _ (by omega) (by omega)).mono ?_
    rintro e wa7 ⟨u7, rfl, n7⟩
    have J7 := Lib.hid (K6.out.new n7.down)
    have N7 := Lib.hid n7
    have G7 : (ueB ((cycle.length : Int)).toNat).length ≤ 61 := (ueB_length _ (by omega)).2
    clear n7 c
    go_wp2_with (refine wpList_append_bits rfl (.tmp 49) (.tmp 53) rfl w.heap.size v6 (((((ueB (wide - 1).toNat) ++ (ueB (high - 1).toNat)) ++ (ueB (fbits - 4).toNat)) ++ (ueB ((1 : Int)).toNat)) ++ (seB nonref)) ?_ J7.out.own J7.out.down.size _ u7 (ueB ((cycle.length : Int)).toNat) ?_ N7.out ?_ ?_ ?_ ?_; rfl; rfl; exact ueB_pos _ (by omega); (first | omega | (simp only [List.length_append]; omega)); omega; intro v7 w7 p7; have K7 := Lib.hid (J7.out.app p7); have c := K7.out.cell 6 (.slice a cycle.length cap) rfl; clear p7)
    have GP : ((((((ueB (wide - 1).toNat) ++ (ueB (high - 1).toNat)) ++ (ueB (fbits - 4).toNat)) ++ (ueB ((1 : Int)).toNat)) ++ (seB nonref)) ++ (ueB ((cycle.length : Int)).toNat)).length ≤ 427 := by simp only [List.length_append]; omega
    clear c
    go_loopg [4, 5] cycle.length (fun q v i wr => ∃ (ov : Value) (j : Nat) (l : List Bool), ov = v ∧ j + q = cycle.length ∧ i = .int .i64 (j : Int) ∧ l.length ≤ 427 + 61 * j ∧ Aside (l = ((((((ueB (wide - 1).toNat) ++ (ueB (high - 1).toNat)) ++ (ueB (fbits - 4).toNat)) ++ (ueB ((1 : Int)).toNat)) ++ (seB nonref)) ++ (ueB ((cycle.length : Int)).toNat)) ++ cycleB (cycle.take j)) ∧ Hid (Mk w wr ov l w.heap.size #[.int .i64 wide, .int .i64 high, .int .i64 fbits, .int .i64 1, .int .i64 pbits, .int .i64 nonref, .slice a cycle.length cap, .int .i64 refs, .int .i64 delay] 24))
    case atStart => exact ⟨_, 0, _, rfl, by omega, rfl, GP, (by simp [cycleB] : ((((((ueB (wide - 1).toNat) ++ (ueB (high - 1).toNat)) ++ (ueB (fbits - 4).toNat)) ++ (ueB ((1 : Int)).toNat)) ++ (seB nonref)) ++ (ueB ((cycle.length : Int)).toNat)) = ((((((ueB (wide - 1).toNat) ++ (ueB (high - 1).toNat)) ++ (ueB (fbits - 4).toNat)) ++ (ueB ((1 : Int)).toNat)) ++ (seB nonref)) ++ (ueB ((cycle.length : Int)).toNat)) ++ cycleB (cycle.take 0)), K7⟩
    case round =>
      obtain ⟨ov, j, l, rfl, hq, rfl, hll, AL, K20⟩ := hrel
      have c := K20.out.cell 6 (.slice a cycle.length cap) rfl
      by_cases hlt : j < cycle.length
      · obtain ⟨g, og, rfl, hg, hc⟩ := (H.out.below K20.out.down (Nat.le_refl _)).at hlt
        have hx := M14.out cycle[j] (List.getElem_mem hlt)
        have hx1 := hx.1
        have hx2 := hx.2
        have HT := Lib.hid (show cycleB (cycle.take (j + 1)) = cycleB (cycle.take j) ++ seB cycle[j] from cycleB_snoc cycle j hlt)
        clear hx
        generalize cycle[j] = x at *
        go_wp2_with fail
        refine (seRef_any _ _ (by omega) (by omega)).mono ?_
        rintro e wa21 ⟨u21, rfl, n21⟩
        have J21 := Lib.hid (K20.out.new n21.down)
        have N21 := Lib.hid n21
        have G21 : (seB x).length ≤ 61 := seB_le _ (by omega) (by omega)
        clear n21 c
        go_wp2_with (refine wpList_append_bits rfl (.tmp 62) (.tmp 68) rfl w.heap.size ov l ?_ J21.out.own J21.out.down.size _ u21 (seB x) ?_ N21.out ?_ ?_ ?_ ?_; rfl; rfl; exact seB_pos _ (by omega) (by omega); (first | omega | (simp only [List.length_append]; omega)); omega; intro v21 w21 p21; have K21 := Lib.hid (J21.out.app p21); clear p21)
        go_roundg (gk - 1)
        case measure => omega
        case rel => exact ⟨_, j + 1, _, rfl, by omega, by go_num, by rw [List.length_append]; omega, (by rw [HT.out, AL, List.append_assoc] : l ++ seB x = ((((((ueB (wide - 1).toNat) ++ (ueB (high - 1).toNat)) ++ (ueB (fbits - 4).toNat)) ++ (ueB ((1 : Int)).toNat)) ++ (seB nonref)) ++ (ueB ((cycle.length : Int)).toNat)) ++ cycleB (cycle.take (j + 1))), K21⟩
      · obtain rfl : j = cycle.length := by omega
        rw [List.take_length] at AL
        have c1 := K20.out.cell 7 (.int .i64 refs) rfl
        go_wp2_with fail
        refine (ueRef_any _ _ (by omega) (by omega)).mono ?_
        rintro e wa21 ⟨u21, rfl, n21⟩
        have J21 := Lib.hid (K20.out.new n21.down)
        have N21 := Lib.hid n21
        have G21 : (ueB (refs).toNat).length ≤ 61 := (ueB_length _ (by omega)).2
        clear n21 c
        go_wp2_with (refine wpList_append_bits rfl (.tmp 70) (.tmp 73) rfl w.heap.size ov l ?_ J21.out.own J21.out.down.size _ u21 (ueB (refs).toNat) ?_ N21.out ?_ ?_ ?_ ?_; rfl; rfl; exact ueB_pos _ (by omega); (first | omega | (simp only [List.length_append]; omega)); omega; intro v21 w21 p21; have K21 := Lib.hid (J21.out.app p21); have c := K21.out.cell 8 (.int .i64 delay) rfl; clear p21)
        go_wp2_with fail
        refine (ueRef_any _ _ (by omega) (by omega)).mono ?_
        rintro e wa22 ⟨u22, rfl, n22⟩
        have J22 := Lib.hid (K21.out.new n22.down)
        have N22 := Lib.hid n22
        have G22 : (ueB (delay).toNat).length ≤ 61 := (ueB_length _ (by omega)).2
        clear n22 c
        go_wp2_with (refine wpList_append_bits rfl (.tmp 75) (.tmp 78) rfl w.heap.size v21 (l ++ (ueB (refs).toNat)) ?_ J22.out.own J22.out.down.size _ u22 (ueB (delay).toNat) ?_ N22.out ?_ ?_ ?_ ?_; rfl; rfl; exact ueB_pos _ (by omega); (first | omega | (simp only [List.length_append]; omega)); omega; intro v22 w22 p22; have K22 := Lib.hid (J22.out.app p22); clear p22)
        go_wp2_with fail
        refine (trailRef_any _ ((l ++ (ueB (refs).toNat)) ++ (ueB (delay).toNat)) _ w.heap.size K22.out.own K22.out.down.size (by simp only [List.length_append]; omega)).mono ?_
        rintro e wt ⟨vt, rfl, pt⟩
        have e2 : l = ((((((ueB (wide - 1).toNat) ++ (ueB (high - 1).toNat)) ++ (ueB (fbits - 4).toNat)) ++ (ueB ((1 : Int)).toNat)) ++ (seB nonref)) ++ (ueB ((cycle.length : Int)).toNat)) ++ cycleB cycle := AL
        have e1 : spsB ⟨wide, high, fbits, 1, pbits, nonref, cycle, refs, delay⟩ = ((l ++ (ueB (refs).toNat)) ++ (ueB (delay).toNat)) := by rw [e2]; simp [spsB, midB]
        obtain ⟨LT, hLT⟩ : ∃ LT, trailed (spsB ⟨wide, high, fbits, 1, pbits, nonref, cycle, refs, delay⟩) = LT := ⟨_, rfl⟩
        have hK := K22.out.app pt
        have GT : LT.length ≤ 1000000000 := by rw [← hLT, trailed_length, e1]; simp only [List.length_append]; omega
        rw [show ((l ++ (ueB (refs).toNat)) ++ (ueB (delay).toNat)) ++ trailB (((l ++ (ueB (refs).toNat)) ++ (ueB (delay).toNat))).length = LT from by rw [← hLT, trailed, e1]] at hK
        have KT := Lib.hid hK
        have HL := Lib.hid hLT
        clear pt e1 hLT hK e2
        go_wp2_with fail
        refine (pack_any _ LT _ w.heap.size KT.out.own GT).mono ?_
        rintro e wp ⟨rfl, bp⟩
        go_wp2_with fail
        go_ret2
        rw [HL.out]
        exact ⟨rfl, KT.out.down.trans (bp.mono KT.out.down.size)⟩
  · clear HH hbox K1
    go_wp2_with fail
    refine (ueRef_any _ _ (by omega) (by omega)).mono ?_
    rintro e wa5 ⟨u5, rfl, n5⟩
    have J5 := Lib.hid (K4.out.new n5.down)
    have N5 := Lib.hid n5
    have G5 : (ueB ((2 : Int)).toNat).length ≤ 61 := (ueB_length _ (by omega)).2
    clear n5 c
    go_wp2_with (refine wpList_append_bits rfl (.tmp 27) (.tmp 30) rfl w.heap.size v4 (((ueB (wide - 1).toNat) ++ (ueB (high - 1).toNat)) ++ (ueB (fbits - 4).toNat)) ?_ J5.out.own J5.out.down.size _ u5 (ueB ((2 : Int)).toNat) ?_ N5.out ?_ ?_ ?_ ?_; rfl; rfl; exact ueB_pos _ (by omega); (first | omega | (simp only [List.length_append]; omega)); omega; intro v5 w5 p5; have K5 := Lib.hid (J5.out.app p5); have c := K5.out.cell 3 (.int .i64 2) rfl; have c1 := K5.out.cell 7 (.int .i64 refs) rfl; clear p5)
    go_wp2_with fail
    refine (ueRef_any _ _ (by omega) (by omega)).mono ?_
    rintro e wa6 ⟨u6, rfl, n6⟩
    have J6 := Lib.hid (K5.out.new n6.down)
    have N6 := Lib.hid n6
    have G6 : (ueB (refs).toNat).length ≤ 61 := (ueB_length _ (by omega)).2
    clear n6 c
    go_wp2_with (refine wpList_append_bits rfl (.tmp 70) (.tmp 73) rfl w.heap.size v5 ((((ueB (wide - 1).toNat) ++ (ueB (high - 1).toNat)) ++ (ueB (fbits - 4).toNat)) ++ (ueB ((2 : Int)).toNat)) ?_ J6.out.own J6.out.down.size _ u6 (ueB (refs).toNat) ?_ N6.out ?_ ?_ ?_ ?_; rfl; rfl; exact ueB_pos _ (by omega); (first | omega | (simp only [List.length_append]; omega)); omega; intro v6 w6 p6; have K6 := Lib.hid (J6.out.app p6); have c := K6.out.cell 8 (.int .i64 delay) rfl; clear p6)
    go_wp2_with fail
    refine (ueRef_any _ _ (by omega) (by omega)).mono ?_
    rintro e wa7 ⟨u7, rfl, n7⟩
    have J7 := Lib.hid (K6.out.new n7.down)
    have N7 := Lib.hid n7
    have G7 : (ueB (delay).toNat).length ≤ 61 := (ueB_length _ (by omega)).2
    clear n7 c
    go_wp2_with (refine wpList_append_bits rfl (.tmp 75) (.tmp 78) rfl w.heap.size v6 (((((ueB (wide - 1).toNat) ++ (ueB (high - 1).toNat)) ++ (ueB (fbits - 4).toNat)) ++ (ueB ((2 : Int)).toNat)) ++ (ueB (refs).toNat)) ?_ J7.out.own J7.out.down.size _ u7 (ueB (delay).toNat) ?_ N7.out ?_ ?_ ?_ ?_; rfl; rfl; exact ueB_pos _ (by omega); (first | omega | (simp only [List.length_append]; omega)); omega; intro v7 w7 p7; have K7 := Lib.hid (J7.out.app p7); clear p7)
    go_wp2_with fail
    refine (trailRef_any _ ((((((ueB (wide - 1).toNat) ++ (ueB (high - 1).toNat)) ++ (ueB (fbits - 4).toNat)) ++ (ueB ((2 : Int)).toNat)) ++ (ueB (refs).toNat)) ++ (ueB (delay).toNat)) _ w.heap.size K7.out.own K7.out.down.size (by simp only [List.length_append]; omega)).mono ?_
    rintro e wt ⟨vt, rfl, pt⟩
    have e1 : spsB ⟨wide, high, fbits, 2, pbits, nonref, cycle, refs, delay⟩ = ((((((ueB (wide - 1).toNat) ++ (ueB (high - 1).toNat)) ++ (ueB (fbits - 4).toNat)) ++ (ueB ((2 : Int)).toNat)) ++ (ueB (refs).toNat)) ++ (ueB (delay).toNat)) := by simp [spsB, midB]
    obtain ⟨LT, hLT⟩ : ∃ LT, trailed (spsB ⟨wide, high, fbits, 2, pbits, nonref, cycle, refs, delay⟩) = LT := ⟨_, rfl⟩
    have hK := K7.out.app pt
    have GT : LT.length ≤ 1000000000 := by rw [← hLT, trailed_length, e1]; simp only [List.length_append]; omega
    rw [show ((((((ueB (wide - 1).toNat) ++ (ueB (high - 1).toNat)) ++ (ueB (fbits - 4).toNat)) ++ (ueB ((2 : Int)).toNat)) ++ (ueB (refs).toNat)) ++ (ueB (delay).toNat)) ++ trailB (((((((ueB (wide - 1).toNat) ++ (ueB (high - 1).toNat)) ++ (ueB (fbits - 4).toNat)) ++ (ueB ((2 : Int)).toNat)) ++ (ueB (refs).toNat)) ++ (ueB (delay).toNat))).length = LT from by rw [← hLT, trailed, e1]] at hK
    have KT := Lib.hid hK
    have HL := Lib.hid hLT
    clear pt e1 hLT hK
    go_wp2_with fail
    refine (pack_any _ LT _ w.heap.size KT.out.own GT).mono ?_
    rintro e wp ⟨rfl, bp⟩
    go_wp2_with fail
    go_ret2
    rw [HL.out]
    exact ⟨rfl, KT.out.down.trans (bp.mono KT.out.down.size)⟩
end Go.Proofs.Ytadfgadkihlmcaa
