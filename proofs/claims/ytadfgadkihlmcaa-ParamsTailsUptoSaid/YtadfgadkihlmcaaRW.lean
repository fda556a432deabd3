/- Layer 3: the program's MaySps, and its GetSps. -/
import Derived.Test.YtadfgadkihlmcaaQR
import Derived.Test.YtadfgadkihlmcaaRV
import Derived.Deep.RegionHeld3
import Derived.Laws.Unary
namespace Go.Proofs.Ytadfgadkihlmcaa
open Go.RowKit Zo Zp
set_option linter.unusedVariables false

theorem Kp.row {w : World} {kb : Nat} (h : Kp w kb) : ∃ cs, w.heap[kb]? = some (.cells cs 83 (0, 0)) := by rcases h with h | h <;> exact ⟨_, h⟩

/-- append of an integer, in a region whose order is drawn. -/
theorem step_append_int {ops : Array Oper} {o : Oper} {a : Act} {K : Act → World → Prop} {Q : Exit → Act → World → Prop} {E : Prop} (hgd : o.guard = none) (s x : Operand)
    (ho : o.op = .call { callee := .builtin .append, args := #[s, x], argTypes := #[22, 22] })
    (base : Nat) (v : Value) (l : List Int) (hs : a.eval s = v) {w0 : World} {z : Int} (hown : Own3 w0 base v l) (hb : base ≤ w0.heap.size) (hl : l.length ≤ 1000000)
    (hx : a.eval x = .slice (some ⟨w0.heap.size, 0, none⟩) 1 1)
    (h : ∀ g cap w', Own3 w' base (.slice (some ⟨g, 0, none⟩) (l.length + 1) cap) (l ++ [z]) → Fr (fun k => v.ownBlock = some k) w0 w' → K (a.put o.dst (.slice (some ⟨g, 0, none⟩) (l.length + 1) cap)) w') :
    if Region.wanted o (yielded ops a.tmps) = true then Oper.wp Try.prog o a (w0.alloc (.cells #[.int .i64 z] 3)) K Q else E := by
  obtain ⟨i0, hi, hz0, hz1, hz2⟩ := info_parts info3
  refine step_append_lies _ hgd s x 22 ho base 3 i0 (.int .i64 0) 1 8 Try.underlying22 hi hz0 hz1 hz2 rfl (by decide) v l.length (iv l) hs (World.ownsRow.alloc hown _) ⟨w0.heap.size, 0, none⟩ 1 1 [.int .i64 z] hx rfl (cell_one_new _ _ _) (by simp [Value.oneCell']) (by decide) (by unfold maxLen; omega) (by omega) (by simp; omega) _ rfl ?_
  intro g' cap' w' hown' hgrow' hat' hlt'
  refine h _ _ w' ?_ (((Fr.refl _ _).alloc _).grown hgrow' (fun k _ e => e))
  unfold Own3
  rw [iv_append, List.length_append]
  exact hown'

theorem mayPpsOk : MayPpsOk := mayPps_is

set_option maxRecDepth 100000 in
set_option maxHeartbeats 4000000 in
theorem maySpsOk : MaySpsOk := by
  intro s a cap w h hl
  obtain ⟨wide, high, fbits, ptype, pbits, nonref, cycle, refs, delay⟩ := s
  have hK := maySpsK ((w.alloc (.cells #[.int .i64 wide, .int .i64 high, .int .i64 fbits, .int .i64 ptype, .int .i64 pbits, .int .i64 nonref, .slice a cycle.length cap, .int .i64 refs, .int .i64 delay] 24)).alloc (.cells kpZ 83)) (w.heap.size + 1) ⟨wide, high, fbits, ptype, pbits, nonref, cycle, refs, delay⟩ a cap
  unfold spsV at hK ⊢
  simp only at h hl hK ⊢
  obtain ⟨x1, x2, f0⟩ := two_boxes w #[.int .i64 wide, .int .i64 high, .int .i64 fbits, .int .i64 ptype, .int .i64 pbits, .int .i64 nonref, .slice a cycle.length cap, .int .i64 refs, .int .i64 delay] kpZ 24 83
  have hK2 := hK (.inl x2) ((h.alloc _).alloc _) (fun hne g hg => by
    obtain ⟨b, o, e1, e2, _⟩ := h hne
    rw [e1] at hg
    cases hg
    simp only
    omega) hl
  have HK := Lib.hid hK2
  have D := Lib.hid (((Below.refl w.heap.size w).alloc (Nat.le_refl _) (.cells #[.int .i64 wide, .int .i64 high, .int .i64 fbits, .int .i64 ptype, .int .i64 pbits, .int .i64 nonref, .slice a cycle.length cap, .int .i64 refs, .int .i64 delay] 24)).alloc (by simp) (.cells kpZ 83))
  have c0 := cell_of_row _ w.heap.size 0 _ _ _ x1
  have c1 := cell_of_row _ w.heap.size 1 _ _ _ x1
  have c2 := cell_of_row _ w.heap.size 2 _ _ _ x1
  have c3 := cell_of_row _ w.heap.size 3 _ _ _ x1
  have c4 := cell_of_row _ w.heap.size 4 _ _ _ x1
  have c5 := cell_of_row _ w.heap.size 5 _ _ _ x1
  have c6 := cell_of_row _ w.heap.size 6 _ _ _ x1
  have c7 := cell_of_row _ w.heap.size 7 _ _ _ x1
  have c8 := cell_of_row _ w.heap.size 8 _ _ _ x1
  simp at c0 c1 c2 c3 c4 c5 c6 c7 c8
  clear hK hK2 x1 x2 f0 h
  go_enter Try.func15, Try.ntmps15
  go_wp2_with fail
  refine HK.out.mono ?_
  rintro e w1 ⟨rfl, k1, f1⟩
  have D1 := Lib.hid (below_fr D.out (Nat.le_refl _) f1 (fun k e => by omega))
  clear k1 f1
  go_wp2_with fail
  go_ret
  exact ⟨rfl, D1.out⟩

/-- GetSps under way, its keeper besides. -/
def Gk (W : World) (ob b rb sb kb : Nat) (s : ByteArray) (st : Option Nat) (zs cs : Array Value) (cv : Value) (cy : List Int) (wr : World) : Prop :=
  Gp W wr 24 ob b rb sb s st zs cs ∧ Kp wr kb ∧ W.heap.size ≤ kb ∧ Own3 wr W.heap.size cv cy

section
variable {W wr w' : World} {ob b rb sb kb : Nat} {s : ByteArray} {st : Option Nat} {zs cs : Array Value} {cv : Value} {cy : List Int}

theorem Gp.keep {S : Nat → Prop} {T : TypeId} (h : Gp W wr T ob b rb sb s st zs cs) (f : Fr S wr w') (h1 : ¬ S b) (h2 : ¬ S rb) (h3 : ¬ S sb) (h4 : ¬ S ob) (hS : ∀ k, S k → k < wr.heap.size → W.heap.size ≤ k) : Gp W w' T ob b rb sb s st zs cs := by
  obtain ⟨g1, g2, g3, g4, g5, g6⟩ := h
  refine ⟨g1.keep f h1 h2, (f.block sb (row_lt g2) h3).trans g2, (f.block ob (row_lt g3) h4).trans g3, g4, ?_, g6⟩
  refine ⟨f.os.trans g5.os, f.tape.trans g5.tape, f.output.trans g5.output, Nat.le_trans g5.size f.size, fun i hi => (f.block i (Nat.lt_of_lt_of_le hi g5.size) (fun hs => ?_)).trans (g5.block i hi)⟩
  have := hS i hs (Nat.lt_of_lt_of_le hi g5.size)
  omega

theorem Gk.types (h : Gk W ob b rb sb kb s st zs cs cv cy wr) : kb ≠ b ∧ kb ≠ rb ∧ kb ≠ sb ∧ kb ≠ ob := by
  obtain ⟨g, hk, _, _⟩ := h
  obtain ⟨cs0, hc⟩ := hk.row
  obtain ⟨⟨rc, hrc⟩, _⟩ := g.rd.reader
  exact ⟨ne_of_type hc g.1.1 (by decide), ne_of_type hc hrc (by decide), ne_of_type hc g.2.1 (by decide), ne_of_type hc g.2.2.1 (by decide)⟩

theorem Gk.call {st' : Option Nat} {v : Value} {e : Ending} (h : Gk W ob b rb sb kb s st zs cs cv cy wr) (p : PSt wr W.heap.size b rb s v st' e w') : Gk W ob b rb sb kb s st' zs cs cv cy w' := by
  obtain ⟨n1, n2, _, _⟩ := h.types
  obtain ⟨g, hk, hb, ho⟩ := h
  obtain ⟨⟨rc, hrc⟩, _⟩ := g.rd.reader
  refine ⟨g.call p, hk.keep p.2.2 (fun e => by omega), hb, ho.keep p.2.2 (fun k cs0 hk0 => ?_)⟩
  rintro (e | e)
  · exact ne_of_type hk0 g.1.1 (by decide) e
  · exact ne_of_type hk0 hrc (by decide) e

theorem Gk.set (h : Gk W ob b rb sb kb s st zs cs cv cy wr) (i : Nat) (u : Value) : Gk W ob b rb sb kb s st zs (cs.setIfInBounds i u) cv cy (wr.setCell ⟨sb, i, none⟩ u) := by
  obtain ⟨_, _, n3, _⟩ := h.types
  obtain ⟨g, hk, hb, ho⟩ := h
  have f : Fr (fun k => k = sb) wr (wr.setCell ⟨sb, i, none⟩ u) := Fr.setCell (S := fun k => k = sb) (Fr.refl _ _) (fun _ => rfl) u
  exact ⟨g.set i u, hk.keep f n3, hb, ho.keep f (fun _ _ hk0 e => ne_of_type g.2.1 hk0 (by decide) e.symm)⟩

theorem Gk.ask (h : Gk W ob b rb sb kb s st zs cs cv cy wr) (p : Kp w' kb) (f : Fr (fun k => k = kb) wr w') : Gk W ob b rb sb kb s st zs cs cv cy w' := by
  obtain ⟨n1, n2, n3, n4⟩ := h.types
  obtain ⟨g, hk, hb, ho⟩ := h
  obtain ⟨cs0, hc⟩ := hk.row
  exact ⟨g.keep f (fun e => n1 e.symm) (fun e => n2 e.symm) (fun e => n3 e.symm) (fun e => n4 e.symm) (fun k e _ => by omega), p, hb, ho.keep f (fun _ _ hk0 e => ne_of_type hc hk0 (by decide) e.symm)⟩

theorem Gk.below (h : Gk W ob b rb sb kb s st zs cs cv cy wr) (f : Below wr.heap.size wr w') : Gk W ob b rb sb kb s st zs cs cv cy w' := by
  obtain ⟨g, hk, hb, ho⟩ := h
  have f' : Fr (fun _ => False) wr w' := Fr.of_below f
  exact ⟨g.keep f' (fun e => e) (fun e => e) (fun e => e) (fun e => e) (fun _ e _ => e.elim), hk.keep f' (fun e => e), hb, ho.keep f' (fun _ _ _ e => e)⟩

theorem Gk.alloc (h : Gk W ob b rb sb kb s st zs cs cv cy wr) (x : Obj) : Gk W ob b rb sb kb s st zs cs cv cy (wr.alloc x) := h.below ((Below.refl _ _).alloc (Nat.le_refl _) x)

theorem Gk.cell (h : Gk W ob b rb sb kb s st zs cs cv cy wr) (i : Nat) (u : Value) (hu : cs[i]? = some u) : wr.cell? ⟨sb, i, none⟩ = some u ∧ wr.frozen? ⟨sb, i, none⟩ = false := h.1.cell i u hu

theorem Gk.drew (h : Gk W ob b rb sb kb s st zs cs cv cy wr) : Gk W ob b rb sb kb s st zs cs cv cy wr.drew :=
  h.below ⟨rfl, rfl, rfl, Nat.le_refl _, fun _ _ => rfl⟩

theorem Gk.store {cs' : Array Value} (h : Gk W ob b rb sb kb s st zs cs cv cy wr) (hz : w'.heap[sb]? = some (.cells cs' 24 (0, 0))) (f : Fr (fun k => k = sb) wr w') : Gk W ob b rb sb kb s st zs cs' cv cy w' := by
  obtain ⟨_, _, n3, _⟩ := h.types
  obtain ⟨g, hk, hb, ho⟩ := h
  obtain ⟨⟨rc, hrc⟩, _⟩ := g.rd.reader
  have g' := g
  obtain ⟨g1, g2, g3, g4, g5, g6⟩ := g
  have e1 : ¬ b = sb := ne_of_type g1.1 g2 (by decide)
  have e2 : ¬ rb = sb := ne_of_type hrc g2 (by decide)
  refine ⟨⟨g1.keep f e1 e2, hz, (f.block ob (row_lt g3) g4.1).trans g3, g4, below_fr g5 (Nat.le_refl _) f (fun k e => by omega), g6⟩, hk.keep f n3, hb, ho.keep f (fun _ _ hk0 e => ne_of_type g2 hk0 (by decide) e.symm)⟩

theorem Gk.start {w1 : World} {zs cs : Array Value} (hr : Rd w1 W.heap.size (W.heap.size + 2) s 0) (f : Fr (fun _ => False) ((W.alloc (.cells zs 24)).alloc (.cells kpZ 83)) w1) (hz : w1.heap.size = W.heap.size + 3) :
    Gk W W.heap.size w1.heap.size (W.heap.size + 2) (w1.heap.size + 1) (W.heap.size + 1) s (some 0) zs cs (.slice none 0 0) [] ((w1.alloc (.cells #[.pointer (some ⟨W.heap.size + 2, 0, none⟩), .bool false] 88)).alloc (.cells cs 24)) := by
  obtain ⟨x1, x2, f0⟩ := two_boxes W zs kpZ 24 83
  obtain ⟨y1, y2, f2⟩ := two_boxes w1 #[.pointer (some ⟨W.heap.size + 2, 0, none⟩), .bool false] cs 88 24
  have r0 := (f.block W.heap.size (by simp; omega) (fun e => e)).trans x1
  have r1 := (f.block (W.heap.size + 1) (by simp) (fun e => e)).trans x2
  refine ⟨⟨⟨y1, by omega, 0, hr.fr f2 (fun e => e), fun q hq => by simpa using hq⟩, y2, (f2.block _ (row_lt r0) (fun e => e)).trans r0, ⟨by omega, by omega, Nat.le_refl _⟩, ?_, by decide⟩, .inl ((f2.block _ (row_lt r1) (fun e => e)).trans r1), by omega, World.ownsRow_nil _ _ _ _⟩
  have d0 := ((Below.refl W.heap.size W).alloc (Nat.le_refl _) (.cells zs 24)).alloc (by simp) (.cells kpZ 83)
  exact below_fr (below_fr d0 (Nat.le_refl _) f (fun _ e => e.elim)) (Nat.le_refl _) f2 (fun _ e => e.elim)

/-- Behind an append. -/
theorem Gk.app {cv' : Value} {cy' : List Int} (h : Gk W ob b rb sb kb s st zs cs cv cy wr) (f : Fr (fun k => cv.ownBlock = some k) wr w') (o : Own3 w' W.heap.size cv' cy') : Gk W ob b rb sb kb s st zs cs cv' cy' w' := by
  obtain ⟨g, hk, hb, ho⟩ := h
  obtain ⟨cs0, hc⟩ := hk.row
  obtain ⟨⟨rc, hrc⟩, _⟩ := g.rd.reader
  have no : ∀ k a t, wr.heap[k]? = some (.cells a t (0, 0)) → t ≠ 3 → ¬ cv.ownBlock = some k := fun k a t hk0 hne e => by
    obtain ⟨_, c1, hc1⟩ := ho.block k e
    exact ne_of_type hk0 hc1 hne rfl
  exact ⟨g.keep f (no _ _ _ g.1.1 (by decide)) (no _ _ _ hrc (by decide)) (no _ _ _ g.2.1 (by decide)) (no _ _ _ g.2.2.1 (by decide)) (fun k e _ => (ho.block k e).1), hk.keep f (no _ _ _ hc (by decide)), hb, o⟩
end


set_option maxRecDepth 100000 in
set_option maxHeartbeats 8000000 in
theorem getSpsOk : GetSpsOk := by
  intro s w hs
  obtain ⟨q, hq⟩ := past_exists s
  have HQ := Lib.hid hq
  obtain ⟨x1_, x2_, f0_⟩ := two_boxes w #[.int .i64 0, .int .i64 0, .int .i64 0, .int .i64 0, .int .i64 0, .int .i64 0, .slice none 0 0, .int .i64 0, .int .i64 0] kpZ 24 83
  have HO := Lib.hid (open_any s ((w.alloc (.cells #[.int .i64 0, .int .i64 0, .int .i64 0, .int .i64 0, .int .i64 0, .int .i64 0, .slice none 0 0, .int .i64 0, .int .i64 0] 24)).alloc (.cells kpZ 83)) w.heap.size (by simp; omega) (by omega))
  have X1 := Lib.hid x1_
  have X2 := Lib.hid x2_
  have F0 := Lib.hid f0_
  rw [gotSps_run]
  clear hq x1_ x2_ f0_
  obtain ⟨⟨x1, t1⟩, h1⟩ : ∃ X, sUe (bitAt s) (8 * s.size) (some 0) = X := ⟨_, rfl⟩
  have B1 : x1 ≤ 2147483646 := by have := sUe_le (bitAt s) (8 * s.size) (some 0); rw [h1] at this; exact this
  obtain ⟨⟨x2, t2⟩, h2⟩ : ∃ X, sUe (bitAt s) (8 * s.size) t1 = X := ⟨_, rfl⟩
  have B2 : x2 ≤ 2147483646 := by have := sUe_le (bitAt s) (8 * s.size) t1; rw [h2] at this; exact this
  obtain ⟨⟨x3, t3⟩, h3⟩ : ∃ X, sUe (bitAt s) (8 * s.size) t2 = X := ⟨_, rfl⟩
  have B3 : x3 ≤ 2147483646 := by have := sUe_le (bitAt s) (8 * s.size) t2; rw [h3] at this; exact this
  obtain ⟨⟨x4, t4⟩, h4⟩ : ∃ X, sUe (bitAt s) (8 * s.size) t3 = X := ⟨_, rfl⟩
  have B4 : x4 ≤ 2147483646 := by have := sUe_le (bitAt s) (8 * s.size) t3; rw [h4] at this; exact this
  have hrun : runSps (bitAt s) (8 * s.size) = sRest (bitAt s) (8 * s.size) ((x1 : Int) + 1) ((x2 : Int) + 1) ((x3 : Int) + 4) x4 t4 := by
    simp only [runSps, s4, s3, s2, s1, h1, h2, h3, h4]
  rw [hrun]
  clear hrun
  have H1 := Lib.hid h1
  have H2 := Lib.hid h2
  have H3 := Lib.hid h3
  have H4 := Lib.hid h4
  clear h1 h2 h3 h4
  go_enter Try.func13, Try.ntmps13
  go_wp2_with fail
  refine HO.out.mono ?_
  rintro e w1 ⟨he, hr, f1, hz⟩
  have hz' : w1.heap.size = w.heap.size + 3 := by rw [hz]; simp
  rw [show ((w.alloc (.cells #[.int .i64 0, .int .i64 0, .int .i64 0, .int .i64 0, .int .i64 0, .int .i64 0, .slice none 0 0, .int .i64 0, .int .i64 0] 24)).alloc (.cells kpZ 83)).heap.size = w.heap.size + 2 from by simp] at he hr
  subst he
  have K0 := Lib.hid (Gk.start (cs := #[.int .i64 0, .int .i64 0, .int .i64 0, .int .i64 0, .int .i64 0, .int .i64 0, .slice none 0 0, .int .i64 0, .int .i64 0]) hr f1 hz')
  have HZ := Lib.hid hz'
  clear hr f1 hz hz' HO X1 X2 F0
  go_wp2_with (refine wpList_store_whole rfl 24 (.tmp 6) (.tmp 13) rfl (w1.heap.size + 1) #[.int .i64 0, .int .i64 0, .int .i64 0, .int .i64 0, .int .i64 4, .int .i64 0, .slice none 0 0, .int .i64 0, .int .i64 0] ?_ ?_ 24 _ K0.out.1.2.1 ?_ ?_ ?_ ?_; rfl; rfl; kernel_rfl; rfl; (simp [Value.oneCell']); intro wz hz fz)

  have K1 := Lib.hid (K0.out.store hz fz)
  clear hz fz K0
  go_wp2_with fail
  refine (pUe3e _ w.heap.size _ _ s _ K1.out.1.rd hs H1.out).mono ?_
  rintro e v1 p1
  obtain ⟨d1, g1⟩ := (K1.out.call p1).cell 0 (.int .i64 0) rfl
  have K2 : Hid (Gk w w.heap.size w1.heap.size (w.heap.size + 2) (w1.heap.size + 1) (w.heap.size + 1) s t1 #[.int .i64 0, .int .i64 0, .int .i64 0, .int .i64 0, .int .i64 0, .int .i64 0, .slice none 0 0, .int .i64 0, .int .i64 0] #[.int .i64 ((x1 : Int) + 1), .int .i64 0, .int .i64 0, .int .i64 0, .int .i64 4, .int .i64 0, .slice none 0 0, .int .i64 0, .int .i64 0] (.slice none 0 0) [] (v1.setCell ⟨w1.heap.size + 1, 0, none⟩ (.int .i64 ((x1 : Int) + 1)))) := (K1.out.call p1).set 0 (.int .i64 ((x1 : Int) + 1))
  obtain ⟨rfl, _⟩ := p1
  clear K1
  go_wp2_with fail
  refine (pUe3e _ w.heap.size _ _ s _ K2.out.1.rd hs H2.out).mono ?_
  rintro e v2 p2
  obtain ⟨d2, g2⟩ := (K2.out.call p2).cell 1 (.int .i64 0) rfl
  have K3 : Hid (Gk w w.heap.size w1.heap.size (w.heap.size + 2) (w1.heap.size + 1) (w.heap.size + 1) s t2 #[.int .i64 0, .int .i64 0, .int .i64 0, .int .i64 0, .int .i64 0, .int .i64 0, .slice none 0 0, .int .i64 0, .int .i64 0] #[.int .i64 ((x1 : Int) + 1), .int .i64 ((x2 : Int) + 1), .int .i64 0, .int .i64 0, .int .i64 4, .int .i64 0, .slice none 0 0, .int .i64 0, .int .i64 0] (.slice none 0 0) [] (v2.setCell ⟨w1.heap.size + 1, 1, none⟩ (.int .i64 ((x2 : Int) + 1)))) := (K2.out.call p2).set 1 (.int .i64 ((x2 : Int) + 1))
  obtain ⟨rfl, _⟩ := p2
  clear K2
  go_wp2_with fail
  refine (pUe3e _ w.heap.size _ _ s _ K3.out.1.rd hs H3.out).mono ?_
  rintro e v3 p3
  obtain ⟨d3, g3⟩ := (K3.out.call p3).cell 2 (.int .i64 0) rfl
  have K4 : Hid (Gk w w.heap.size w1.heap.size (w.heap.size + 2) (w1.heap.size + 1) (w.heap.size + 1) s t3 #[.int .i64 0, .int .i64 0, .int .i64 0, .int .i64 0, .int .i64 0, .int .i64 0, .slice none 0 0, .int .i64 0, .int .i64 0] #[.int .i64 ((x1 : Int) + 1), .int .i64 ((x2 : Int) + 1), .int .i64 ((x3 : Int) + 4), .int .i64 0, .int .i64 4, .int .i64 0, .slice none 0 0, .int .i64 0, .int .i64 0] (.slice none 0 0) [] (v3.setCell ⟨w1.heap.size + 1, 2, none⟩ (.int .i64 ((x3 : Int) + 4)))) := (K3.out.call p3).set 2 (.int .i64 ((x3 : Int) + 4))
  obtain ⟨rfl, _⟩ := p3
  clear K3
  go_wp2_with fail
  refine (pUe3e _ w.heap.size _ _ s _ K4.out.1.rd hs H4.out).mono ?_
  rintro e v4 p4
  obtain ⟨d4, g4⟩ := (K4.out.call p4).cell 3 (.int .i64 0) rfl
  have K5 : Hid (Gk w w.heap.size w1.heap.size (w.heap.size + 2) (w1.heap.size + 1) (w.heap.size + 1) s t4 #[.int .i64 0, .int .i64 0, .int .i64 0, .int .i64 0, .int .i64 0, .int .i64 0, .slice none 0 0, .int .i64 0, .int .i64 0] #[.int .i64 ((x1 : Int) + 1), .int .i64 ((x2 : Int) + 1), .int .i64 ((x3 : Int) + 4), .int .i64 (x4 : Int), .int .i64 4, .int .i64 0, .slice none 0 0, .int .i64 0, .int .i64 0] (.slice none 0 0) [] (v4.setCell ⟨w1.heap.size + 1, 3, none⟩ (.int .i64 (x4 : Int)))) := (K4.out.call p4).set 3 (.int .i64 (x4 : Int))
  obtain ⟨rfl, _⟩ := p4
  clear K4
  obtain ⟨c3, _⟩ := K5.out.cell 3 (.int .i64 (x4 : Int)) rfl
  clear H1 H2 H3 H4
  go_upto_block 0 with fail
  go_cut [3] (fun c wx => ∃ (st : Option Nat) (pb nr : Int) (cv : Value) (cy : List Int), c = .int .i64 0 ∧ Aside (sRest (bitAt s) (8 * s.size) ((x1 : Int) + 1) ((x2 : Int) + 1) ((x3 : Int) + 4) x4 t4 = sTail (bitAt s) (8 * s.size) ((x1 : Int) + 1) ((x2 : Int) + 1) ((x3 : Int) + 4) (x4 : Int) pb nr cy st ∧ cy.length ≤ 4) ∧ Hid (Gk w w.heap.size w1.heap.size (w.heap.size + 2) (w1.heap.size + 1) (w.heap.size + 1) s st #[.int .i64 0, .int .i64 0, .int .i64 0, .int .i64 0, .int .i64 0, .int .i64 0, .slice none 0 0, .int .i64 0, .int .i64 0] #[.int .i64 ((x1 : Int) + 1), .int .i64 ((x2 : Int) + 1), .int .i64 ((x3 : Int) + 4), .int .i64 (x4 : Int), .int .i64 pb, .int .i64 nr, cv, .int .i64 0, .int .i64 0] cv cy (wx)))
  case first =>
    by_cases hx0 : x4 = 0
    · have e0 : ((x4 : Int) == 0) = true := by simp; omega
      obtain ⟨⟨x5, t5⟩, h5⟩ : ∃ X, sUe (bitAt s) (8 * s.size) t4 = X := ⟨_, rfl⟩
      have B5 : x5 ≤ 2147483646 := by have := sUe_le (bitAt s) (8 * s.size) t4; rw [h5] at this; exact this
      have HS : Hid (sRest (bitAt s) (8 * s.size) ((x1 : Int) + 1) ((x2 : Int) + 1) ((x3 : Int) + 4) x4 t4 = sTail (bitAt s) (8 * s.size) ((x1 : Int) + 1) ((x2 : Int) + 1) ((x3 : Int) + 4) (x4 : Int) ((x5 : Int) + 4) 0 [] t5) := by
        show _ = _
        rw [hx0]; simp only [sRest, if_true, h5]; rfl
      have H5 := Lib.hid h5
      clear h5 hx0
      go_wp2_with fail
      refine (pUe3e _ w.heap.size _ _ s _ K5.out.1.rd hs H5.out).mono ?_
      rintro e v5 p5
      obtain ⟨d5, g5⟩ := (K5.out.call p5).cell 4 (.int .i64 4) rfl
      have K6 : Hid (Gk w w.heap.size w1.heap.size (w.heap.size + 2) (w1.heap.size + 1) (w.heap.size + 1) s t5 #[.int .i64 0, .int .i64 0, .int .i64 0, .int .i64 0, .int .i64 0, .int .i64 0, .slice none 0 0, .int .i64 0, .int .i64 0] #[.int .i64 ((x1 : Int) + 1), .int .i64 ((x2 : Int) + 1), .int .i64 ((x3 : Int) + 4), .int .i64 (x4 : Int), .int .i64 ((x5 : Int) + 4), .int .i64 0, .slice none 0 0, .int .i64 0, .int .i64 0] (.slice none 0 0) [] (v5.setCell ⟨w1.heap.size + 1, 4, none⟩ (.int .i64 ((x5 : Int) + 4)))) := (K5.out.call p5).set 4 (.int .i64 ((x5 : Int) + 4))
      obtain ⟨rfl, _⟩ := p5
      clear K5
      go_wp2_with fail
      go_meet
      exact ⟨_, _, _, _, _, rfl, ⟨HS.out, by simp⟩, K6⟩
    · have e0 : ((x4 : Int) == 0) = false := by simp; omega
      by_cases hx1 : x4 = 1
      · have e1 : ((x4 : Int) == 1) = true := by simp; omega
        obtain ⟨⟨x5, t5⟩, h5⟩ : ∃ X, sSe (bitAt s) (8 * s.size) t4 = X := ⟨_, rfl⟩
        obtain ⟨⟨x6, t6⟩, h6⟩ : ∃ X, sUe (bitAt s) (8 * s.size) t5 = X := ⟨_, rfl⟩
        have B6 : x6 ≤ 2147483646 := by have := sUe_le (bitAt s) (8 * s.size) t5; rw [h6] at this; exact this
        obtain ⟨bk, hbk⟩ : ∃ b, inAll [(x6 : Int)] 0 4 = b := ⟨_, rfl⟩
        have HB := Lib.hid (fun wr a cap => holds_is hbk (by simp) wr a cap)
        have HSO : Hid (4 < x6 → sRest (bitAt s) (8 * s.size) ((x1 : Int) + 1) ((x2 : Int) + 1) ((x3 : Int) + 4) x4 t4 = (SpsN.zero, 301)) := by
          intro hk
          rw [sRest, if_neg hx0, if_pos hx1, h5]
          simp only [h6]
          rw [if_pos hk]
        have HSS : Hid (¬ 4 < x6 → ∀ cy tc, sCycle (bitAt s) (8 * s.size) x6 t6 = (cy, tc) → sRest (bitAt s) (8 * s.size) ((x1 : Int) + 1) ((x2 : Int) + 1) ((x3 : Int) + 4) x4 t4 = sTail (bitAt s) (8 * s.size) ((x1 : Int) + 1) ((x2 : Int) + 1) ((x3 : Int) + 4) (x4 : Int) 4 x5 cy tc ∧ cy.length ≤ 4) := by
          intro hk cy tc hc
          refine ⟨?_, ?_⟩
          · rw [sRest, if_neg hx0, if_pos hx1, h5]
            simp only [h6]
            rw [if_neg hk, hc, hx1]
            rfl
          · have := sCycle_length (bitAt s) (8 * s.size) t6 x6
            rw [hc] at this
            simp only at this
            omega
        have hbk2 : bk = decide (¬ 4 < x6) := by
          rw [← hbk, Bool.eq_iff_iff]
          simp only [inAll, inB, List.all_cons, List.all_nil, Bool.and_true, decide_eq_true_eq]
          omega
        have H5 := Lib.hid h5
        have H6 := Lib.hid h6
        clear h5 h6 hx0 hx1 hbk
        go_wp2_with fail
        refine (pSe3e _ w.heap.size _ _ s _ K5.out.1.rd hs H5.out).mono ?_
        rintro e v5 p5
        obtain ⟨d5, g5⟩ := (K5.out.call p5).cell 5 (.int .i64 0) rfl
        have K6 : Hid (Gk w w.heap.size w1.heap.size (w.heap.size + 2) (w1.heap.size + 1) (w.heap.size + 1) s t5 #[.int .i64 0, .int .i64 0, .int .i64 0, .int .i64 0, .int .i64 0, .int .i64 0, .slice none 0 0, .int .i64 0, .int .i64 0] #[.int .i64 ((x1 : Int) + 1), .int .i64 ((x2 : Int) + 1), .int .i64 ((x3 : Int) + 4), .int .i64 (x4 : Int), .int .i64 4, .int .i64 x5, .slice none 0 0, .int .i64 0, .int .i64 0] (.slice none 0 0) [] (v5.setCell ⟨w1.heap.size + 1, 5, none⟩ (.int .i64 x5))) := (K5.out.call p5).set 5 (.int .i64 x5)
        obtain ⟨rfl, _⟩ := p5
        clear K5
        go_wp2_with fail
        refine (pUe3e _ w.heap.size _ _ s _ K6.out.1.rd hs H6.out).mono ?_
        rintro e v6 p6
        have K7 := Lib.hid (K6.out.call p6)
        obtain ⟨rfl, _⟩ := p6
        clear K6
        go_wp2_with fail
        refine (of_3 _ _ K7.out.2.1).mono ?_
        rintro e v7 ⟨rfl, q7, f7⟩
        have K8 := Lib.hid (K7.out.ask q7 f7)
        clear q7 f7 K7
        go_wp2_with fail
        refine (HB.out _ _ _ (row_new v7 [(x6 : Int)])).mono ?_
        rintro e v8 ⟨rfl, f8⟩
        have K9 := Lib.hid ((K8.out.alloc _).below f8)
        clear f8 K8
        dsimp only
        by_cases hk : 4 < x6
        · have hb1 : bk = false := by rw [hbk2]; simp; omega
          clear hbk2
          subst hb1
          have HS := Lib.hid (HSO.out hk)
          have R0 := Lib.hid K9.out.1.2.2.1
          have D0 := Lib.hid K9.out.1.down
          go_wp2_with (refine wpList_store_whole rfl 24 (.tmp 2) (.tmp 50) rfl w.heap.size #[.int .i64 0, .int .i64 0, .int .i64 0, .int .i64 0, .int .i64 0, .int .i64 0, .slice none 0 0, .int .i64 0, .int .i64 0] ?_ ?_ 24 _ R0.out ?_ ?_ ?_ ?_; rfl; rfl; kernel_rfl; rfl; (simp [Value.oneCell']); intro wz2 hz fz)
          have z0 := cell_of_row _ w.heap.size 0 _ _ _ hz
          have z1 := cell_of_row _ w.heap.size 1 _ _ _ hz
          have z2 := cell_of_row _ w.heap.size 2 _ _ _ hz
          have z3 := cell_of_row _ w.heap.size 3 _ _ _ hz
          have z4 := cell_of_row _ w.heap.size 4 _ _ _ hz
          have z5 := cell_of_row _ w.heap.size 5 _ _ _ hz
          have z6 := cell_of_row _ w.heap.size 6 _ _ _ hz
          have z7 := cell_of_row _ w.heap.size 7 _ _ _ hz
          have z8 := cell_of_row _ w.heap.size 8 _ _ _ hz
          simp at z0 z1 z2 z3 z4 z5 z6 z7 z8
          refine bodyPost_ret (v := .tuple #[.agg #[.int .i64 0, .int .i64 0, .int .i64 0, .int .i64 0, .int .i64 0, .int .i64 0, .slice none 0 0, .int .i64 0, .int .i64 0], .int .i64 301]) (by simp [results, Try.results13, go_sem, z0, z1, z2, z3, z4, z5, z6, z7, z8]) rfl ?_
          rw [HS.out]
          exact ⟨none, 0, rfl, IntRow.nil _ _, (fun _ => ⟨rfl, rfl⟩), (fun x hx => by cases hx), below_fr D0.out (Nat.le_refl _) fz (fun k e => Nat.le_of_eq e.symm)⟩
        · have hb1 : bk = true := by rw [hbk2]; simp; omega
          clear hbk2
          subst hb1
          have HS := Lib.hid (HSS.out hk)
          clear HSO HSS
          go_wp2_with fail
          go_loopg [52] x6 (fun q i wr => ∃ (j : Nat) (cv : Value) (cy : List Int) (tc : Option Nat), j + q = x6 ∧ i = .int .i64 (j : Int) ∧ Aside (sCycle (bitAt s) (8 * s.size) j t6 = (cy, tc)) ∧ Hid (Gk w w.heap.size w1.heap.size (w.heap.size + 2) (w1.heap.size + 1) (w.heap.size + 1) s tc #[.int .i64 0, .int .i64 0, .int .i64 0, .int .i64 0, .int .i64 0, .int .i64 0, .slice none 0 0, .int .i64 0, .int .i64 0] #[.int .i64 ((x1 : Int) + 1), .int .i64 ((x2 : Int) + 1), .int .i64 ((x3 : Int) + 4), .int .i64 (x4 : Int), .int .i64 4, .int .i64 x5, cv, .int .i64 0, .int .i64 0] cv cy (wr)))
          case atStart => exact ⟨0, _, _, _, by omega, rfl, (rfl : sCycle (bitAt s) (8 * s.size) 0 t6 = ([], t6)), K9⟩
          case round =>
            clear K9
            obtain ⟨j, cv, cy, tc, hq, rfl, hcy, K10⟩ := hrel
            by_cases hlt : j < x6
            · obtain ⟨⟨xs, ts⟩, hss⟩ : ∃ X, sSe (bitAt s) (8 * s.size) tc = X := ⟨_, rfl⟩
              have HN : Aside (sCycle (bitAt s) (8 * s.size) (j + 1) t6 = (cy ++ [xs], ts)) := by
                show _ = _
                rw [sCycle, hcy]
                simp only [hss]
              have HL : Hid (cy.length ≤ 1000000) := by
                have := sCycle_length (bitAt s) (8 * s.size) t6 j
                rw [hcy] at this
                simp only at this
                show _ ≤ _
                omega
              have Hs := Lib.hid hss
              clear hss hcy
              have K11 := Lib.hid K10.out.drew
              have y6 := (K11.out.cell 6 cv rfl).1
              have y6' := (K10.out.cell 6 cv rfl).1
              go_upto_region 18 with fail
              go_region_law (first
                | (refine step_append_int rfl (.tmp 55) (.tmp 58) rfl w.heap.size cv cy rfl K12.out.2.2.2 K12.out.1.down.size HL.out rfl ?_
                   intro g9 cap9 w9 o9 f9
                   have K13 := Lib.hid (K12.out.app f9 o9)
                   obtain ⟨y13, z13⟩ := K13.out.cell 6 cv rfl)
                | (go_simp; go_at_call 40; refine (pSe3e _ w.heap.size _ _ s _ K11.out.1.rd hs Hs.out).mono ?_; rintro e v9 p9; have K12 := Lib.hid (K11.out.call p9); have y12 := (K12.out.cell 6 cv rfl).1; have y12a := ((K12.out.alloc (.cells #[.int .i64 xs] 3)).cell 6 cv rfl).1; obtain ⟨rfl, _⟩ := p9))
              all_goals
                have K14 := Lib.hid (K13.out.set 6 (.slice (some ⟨g9, 0, none⟩) (cy.length + 1) cap9))
                go_wp2_with fail
                go_roundg (gk - 1)
                case measure => omega
                case rel => exact ⟨j + 1, _, _, _, by omega, by go_num, HN, K14⟩
            · obtain rfl : j = x6 := by omega
              have HS2 := Lib.hid (HS.out cy tc hcy)
              clear hcy HS
              go_wp2_with fail
              go_meet
              exact ⟨_, _, _, _, _, rfl, HS2.out, K10⟩
      · have e1 : ((x4 : Int) == 1) = false := by simp; omega
        have HS : Hid (sRest (bitAt s) (8 * s.size) ((x1 : Int) + 1) ((x2 : Int) + 1) ((x3 : Int) + 4) x4 t4 = sTail (bitAt s) (8 * s.size) ((x1 : Int) + 1) ((x2 : Int) + 1) ((x3 : Int) + 4) (x4 : Int) 4 0 [] t4) := by
          show _ = _
          rw [sRest, if_neg hx0, if_neg hx1]
        clear hx0 hx1
        go_wp2_with fail
        go_meet
        exact ⟨_, _, _, _, _, rfl, ⟨HS.out, by simp⟩, K5⟩
  case rest =>
    obtain ⟨st, pb, nr, cv, cy, rfl, ⟨HS, hcl⟩, KC⟩ := hcut
    have HSS := Lib.hid HS
    clear HS K5
    obtain ⟨⟨x7, t7⟩, h7⟩ : ∃ X, sUe (bitAt s) (8 * s.size) st = X := ⟨_, rfl⟩
    have B7 : x7 ≤ 2147483646 := by have := sUe_le (bitAt s) (8 * s.size) st; rw [h7] at this; exact this
    obtain ⟨⟨x8, t8⟩, h8⟩ : ∃ X, sUe (bitAt s) (8 * s.size) t7 = X := ⟨_, rfl⟩
    have B8 : x8 ≤ 2147483646 := by have := sUe_le (bitAt s) (8 * s.size) t7; rw [h8] at this; exact this
    have HE : Hid (sRest (bitAt s) (8 * s.size) ((x1 : Int) + 1) ((x2 : Int) + 1) ((x3 : Int) + 4) x4 t4 = sEnd SpsN.zero (bitAt s) (8 * s.size) ⟨(x1 : Int) + 1, (x2 : Int) + 1, (x3 : Int) + 4, (x4 : Int), pb, nr, cy, (x7 : Int), (x8 : Int)⟩ (decide (SpsN.may ⟨(x1 : Int) + 1, (x2 : Int) + 1, (x3 : Int) + 4, (x4 : Int), pb, nr, cy, (x7 : Int), (x8 : Int)⟩)) t8) := by
      show _ = _
      rw [HSS.out, sTail]
      simp only [h7, h8]
    have H7 := Lib.hid h7
    have H8 := Lib.hid h8
    clear h7 h8 HSS

    go_wp2_with fail
    refine (pUe3e _ w.heap.size _ _ s _ KC.out.1.rd hs H7.out).mono ?_
    rintro e v10 p10
    obtain ⟨d10, g10⟩ := (KC.out.call p10).cell 7 (.int .i64 0) rfl
    have KD : Hid (Gk w w.heap.size w1.heap.size (w.heap.size + 2) (w1.heap.size + 1) (w.heap.size + 1) s t7 #[.int .i64 0, .int .i64 0, .int .i64 0, .int .i64 0, .int .i64 0, .int .i64 0, .slice none 0 0, .int .i64 0, .int .i64 0] #[.int .i64 ((x1 : Int) + 1), .int .i64 ((x2 : Int) + 1), .int .i64 ((x3 : Int) + 4), .int .i64 (x4 : Int), .int .i64 pb, .int .i64 nr, cv, .int .i64 (x7 : Int), .int .i64 0] cv cy (v10.setCell ⟨w1.heap.size + 1, 7, none⟩ (.int .i64 (x7 : Int)))) := (KC.out.call p10).set 7 (.int .i64 (x7 : Int))
    obtain ⟨rfl, _⟩ := p10
    clear KC
    go_wp2_with fail
    refine (pUe3e _ w.heap.size _ _ s _ KD.out.1.rd hs H8.out).mono ?_
    rintro e v11 p11
    obtain ⟨d11, g11⟩ := (KD.out.call p11).cell 8 (.int .i64 0) rfl
    have KE : Hid (Gk w w.heap.size w1.heap.size (w.heap.size + 2) (w1.heap.size + 1) (w.heap.size + 1) s t8 #[.int .i64 0, .int .i64 0, .int .i64 0, .int .i64 0, .int .i64 0, .int .i64 0, .slice none 0 0, .int .i64 0, .int .i64 0] #[.int .i64 ((x1 : Int) + 1), .int .i64 ((x2 : Int) + 1), .int .i64 ((x3 : Int) + 4), .int .i64 (x4 : Int), .int .i64 pb, .int .i64 nr, cv, .int .i64 (x7 : Int), .int .i64 (x8 : Int)] cv cy (v11.setCell ⟨w1.heap.size + 1, 8, none⟩ (.int .i64 (x8 : Int)))) := (KD.out.call p11).set 8 (.int .i64 (x8 : Int))
    obtain ⟨rfl, _⟩ := p11
    clear KD
    obtain ⟨a, cap, rfl, hrow, hnone, hown⟩ := KE.out.2.2.2.shape
    obtain ⟨n1, n2, n3, n4⟩ := KE.out.types
    have hkp := KE.out.2.1
    have HN : Hid (cy ≠ [] → ∀ g, a = some g → g.block ≠ w.heap.size + 1) := fun _ g hg e => by
      obtain ⟨_, cs0, hc0⟩ := hown g hg
      obtain ⟨cs1, hc1⟩ := hkp.row
      rw [e] at hc0
      exact ne_of_type hc0 hc1 (by decide) rfl
    have HI : Hid (∀ wf, Fr (fun k => k = w.heap.size + 2) _ wf → IntRow wf a cy) := fun wf f => hrow.fr f (fun g hg e => by
      obtain ⟨_, cs0, hc0⟩ := hown g hg
      obtain ⟨⟨rc, hrc⟩, _⟩ := KE.out.1.rd.reader
      rw [e] at hc0
      exact ne_of_type hc0 hrc (by decide) rfl)
    have HW : Hid (∀ g, a = some g → w.heap.size ≤ g.block ∧ ∃ cs, (v11.setCell ⟨w1.heap.size + 1, 8, none⟩ (.int .i64 (x8 : Int))).heap[g.block]? = some (.cells cs 3 (0, 0))) := hown
    have HNO := Lib.hid hnone
    have HRO := Lib.hid hrow
    have N2 := Lib.hid n2
    have HKP := Lib.hid hkp
    clear hrow hnone hown n1 n2 n3 n4 hkp
    have y0 := (KE.out.cell 0 (.int .i64 ((x1 : Int) + 1)) rfl).1
    have y1 := (KE.out.cell 1 (.int .i64 ((x2 : Int) + 1)) rfl).1
    have y2 := (KE.out.cell 2 (.int .i64 ((x3 : Int) + 4)) rfl).1
    have y3 := (KE.out.cell 3 (.int .i64 (x4 : Int)) rfl).1
    have y4 := (KE.out.cell 4 (.int .i64 pb) rfl).1
    have y5 := (KE.out.cell 5 (.int .i64 nr) rfl).1
    have y6 := (KE.out.cell 6 (.slice a cy.length cap) rfl).1
    have y7 := (KE.out.cell 7 (.int .i64 (x7 : Int)) rfl).1
    have y8 := (KE.out.cell 8 (.int .i64 (x8 : Int)) rfl).1
    clear d1 d2 d3 d4 g1 g2 g3 g4 c3 d10 g10
    cases t8 with
    | none =>
      have HX := Lib.hid (endedKSpsNone _ w.heap.size _ _ s (w.heap.size + 1) ((x1 : Int) + 1) ((x2 : Int) + 1) ((x3 : Int) + 4) (x4 : Int) pb nr cy (x7 : Int) (x8 : Int) a cap KE.out.1.rd)
      go_wp2_with fail
      refine HX.out.mono ?_
      rintro e we ⟨rfl, fe⟩
      have r2 := (fe.block w.heap.size (row_lt KE.out.1.2.2.1) (by rintro (e | e) <;> omega)).trans KE.out.1.2.2.1
      have D2 := Lib.hid (below_fr KE.out.1.down (Nat.le_refl _) fe (fun k e => by omega))
      have R2 := Lib.hid r2
      clear r2 fe y0 y1 y2 y3 y4 y5 y6 y7 y8
      go_wp2_with (refine wpList_store_whole rfl 24 (.tmp 2) (.tmp 73) rfl w.heap.size #[.int .i64 0, .int .i64 0, .int .i64 0, .int .i64 0, .int .i64 0, .int .i64 0, .slice none 0 0, .int .i64 0, .int .i64 0] ?_ ?_ 24 _ R2.out ?_ ?_ ?_ ?_; rfl; rfl; kernel_rfl; rfl; (simp [Value.oneCell']); intro wz2 hz fz)
      have z0 := cell_of_row _ w.heap.size 0 _ _ _ hz
      have z1 := cell_of_row _ w.heap.size 1 _ _ _ hz
      have z2 := cell_of_row _ w.heap.size 2 _ _ _ hz
      have z3 := cell_of_row _ w.heap.size 3 _ _ _ hz
      have z4 := cell_of_row _ w.heap.size 4 _ _ _ hz
      have z5 := cell_of_row _ w.heap.size 5 _ _ _ hz
      have z6 := cell_of_row _ w.heap.size 6 _ _ _ hz
      have z7 := cell_of_row _ w.heap.size 7 _ _ _ hz
      have z8 := cell_of_row _ w.heap.size 8 _ _ _ hz
      simp at z0 z1 z2 z3 z4 z5 z6 z7 z8
      refine bodyPost_ret (v := .tuple #[.agg #[.int .i64 0, .int .i64 0, .int .i64 0, .int .i64 0, .int .i64 0, .int .i64 0, .slice none 0 0, .int .i64 0, .int .i64 0], .int .i64 300]) (by simp [results, Try.results13, go_sem, z0, z1, z2, z3, z4, z5, z6, z7, z8]) rfl ?_
      rw [HE.out, show sEnd SpsN.zero (bitAt s) (8 * s.size) ⟨(x1 : Int) + 1, (x2 : Int) + 1, (x3 : Int) + 4, (x4 : Int), pb, nr, cy, (x7 : Int), (x8 : Int)⟩ (decide (SpsN.may ⟨(x1 : Int) + 1, (x2 : Int) + 1, (x3 : Int) + 4, (x4 : Int), pb, nr, cy, (x7 : Int), (x8 : Int)⟩)) none = (SpsN.zero, 300) from rfl]
      exact ⟨none, 0, rfl, IntRow.nil _ _, (fun _ => ⟨rfl, rfl⟩), (fun x hx => by cases hx), below_fr D2.out (Nat.le_refl _) fz (fun k e => Nat.le_of_eq e.symm)⟩
    | some p =>
      by_cases ht : Trails (bitAt s) (8 * s.size) p
      · by_cases hm : SpsN.may ⟨(x1 : Int) + 1, (x2 : Int) + 1, (x3 : Int) + 4, (x4 : Int), pb, nr, cy, (x7 : Int), (x8 : Int)⟩
        · skip
          have HX := Lib.hid (endedKSpsFine _ w.heap.size _ _ s (w.heap.size + 1) ((x1 : Int) + 1) ((x2 : Int) + 1) ((x3 : Int) + 4) (x4 : Int) pb nr cy (x7 : Int) (x8 : Int) a cap KE.out.2.1 N2.out p q KE.out.1.rd hs HQ.out ht HI.out HN.out (by omega) hm)
          go_wp2_with fail
          refine HX.out.mono ?_
          rintro e we ⟨rfl, fe⟩
          have r2 := (fe.block w.heap.size (row_lt KE.out.1.2.2.1) (by rintro (e | e) <;> omega)).trans KE.out.1.2.2.1
          have D2 := Lib.hid (below_fr KE.out.1.down (Nat.le_refl _) fe (fun k e => by omega))
          have HR2 := Lib.hid (HRO.out.fr fe (fun g hg e => by
            obtain ⟨_, cs0, hc0⟩ := HW.out g hg
            obtain ⟨⟨rc, hrc⟩, _⟩ := KE.out.1.rd.reader
            obtain ⟨cs1, hc1⟩ := HKP.out.row
            rcases e with e | e
            · rw [e] at hc0; exact ne_of_type hc0 hrc (by decide) rfl
            · rw [e] at hc0; exact ne_of_type hc0 hc1 (by decide) rfl))
          have HW2 : Hid (∀ g, a = some g → w.heap.size ≤ g.block ∧ ∃ cs, we.heap[g.block]? = some (.cells cs 3 (0, 0))) := fun g hg => by
            obtain ⟨h1, cs0, hc0⟩ := HW.out g hg
            obtain ⟨⟨rc, hrc⟩, _⟩ := KE.out.1.rd.reader
            obtain ⟨cs1, hc1⟩ := HKP.out.row
            refine ⟨h1, cs0, (fe.block _ (row_lt hc0) ?_).trans hc0⟩
            rintro (e | e)
            · exact ne_of_type hc0 hrc (by decide) e
            · exact ne_of_type hc0 hc1 (by decide) e
          have R2 := Lib.hid r2
          clear r2 fe y0 y1 y2 y3 y4 y5 y6 y7 y8
          go_wp2_with (refine wpList_store_whole rfl 24 (.tmp 2) (.tmp 73) rfl w.heap.size #[.int .i64 ((x1 : Int) + 1), .int .i64 ((x2 : Int) + 1), .int .i64 ((x3 : Int) + 4), .int .i64 (x4 : Int), .int .i64 pb, .int .i64 nr, .slice a cy.length cap, .int .i64 (x7 : Int), .int .i64 (x8 : Int)] ?_ ?_ 24 _ R2.out ?_ ?_ ?_ ?_; rfl; rfl; kernel_rfl; rfl; (simp [Value.oneCell']); intro wz2 hz fz)
          have z0 := cell_of_row _ w.heap.size 0 _ _ _ hz
          have z1 := cell_of_row _ w.heap.size 1 _ _ _ hz
          have z2 := cell_of_row _ w.heap.size 2 _ _ _ hz
          have z3 := cell_of_row _ w.heap.size 3 _ _ _ hz
          have z4 := cell_of_row _ w.heap.size 4 _ _ _ hz
          have z5 := cell_of_row _ w.heap.size 5 _ _ _ hz
          have z6 := cell_of_row _ w.heap.size 6 _ _ _ hz
          have z7 := cell_of_row _ w.heap.size 7 _ _ _ hz
          have z8 := cell_of_row _ w.heap.size 8 _ _ _ hz
          simp at z0 z1 z2 z3 z4 z5 z6 z7 z8
          refine bodyPost_ret (v := .tuple #[.agg #[.int .i64 ((x1 : Int) + 1), .int .i64 ((x2 : Int) + 1), .int .i64 ((x3 : Int) + 4), .int .i64 (x4 : Int), .int .i64 pb, .int .i64 nr, .slice a cy.length cap, .int .i64 (x7 : Int), .int .i64 (x8 : Int)], .int .i64 0]) (by simp [results, Try.results13, go_sem, z0, z1, z2, z3, z4, z5, z6, z7, z8]) rfl ?_
          rw [HE.out, show sEnd SpsN.zero (bitAt s) (8 * s.size) ⟨(x1 : Int) + 1, (x2 : Int) + 1, (x3 : Int) + 4, (x4 : Int), pb, nr, cy, (x7 : Int), (x8 : Int)⟩ (decide (SpsN.may ⟨(x1 : Int) + 1, (x2 : Int) + 1, (x3 : Int) + 4, (x4 : Int), pb, nr, cy, (x7 : Int), (x8 : Int)⟩)) (some p) = (⟨(x1 : Int) + 1, (x2 : Int) + 1, (x3 : Int) + 4, (x4 : Int), pb, nr, cy, (x7 : Int), (x8 : Int)⟩, 0) from by rw [sEnd, if_pos ht, decide_eq_true hm]; rfl]
          have R3 : ∀ g, a = some g → ¬ g.block = w.heap.size := fun g hg e => by
            obtain ⟨_, cs0, hc0⟩ := HW2.out g hg
            rw [e] at hc0
            exact ne_of_type hc0 R2.out (by decide) rfl
          refine ⟨a, cap, rfl, HR2.out.fr fz R3, HNO.out, fun g hg => ?_, below_fr D2.out (Nat.le_refl _) fz (fun k e => Nat.le_of_eq e.symm)⟩
          obtain ⟨e1, cs0, hc0⟩ := HW2.out g hg
          exact ⟨e1, cs0, _, (fz.block _ (row_lt hc0) (R3 g hg)).trans hc0⟩
        · skip
          have HX := Lib.hid (endedKSpsRange _ w.heap.size _ _ s (w.heap.size + 1) ((x1 : Int) + 1) ((x2 : Int) + 1) ((x3 : Int) + 4) (x4 : Int) pb nr cy (x7 : Int) (x8 : Int) a cap KE.out.2.1 N2.out p q KE.out.1.rd hs HQ.out ht HI.out HN.out (by omega) hm)
          go_wp2_with fail
          refine HX.out.mono ?_
          rintro e we ⟨rfl, fe⟩
          have r2 := (fe.block w.heap.size (row_lt KE.out.1.2.2.1) (by rintro (e | e) <;> omega)).trans KE.out.1.2.2.1
          have D2 := Lib.hid (below_fr KE.out.1.down (Nat.le_refl _) fe (fun k e => by omega))
          have R2 := Lib.hid r2
          clear r2 fe y0 y1 y2 y3 y4 y5 y6 y7 y8
          go_wp2_with (refine wpList_store_whole rfl 24 (.tmp 2) (.tmp 73) rfl w.heap.size #[.int .i64 0, .int .i64 0, .int .i64 0, .int .i64 0, .int .i64 0, .int .i64 0, .slice none 0 0, .int .i64 0, .int .i64 0] ?_ ?_ 24 _ R2.out ?_ ?_ ?_ ?_; rfl; rfl; kernel_rfl; rfl; (simp [Value.oneCell']); intro wz2 hz fz)
          have z0 := cell_of_row _ w.heap.size 0 _ _ _ hz
          have z1 := cell_of_row _ w.heap.size 1 _ _ _ hz
          have z2 := cell_of_row _ w.heap.size 2 _ _ _ hz
          have z3 := cell_of_row _ w.heap.size 3 _ _ _ hz
          have z4 := cell_of_row _ w.heap.size 4 _ _ _ hz
          have z5 := cell_of_row _ w.heap.size 5 _ _ _ hz
          have z6 := cell_of_row _ w.heap.size 6 _ _ _ hz
          have z7 := cell_of_row _ w.heap.size 7 _ _ _ hz
          have z8 := cell_of_row _ w.heap.size 8 _ _ _ hz
          simp at z0 z1 z2 z3 z4 z5 z6 z7 z8
          refine bodyPost_ret (v := .tuple #[.agg #[.int .i64 0, .int .i64 0, .int .i64 0, .int .i64 0, .int .i64 0, .int .i64 0, .slice none 0 0, .int .i64 0, .int .i64 0], .int .i64 301]) (by simp [results, Try.results13, go_sem, z0, z1, z2, z3, z4, z5, z6, z7, z8]) rfl ?_
          rw [HE.out, show sEnd SpsN.zero (bitAt s) (8 * s.size) ⟨(x1 : Int) + 1, (x2 : Int) + 1, (x3 : Int) + 4, (x4 : Int), pb, nr, cy, (x7 : Int), (x8 : Int)⟩ (decide (SpsN.may ⟨(x1 : Int) + 1, (x2 : Int) + 1, (x3 : Int) + 4, (x4 : Int), pb, nr, cy, (x7 : Int), (x8 : Int)⟩)) (some p) = (SpsN.zero, 301) from by rw [sEnd, if_pos ht, decide_eq_false hm]; rfl]
          exact ⟨none, 0, rfl, IntRow.nil _ _, (fun _ => ⟨rfl, rfl⟩), (fun x hx => by cases hx), below_fr D2.out (Nat.le_refl _) fz (fun k e => Nat.le_of_eq e.symm)⟩
      · skip
        have HX := Lib.hid (endedKSpsForm _ w.heap.size _ _ s (w.heap.size + 1) ((x1 : Int) + 1) ((x2 : Int) + 1) ((x3 : Int) + 4) (x4 : Int) pb nr cy (x7 : Int) (x8 : Int) a cap p q KE.out.1.rd hs HQ.out ht)
        go_wp2_with fail
        refine HX.out.mono ?_
        rintro e we ⟨rfl, fe⟩
        have r2 := (fe.block w.heap.size (row_lt KE.out.1.2.2.1) (by rintro (e | e) <;> omega)).trans KE.out.1.2.2.1
        have D2 := Lib.hid (below_fr KE.out.1.down (Nat.le_refl _) fe (fun k e => by omega))
        have R2 := Lib.hid r2
        clear r2 fe y0 y1 y2 y3 y4 y5 y6 y7 y8
        go_wp2_with (refine wpList_store_whole rfl 24 (.tmp 2) (.tmp 73) rfl w.heap.size #[.int .i64 0, .int .i64 0, .int .i64 0, .int .i64 0, .int .i64 0, .int .i64 0, .slice none 0 0, .int .i64 0, .int .i64 0] ?_ ?_ 24 _ R2.out ?_ ?_ ?_ ?_; rfl; rfl; kernel_rfl; rfl; (simp [Value.oneCell']); intro wz2 hz fz)
        have z0 := cell_of_row _ w.heap.size 0 _ _ _ hz
        have z1 := cell_of_row _ w.heap.size 1 _ _ _ hz
        have z2 := cell_of_row _ w.heap.size 2 _ _ _ hz
        have z3 := cell_of_row _ w.heap.size 3 _ _ _ hz
        have z4 := cell_of_row _ w.heap.size 4 _ _ _ hz
        have z5 := cell_of_row _ w.heap.size 5 _ _ _ hz
        have z6 := cell_of_row _ w.heap.size 6 _ _ _ hz
        have z7 := cell_of_row _ w.heap.size 7 _ _ _ hz
        have z8 := cell_of_row _ w.heap.size 8 _ _ _ hz
        simp at z0 z1 z2 z3 z4 z5 z6 z7 z8
        refine bodyPost_ret (v := .tuple #[.agg #[.int .i64 0, .int .i64 0, .int .i64 0, .int .i64 0, .int .i64 0, .int .i64 0, .slice none 0 0, .int .i64 0, .int .i64 0], .int .i64 300]) (by simp [results, Try.results13, go_sem, z0, z1, z2, z3, z4, z5, z6, z7, z8]) rfl ?_
        rw [HE.out, show sEnd SpsN.zero (bitAt s) (8 * s.size) ⟨(x1 : Int) + 1, (x2 : Int) + 1, (x3 : Int) + 4, (x4 : Int), pb, nr, cy, (x7 : Int), (x8 : Int)⟩ (decide (SpsN.may ⟨(x1 : Int) + 1, (x2 : Int) + 1, (x3 : Int) + 4, (x4 : Int), pb, nr, cy, (x7 : Int), (x8 : Int)⟩)) (some p) = (SpsN.zero, 300) from by rw [sEnd, if_neg ht]]
        exact ⟨none, 0, rfl, IntRow.nil _ _, (fun _ => ⟨rfl, rfl⟩), (fun x hx => by cases hx), below_fr D2.out (Nat.le_refl _) fz (fun k e => Nat.le_of_eq e.symm)⟩
end Go.Proofs.Ytadfgadkihlmcaa
