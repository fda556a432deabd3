/- The walk of the law BitsReads: the Reader and the document's own, beside each other. -/
import Derived.Test.YtlddankieinkoaaZ
import Derived.Test.YtlddankieinkoaaV
import Derived.RegionCalls
import Derived.Deep.RegionWith
import Derived.Deep.RegionHeld3
namespace Go.Proofs.Ytlddankieinkoaa
open Go.RowKit Zo

theorem bitAt_end (s : ByteArray) (i : Nat) (h : 8 * s.size ≤ i) : bitAt s i = false := by
  rw [bitAt, byteAt_end s (by omega)]; simp

theorem fl_win (s : ByteArray) : fl (win (bitAt s) 0 (8 * s.size)) = bitAt s := by
  funext i
  by_cases h : i < 8 * s.size
  · rw [fl, List.getD_eq_getElem?_getD, win_get _ _ _ _ h, Nat.zero_add]; rfl
  · rw [fl_end _ _ (by rw [win_length]; omega), bitAt_end s i (by omega)]

theorem past_exists (s : ByteArray) : ∃ q, IsPast (bitAt s) (8 * s.size) q := by
  have key : ∀ n, n ≤ 8 * s.size → (∀ i, n ≤ i → bitAt s i = false) → ∃ q, IsPast (bitAt s) (8 * s.size) q := by
    intro n
    induction n with
    | zero => intro _ h; exact ⟨0, by omega, fun i _ => h i (by omega), fun h => by omega⟩
    | succ n ih =>
      intro hn h
      cases hb : bitAt s n with
      | true => exact ⟨n + 1, hn, h, fun _ => hb⟩
      | false =>
        refine ih (by omega) (fun i hi => ?_)
        by_cases hin : i = n
        · rw [hin]; exact hb
        · exact h i (by omega)
  exact key (8 * s.size) (Nat.le_refl _) (fun i hi => bitAt_end s i hi)

theorem RRd.row {w : World} {base b : Nat} {l : List Bool} {p : Nat} (h : RRd w base b l p) : ∃ cs, w.heap[b]? = some (.cells cs 45 (0,0)) := by
  obtain ⟨g, cap, hr, _⟩ := h; exact ⟨_, hr⟩

theorem RRd.fr {S : Nat → Prop} {w w' : World} {base b : Nat} {l : List Bool} {p : Nat} (h : RRd w base b l p) (f : Fr S w w') (hb : ¬ S b) (hr5 : ∀ k cs, w.heap[k]? = some (.cells cs 5 (0,0)) → ¬ S k) : RRd w' base b l p := by
  obtain ⟨g, cap, hr, hbb, ho, hp⟩ := h
  refine ⟨g, cap, (f.block b (row_lt hr) hb).trans hr, hbb, ho.fr f (fun k e => ?_), hp⟩
  rcases ho.2 with ⟨h, _⟩ | ⟨g2, cap2, cur, h, _, hg, _⟩
  · cases h
  · rw [h] at e
    simp [Value.ownBlock] at e
    subst e
    exact hr5 _ _ hg

/-- Both Readers at one place. -/
def Twin (W wr : World) (br bo : Nat) (s : ByteArray) (p p' : Nat) : Prop :=
  Rd wr W.heap.size br s p ∧ RRd wr W.heap.size bo (win (bitAt s) 0 (8 * s.size)) p' ∧ Below W.heap.size W wr

theorem Twin.rd {W wr w' : World} {br bo : Nat} {s : ByteArray} {p p' q : Nat} (h : Twin W wr br bo s p p') (r : RPost wr W.heap.size br s q w') : Twin W w' br bo s q p' := by
  obtain ⟨h1, h2, bl⟩ := h
  obtain ⟨⟨cs, c1⟩, _⟩ := h1.row
  obtain ⟨cs2, c2⟩ := h2.row
  refine ⟨r.1, h2.fr r.2 (fun e => ?_) (fun k cs3 c3 e => ?_), bl.trans (r.below h1)⟩
  · subst e; rw [c1] at c2; simp at c2
  · subst e; rw [c1] at c3; simp at c3

theorem Twin.ref {W wr w' : World} {br bo : Nat} {s : ByteArray} {p p' q : Nat} (h : Twin W wr br bo s p p') (r : RRPost wr W.heap.size bo (win (bitAt s) 0 (8 * s.size)) q w') : Twin W w' br bo s p q := by
  obtain ⟨h1, h2, bl⟩ := h
  obtain ⟨⟨cs, c1⟩, _⟩ := h1.row
  obtain ⟨cs2, c2⟩ := h2.row
  have hbb : W.heap.size ≤ bo := by obtain ⟨_, _, _, hbb, _⟩ := h2; exact hbb
  refine ⟨h1.fr r.2 (fun e => ?_), r.1, bl.trans (r.2.below bl.size (fun k e => by subst e; exact hbb))⟩
  subst e; rw [c1] at c2; simp at c2

theorem Twin.new {W wr w' : World} {br bo : Nat} {s : ByteArray} {p p' : Nat} (h : Twin W wr br bo s p p') (b : Below wr.heap.size wr w') : Twin W w' br bo s p p' := by
  obtain ⟨h1, h2, bl⟩ := h
  have f : Fr (fun _ => False) wr w' := Fr.of_below b
  exact ⟨h1.fr f (fun h => h), h2.fr f (fun h => h) (fun _ _ _ h => h), bl.trans (b.mono bl.size)⟩

theorem Twin.drewN {W wr : World} {br bo : Nat} {s : ByteArray} {p p' : Nat} (h : Twin W wr br bo s p p') (n : Nat) : Twin W (wr.drewN n) br bo s p p' := by
  obtain ⟨h1, h2, bl⟩ := h
  exact ⟨h1, h2, ⟨bl.os, bl.tape, bl.output, bl.size, bl.block⟩⟩

theorem RPost.keeps {w w' : World} {B b : Nat} {s : ByteArray} {p q : Nat} (h : Rd w B b s p) (r : RPost w B b s q w') {k : Nat} {cs : Array Value} {t : TypeId} {fr : Nat × Nat} (hk : w.heap[k]? = some (.cells cs t fr)) (ht : t ≠ 70) :
    w'.heap[k]? = some (.cells cs t fr) := by
  refine (r.2.block k (row_lt hk) (fun e => ?_)).trans hk
  obtain ⟨⟨cs1, r1⟩, _⟩ := h.row
  subst e; rw [hk] at r1; simp at r1; exact ht r1.2.1

theorem RRPost.keeps {w w' : World} {B b : Nat} {l : List Bool} {p q : Nat} (h : RRd w B b l p) (r : RRPost w B b l q w') {k : Nat} {cs : Array Value} {t : TypeId} {fr : Nat × Nat} (hk : w.heap[k]? = some (.cells cs t fr)) (ht : t ≠ 45) :
    w'.heap[k]? = some (.cells cs t fr) := by
  refine (r.2.block k (row_lt hk) (fun e => ?_)).trans hk
  obtain ⟨cs1, r1⟩ := h.row
  subst e; rw [hk] at r1; simp at r1; exact ht r1.2.1

set_option maxRecDepth 100000 in
set_option maxHeartbeats 3200000 in
theorem reads_some (s : ByteArray) (b0 off len cap : Nat) (f : Nat → Int × Int × Int) (w : World) (hs : s.size ≤ 1048576) (hacts : IsActs w b0 off len f) (hbig : len ≤ 9223372036854775807) :
    Calls Try.prog 4 #[.string s, .slice (some ⟨b0, off, none⟩) len cap] w fun e w' => e = .returned (.bool true) ∧ Below w.heap.size w w' := by
  have HA := Lib.hid hacts
  clear hacts
  obtain ⟨qp, hqp⟩ := past_exists s
  have HQ := Lib.hid hqp
  have hs2 : s.size ≤ 140737488355328 := by omega
  have hl8 : (win (bitAt s) 0 (8 * s.size)).length = 8 * s.size := win_length _ _ _
  have HL8 := Lib.hid hl8
  have HFW := Lib.hid (fl_win s)
  clear hqp hl8
  go_enter Try.func4, Try.ntmps4
  go_wp2_with fail
  refine (open_any s _ _ (Nat.le_refl _) hs2).mono ?_
  rintro e w1 ⟨rfl, h1, f1, z1⟩
  have bl1 : Below w.heap.size w w1 := f1.below (Nat.le_refl _) (fun _ h => h.elim)
  generalize hbr : w.heap.size = br at h1 z1 ⊢
  go_wp2_with fail
  refine (openRef_any s _ hs).mono ?_
  rintro e w2 ⟨v, rfl, g, capg, rfl, hg1, hg2, hown, bl2⟩
  rw [HL8.out]
  go_wp2_with fail
  have htw : Twin w (w2.alloc (.cells #[.slice (some ⟨g, 0, none⟩) (8 * s.size) capg, .int .i64 0] 45)) br w2.heap.size s 0 0 := by
    subst hbr
    have f2 : Fr (fun _ => False) w1 w2 := Fr.of_below bl2
    have hown2 : w2.ownsRow w.heap.size 5 1 (.slice (some ⟨g, 0, none⟩) (8 * s.size) capg) (8 * s.size) (bv (win (bitAt s) 0 (8 * s.size))) := by
      rw [HL8.out] at hown
      refine ⟨hown.1, ?_⟩
      rcases hown.2 with h | ⟨g2, cap2, cur, h, hb, rest⟩
      · exact .inl h
      · exact .inr ⟨g2, cap2, cur, h, by omega, rest⟩
    refine ⟨(h1.fr f2 (fun h => h)).fr ((Fr.refl (fun _ => False) _).alloc _) (fun h => h), ⟨g, capg, ?_, ?_, ?_, by omega⟩, (bl1.trans (bl2.mono bl1.size)).alloc (by have := bl1.size; have := bl2.size; omega) _⟩
    · rw [HL8.out]; exact heap_alloc_last w2 _
    · have := bl1.size; have := bl2.size; omega
    · unfold OwnBits; rw [HL8.out]; exact hown2.alloc _
  go_loopg [7] 100 (fun q i wr => ∃ (j p : Nat), j ≤ len ∧ j + q = 100 ∧ i = .int .i64 (j : Int) ∧ Twin w wr br w2.heap.size s p p)
  case atStart => exact ⟨0, 0, by omega, by omega, rfl, htw⟩
  case round =>
    generalize w2.heap.size = bo at *
    clear h1 f1 z1 bl1 hbr hown bl2 htw hg1 hg2
    obtain ⟨j, p, hj, hq, rfl, htw⟩ := hrel
    by_cases hlt : j < len ∧ j < 100
    · obtain ⟨hlt1, hlt2⟩ := hlt
      obtain ⟨c0, c1, c2⟩ := HA.out.below htw.2.2 j hlt1
      generalize f j = act at c0 c1 c2
      obtain ⟨K, X, N⟩ := act
      simp only at c0 c1 c2
      go_upto_block 2 with fail
      have htw := htw.new ((Below.refl _ _).alloc (Nat.le_refl _) (.cells #[.int .i64 K, .int .i64 X, .int .i64 N] 27))
      have hrow := heap_alloc_last wr (.cells #[.int .i64 K, .int .i64 X, .int .i64 N] 27)
      clear c0 c1 c2
      generalize wr.alloc (.cells #[.int .i64 K, .int .i64 X, .int .i64 N] 27) = wa at *
      go_cut [9, 10, 11, 12] (fun x e y f wx => ∃ (v c : Int) (p' : Nat), x = .int .i64 v ∧ e = .int .i64 c ∧ y = .int .i64 v ∧ f = .int .i64 c ∧ Twin w wx br bo s p' p')
      case first =>
        obtain ⟨d0, d1, d2⟩ := act_cells hrow
        by_cases k0 : K = 0
        · subst k0
          go_wp2_with fail
          refine (rBits_any _ _ _ _ _ _ htw.1 hs2).mono ?_
          rintro e w3 ⟨rfl, p3⟩
          have hrow := p3.keeps htw.1 hrow (by decide)
          have htw := htw.rd p3
          clear p3 d0 d1 d2
          obtain ⟨d0, d1, d2⟩ := act_cells hrow
          go_wp2_with (go_at_call 12; refine (num_any _ _).mono ?_; rintro e w' ⟨rfl, rfl⟩)
          refine (refBits_any _ _ _ _ _ _ htw.2.1 (by rw [HL8.out]; omega)).mono ?_
          rw [HFW.out, HL8.out]
          rintro e w4 ⟨rfl, p4⟩
          have htw := htw.ref p4
          go_wp2_with fail
          go_meet
          exact ⟨_, _, _, rfl, rfl, rfl, rfl, htw⟩
        · have k0' : (K == 0) = false := by simpa using k0
          by_cases k1 : K = 1
          · subst k1
            clear k0 k0'
            go_wp2_with fail
            refine (rUe_any _ _ _ _ _ htw.1 hs2).mono ?_
            rintro e w3 ⟨rfl, p3⟩
            have hrow := p3.keeps htw.1 hrow (by decide)
            have htw := htw.rd p3
            clear p3 d0 d1 d2
            obtain ⟨d0, d1, d2⟩ := act_cells hrow
            go_wp2_with (go_at_call 12; refine (num_any _ _).mono ?_; rintro e w' ⟨rfl, rfl⟩)
            refine (refUe_any _ _ _ _ _ htw.2.1 (by rw [HL8.out]; omega)).mono ?_
            rw [HFW.out, HL8.out]
            rintro e w4 ⟨rfl, p4⟩
            have htw := htw.ref p4
            go_wp2_with fail
            go_meet
            exact ⟨_, _, _, rfl, rfl, rfl, rfl, htw⟩
          · have k1' : (K == 1) = false := by simpa using k1
            by_cases k2 : K = 2
            · subst k2
              clear k0 k0' k1 k1'
              go_wp2_with fail
              refine (rSe_any _ _ _ _ _ htw.1 hs2).mono ?_
              rintro e w3 ⟨rfl, p3⟩
              have hrow := p3.keeps htw.1 hrow (by decide)
              have htw := htw.rd p3
              clear p3 d0 d1 d2
              obtain ⟨d0, d1, d2⟩ := act_cells hrow
              go_wp2_with (go_at_call 12; refine (num_any _ _).mono ?_; rintro e w' ⟨rfl, rfl⟩)
              refine (refSe_any _ _ _ _ _ htw.2.1 (by rw [HL8.out]; omega)).mono ?_
              rw [HFW.out, HL8.out]
              rintro e w4 ⟨rfl, p4⟩
              have htw := htw.ref p4
              go_wp2_with fail
              go_meet
              exact ⟨_, _, _, rfl, rfl, rfl, rfl, htw⟩
            · have k2' : (K == 2) = false := by simpa using k2
              by_cases k3 : K = 3
              · subst k3
                clear k0 k0' k1 k1' k2 k2'
                go_wp2_with fail
                refine (rTe_any _ _ _ _ _ _ htw.1 hs2).mono ?_
                rintro e w3 ⟨rfl, p3⟩
                have hrow := p3.keeps htw.1 hrow (by decide)
                have htw := htw.rd p3
                clear p3 d0 d1 d2
                obtain ⟨d0, d1, d2⟩ := act_cells hrow
                go_wp2_with (go_at_call 12; refine (num_any _ _).mono ?_; rintro e w' ⟨rfl, rfl⟩)
                refine (refTe_any _ _ _ _ _ _ htw.2.1 (by rw [HL8.out]; omega)).mono ?_
                rw [HFW.out, HL8.out]
                rintro e w4 ⟨rfl, p4⟩
                have htw := htw.ref p4
                go_wp2_with fail
                go_meet
                exact ⟨_, _, _, rfl, rfl, rfl, rfl, htw⟩
              · have k3' : (K == 3) = false := by simpa using k3
                clear k0 k1 k2 k3
                have hx3 : bits .and .i64 X 3 = X % 4 := and_mask_i64 X 2 (by omega)
                have hqr : IsPast (fl (win (bitAt s) 0 (8 * s.size))) (win (bitAt s) 0 (8 * s.size)).length qp := by rw [HFW.out, HL8.out]; exact HQ.out
                have HQR := Lib.hid hqr
                clear hqr
                go_wp2_with fail
                refine (more_any _ _ _ _ _ _ htw.1 HQ.out hs2).mono ?_
                rintro e w3 ⟨rfl, p3⟩
                have hrow := p3.keeps htw.1 hrow (by decide)
                have htw := htw.rd p3
                clear p3 d0 d1 d2
                go_wp2_with fail
                refine (refMore_any _ _ _ _ _ _ htw.2.1 HQR.out (by rw [HL8.out]; omega)).mono ?_
                rintro e w4 ⟨rfl, p4⟩
                have hrow := p4.keeps htw.2.1 hrow (by decide)
                have htw := htw.ref p4
                clear p4
                obtain ⟨d0, d1, d2⟩ := act_cells hrow
                obtain ⟨cc, hcc⟩ : ∃ cc : Int, (if p + 1 = qp ∧ 8 * s.size - p ≤ 8 then 0 else 101) = cc := ⟨_, rfl⟩
                obtain ⟨pp, hpp⟩ : ∃ pp : Nat, (if p + 1 = qp ∧ 8 * s.size - p ≤ 8 then 8 * s.size else p) = pp := ⟨_, rfl⟩
                have HCC := Lib.hid hcc
                have HPP := Lib.hid hpp
                clear hcc hpp
                by_cases hx0 : X % 4 = 0
                · have hxb : (X % 4 == 0) = true := by simpa using hx0
                  clear hx0
                  go_wp2_with fail
                  refine (trailR_any _ _ _ _ _ _ htw.1 HQ.out hs2).mono ?_
                  rw [HCC.out, HPP.out]
                  rintro e w5 ⟨rfl, p5⟩
                  have htw := htw.rd p5
                  clear p5 d0 d1 d2
                  go_wp2_with (go_at_call 12; refine (num_any _ _).mono ?_; rintro e w' ⟨rfl, rfl⟩)
                  refine (refTrail_any _ _ _ _ _ _ htw.2.1 HQR.out (by rw [HL8.out]; omega)).mono ?_
                  rw [HL8.out, HCC.out, HPP.out]
                  rintro e w6 ⟨rfl, p6⟩
                  have htw := htw.ref p6
                  go_wp2_with fail
                  go_meet
                  exact ⟨0, _, _, rfl, rfl, rfl, rfl, htw⟩
                · have hxb : (X % 4 == 0) = false := by simpa using hx0
                  clear hx0
                  go_wp2_with fail
                  go_meet
                  exact ⟨0, 0, _, rfl, rfl, rfl, rfl, htw⟩
      case rest =>
        obtain ⟨v, c, p', rfl, rfl, rfl, rfl, htw'⟩ := hcut
        clear htw hrow
        obtain ⟨g', cap', e0, e1, e2, _, _⟩ := htw'.2.1.cells
        go_wp2_with fail
        have hdr := htw'.drewN 1
        rw [show wc.drewN 1 = wc.drew from rfl] at hdr
        have hAt := Lib.hid (at_any wc.drew _ _ _ _ hdr.1)
        clear e0 e1 e2
        obtain ⟨g', cap', e0, e1, e2, _, _⟩ := hdr.2.1.cells
        clear htw'
        have hvv : (v != v) = false := by simp
        have hcc : (c != c) = false := by simp
        go_region_held3 (fun w' => w'.cell? ⟨bo, 1, none⟩ = some (.int .i64 (p' : Int))) (first | exact e1 | exact e51) ((first | (go_at_call 40; refine hAt.out.mono ?_; rintro e w5 ⟨rfl, r5⟩; have htw5 := hdr.rd r5; obtain ⟨g5, cap5, e5, e51, e52, _, _⟩ := htw5.2.1.cells)))
        all_goals
          go_wp2_with fail
          go_roundg (gk - 1)
          case measure => omega
          case rel => exact ⟨j + 1, p', by omega, by omega, by go_num, htw5⟩
    · have hx : ¬ (j < len ∧ j < 100) := hlt
      have hd := htw.2.2
      have hsz := hd.size
      by_cases hlen : j < len
      · have h100 : ¬ j < 100 := fun h => hx ⟨hlen, h⟩
        clear hlt hx
        go_wp2_with fail
        refine (awake_any _ _ (Nat.le_refl _)).mono ?_
        rintro e w3 ⟨rfl, b3⟩
        go_wp2_with fail
        go_ret
        exact ⟨rfl, hd.trans (b3.mono hsz)⟩
      · clear hlt hx
        go_wp2_with fail
        refine (awake_any _ _ (Nat.le_refl _)).mono ?_
        rintro e w3 ⟨rfl, b3⟩
        go_wp2_with fail
        go_ret
        exact ⟨rfl, hd.trans (b3.mono hsz)⟩
end Go.Proofs.Ytlddankieinkoaa
