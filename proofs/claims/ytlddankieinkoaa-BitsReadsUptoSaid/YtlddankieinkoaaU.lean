/- The walk of the law BitsWrites. -/
import Derived.Test.YtlddankieinkoaaT
import Derived.Test.YtlddankieinkoaaO
import Derived.Deep.DeepCutAuto
import Derived.Deep.CutBlock
namespace Go.Proofs.Ytlddankieinkoaa
open Go.RowKit Zo

/-- What the walk is told of a slice of Acts that came in, not empty: the three numbers of each. -/
def IsActs (w : World) (b off len : Nat) (f : Nat → Int × Int × Int) : Prop :=
  b < w.heap.size ∧ ∀ i, i < len → w.cell? ⟨b, off + i * 3, none⟩ = some (.int .i64 (f i).1) ∧ w.cell? ⟨b, off + i * 3 + 1, none⟩ = some (.int .i64 (f i).2.1) ∧ w.cell? ⟨b, off + i * 3 + 2, none⟩ = some (.int .i64 (f i).2.2)

theorem IsActs.below {w w' : World} {b off len : Nat} {f : Nat → Int × Int × Int} (h : IsActs w b off len f) (bl : Below w.heap.size w w') (i : Nat) (hi : i < len) :
    w'.cell? ⟨b, off + i * 3, none⟩ = some (.int .i64 (f i).1) ∧ w'.cell? ⟨b, off + i * 3 + 1, none⟩ = some (.int .i64 (f i).2.1) ∧ w'.cell? ⟨b, off + i * 3 + 2, none⟩ = some (.int .i64 (f i).2.2) := by
  obtain ⟨h1, h2, h3⟩ := h.2 i hi
  exact ⟨(bl.cell (p := ⟨b, _, none⟩) h.1).trans h1, (bl.cell (p := ⟨b, _, none⟩) h.1).trans h2, (bl.cell (p := ⟨b, _, none⟩) h.1).trans h3⟩

/-- The Writer, which holds lw, and the law's own bits lv, beside each other, both made by the call. -/
def Both (W wr : World) (bw : Nat) (v : Value) (lw lv : List Bool) : Prop :=
  ∃ o, Wr wr W.heap.size bw o lw ∧ OwnBits wr W.heap.size v lv ∧ (∀ k, v.ownBlock = some k → o ≠ some k) ∧ Below W.heap.size W wr

theorem Both.down {W wr : World} {bw : Nat} {v : Value} {lw lv : List Bool} (h : Both W wr bw v lw lv) : Below W.heap.size W wr := by
  obtain ⟨_, _, _, _, h⟩ := h; exact h

theorem Both.own {W wr : World} {bw : Nat} {v : Value} {lw lv : List Bool} (h : Both W wr bw v lw lv) : OwnBits wr W.heap.size v lv := by
  obtain ⟨_, _, h, _, _⟩ := h; exact h

theorem Both.writer {W wr : World} {bw : Nat} {v : Value} {lw lv : List Bool} (h : Both W wr bw v lw lv) :
    ∃ o, Wr wr W.heap.size bw o lw ∧ ∀ lw' w', WPost wr W.heap.size bw o lw' w' → Both W w' bw v lw' lv := by
  obtain ⟨o, hw, hv, hd, bl⟩ := h
  refine ⟨o, hw, fun lw' w' p => ?_⟩
  have hb := p.below hw
  obtain ⟨o', h1, f, h3⟩ := p
  obtain ⟨⟨cs, hr⟩, _⟩ := hw.row
  refine ⟨o', h1, hv.fr f (fun k e hs => ?_), fun k e eo => ?_, bl.trans hb⟩
  · rcases hs with rfl | ho
    · exact ownsRow_ne hv hr (by decide) e.symm
    · exact hd k e ho
  · rcases h3 k eo with ho | hk
    · exact hd k e ho
    · have := (hv.lt k e).2; omega

/-- What is made anew turns neither. -/
theorem Both.new {W wr w' : World} {bw : Nat} {v : Value} {lw lv : List Bool} (h : Both W wr bw v lw lv) (b : Below wr.heap.size wr w') : Both W w' bw v lw lv := by
  obtain ⟨o, hw, hv, hd, bl⟩ := h
  obtain ⟨⟨cs, hr⟩, _, h2⟩ := hw.row
  exact ⟨o, hw.fr (Fr.of_below (S := fun _ => False) b) (fun _ _ h => h), hv.below b (Nat.le_refl _), hd, bl.trans (b.mono bl.size)⟩

/-- Behind an append to the law's own bits. -/
theorem Both.grown {W wr w' : World} {bw : Nat} {v v' : Value} {lw lv lv' : List Bool} (h : Both W wr bw v lw lv) (hown : OwnBits w' W.heap.size v' lv') (f : Fr (fun k => v.ownBlock = some k) wr w')
    (hat : ∀ k, v'.ownBlock = some k → v.ownBlock = some k ∨ wr.heap.size ≤ k) : Both W w' bw v' lw lv' := by
  obtain ⟨o, hw, hv, hd, bl⟩ := h
  obtain ⟨⟨cs, hr⟩, _, h2⟩ := hw.row
  refine ⟨o, hw.fr f (fun k hk e => ?_), hown, fun k e eo => ?_, bl.trans (f.below bl.size (fun k e => (hv.lt k e).1))⟩
  · rcases hk with rfl | ho
    · exact ownsRow_ne hv hr (by decide) e.symm
    · exact hd k e ho
  · rcases hat k e with ho | hk
    · exact hd k ho eo
    · obtain ⟨_, cs, hr2⟩ := h2 k eo
      have := row_lt hr2; omega

theorem Both.appended {W wr w' : World} {bw : Nat} {v v' : Value} {lw lv d : List Bool} (h : Both W wr bw v lw lv) (hown : w'.ownsRow W.heap.size 5 1 v' (lv.length + d.length) (bv lv ++ bv d)) (g : wr.grownBy w' v.ownBlock)
    (hat : v'.ownBlock = v.ownBlock ∨ v'.ownBlock = some wr.heap.size) : Both W w' bw v' lw (lv ++ d) := by
  refine h.grown (by unfold OwnBits; rw [List.length_append, bv_append]; exact hown) ((Fr.refl _ _).grown g (fun k _ e => e)) (fun k e => ?_)
  rcases hat with e1 | e1
  · exact .inl (e1 ▸ e)
  · rw [e1] at e; exact .inr (by have := Option.some.inj e; omega)

theorem Both.drewN {W wr : World} {bw : Nat} {v : Value} {lw lv : List Bool} (h : Both W wr bw v lw lv) (n : Nat) : Both W (wr.drewN n) bw v lw lv := by
  obtain ⟨o, hw, hv, hd, bl⟩ := h
  exact ⟨o, hw, hv, hd, ⟨bl.os, bl.tape, bl.output, bl.size, bl.block⟩⟩

theorem Wr.keeps {w w' : World} {B b : Nat} {o : Option Nat} {l l' : List Bool} (h : Wr w B b o l) (p : WPost w B b o l' w') {k : Nat} {cs : Array Value} {t : TypeId} {fr : Nat × Nat} (hk : w.heap[k]? = some (.cells cs t fr)) (h1 : t ≠ 63) (h2 : t ≠ 5) :
    w'.heap[k]? = some (.cells cs t fr) := by
  obtain ⟨_, _, f, _⟩ := p
  obtain ⟨⟨cs1, r1⟩, _, r2⟩ := h.row
  refine (f.block k (row_lt hk) (fun hs => ?_)).trans hk
  rcases hs with rfl | e
  · rw [hk] at r1; simp at r1; exact h1 r1.2.1
  · obtain ⟨_, cs2, r2⟩ := r2 k e
    rw [hk] at r2; simp at r2; exact h2 r2.2.1

theorem act_cells {w : World} {k : Nat} {K X N : Value} (h : w.heap[k]? = some (.cells #[K, X, N] 27 (0, 0))) :
    w.cell? ⟨k, 0, none⟩ = some K ∧ w.cell? ⟨k, 1, none⟩ = some X ∧ w.cell? ⟨k, 2, none⟩ = some N := by
  have h0 := cell_of_row w k 0 _ _ _ h
  have h1 := cell_of_row w k 1 _ _ _ h
  have h2 := cell_of_row w k 2 _ _ _ h
  simp at h0 h1 h2
  exact ⟨h0, h1, h2⟩

theorem digits_new (x k : Int) (w : World) (hx : 0 ≤ x) (hx1 : x ≤ 4611686018427387904) (hk0 : 0 ≤ k) (hk : k ≤ 64) :
    Calls Try.prog 13 #[.int .i64 x, .int .i64 k] w fun e w' => ∃ v, e = .returned v ∧ NewBits w w' v (digs k.toNat x.toNat) := by
  refine (digits_any x k w hx hx1 hk0 hk).mono ?_
  rintro e w' ⟨g, rfl, hg, hr, bl⟩
  refine ⟨_, rfl, g, k.toNat, by rw [digs_length], hg, row_lt hr, ?_, bl⟩
  have := hr.owns hg (by rw [bv_length, digs_length]; unfold maxLen; omega)
  rw [bv_length, digs_length] at this
  rw [digs_length]
  exact this

set_option maxRecDepth 100000 in
set_option maxHeartbeats 3200000 in
theorem writes_some (b0 off len cap : Nat) (f : Nat → Int × Int × Int) (w : World) (hacts : IsActs w b0 off len f) (hbig : len ≤ 9223372036854775807) :
    Calls Try.prog 3 #[.slice (some ⟨b0, off, none⟩) len cap] w fun e w' => e = .returned (.bool true) ∧ Below w.heap.size w w' := by
  have HA := Lib.hid hacts
  clear hacts
  go_enter Try.func3, Try.ntmps3
  go_wp2_with fail
  refine (new_any _ _ (Nat.le_refl _)).mono ?_
  rintro e w1 ⟨rfl, h1, f1, _⟩
  have bl1 : Below w.heap.size w w1 := f1.below (Nat.le_refl _) (fun _ h => h.elim)
  generalize hbw : w.heap.size = bw at h1 ⊢
  go_wp2_with fail
  go_loopg [4, 5] 100 (fun q v i wr => ∃ (v0 : Value) (j : Nat) (l : List Bool), v0 = v ∧ j ≤ len ∧ j + q = 100 ∧ i = .int .i64 (j : Int) ∧ l.length ≤ 200 * j ∧ Both w wr bw v0 l l)
  case atStart =>
    subst hbw
    exact ⟨.slice none 0 0, 0, [], rfl, by omega, by omega, rfl, by simp, none, h1, World.ownsRow_nil _ _ _ _, fun k e => by simp [Value.ownBlock] at e, bl1⟩
  case round =>
    clear h1 f1 bl1 hbw
    obtain ⟨v0, j, l, rfl, hj, hq, rfl, hll, hboth⟩ := hrel
    by_cases hlt : j < len ∧ j < 100
    · obtain ⟨hlt1, hlt2⟩ := hlt
      obtain ⟨c0, c1, c2⟩ := HA.out.below hboth.down j hlt1
      generalize f j = act at c0 c1 c2
      obtain ⟨K, X, N⟩ := act
      simp only at c0 c1 c2
      obtain ⟨i0, hi, hz0, hz1, hz2⟩ := info_parts Try.info5
      go_upto_block 2 with fail
      have hboth := hboth.new ((Below.refl _ _).alloc (Nat.le_refl _) (.cells #[.int .i64 K, .int .i64 X, .int .i64 N] 27))
      have hrow := heap_alloc_last wr (.cells #[.int .i64 K, .int .i64 X, .int .i64 N] 27)
      have hsz : wr.heap.size < (wr.alloc (.cells #[.int .i64 K, .int .i64 X, .int .i64 N] 27)).heap.size := by simp
      clear c0 c1 c2
      generalize wr.alloc (.cells #[.int .i64 K, .int .i64 X, .int .i64 N] 27) = wa at *
      go_cut [4, 7, 8] (fun v' e want wx => ∃ (l' : List Bool) (c : Int), e = .int .i64 c ∧ want = .int .i64 c ∧ l'.length ≤ 200 * (j + 1) ∧ Both w wx bw v' l' l')
      case first =>
        obtain ⟨d0, d1, d2⟩ := act_cells hrow
        by_cases k0 : K = 0
        · subst k0
          by_cases hok : 0 ≤ N ∧ N ≤ 32 ∧ 0 ≤ X ∧ X.toNat < 2 ^ N.toNat
          · have A := Lib.hid (show bitsAns X N = (0, digs N.toNat X.toNat) by rw [bitsAns, if_pos hok])
            obtain ⟨g1, g2, g3, g4⟩ := hok
            obtain ⟨n, rfl⟩ := Int.eq_ofNat_of_zero_le g1
            obtain ⟨x, rfl⟩ := Int.eq_ofNat_of_zero_le g3
            simp only [Int.toNat_natCast] at A g4
            have hd : decide ((x : Int) < wrap64 (2 ^ n)) = true := by
              rw [wrap64_two_pow n (by omega), (two_pow_le32 n (by omega)).2.2]; simp; exact_mod_cast g4
            have hx32 : (x : Int) ≤ 4294967296 := by have := (two_pow_le32 n (by omega)).2; omega
            have G4 := Lib.hid g4
            clear g4
            obtain ⟨o, hw, hnext⟩ := hboth.writer
            go_wp2_with fail
            refine (bitsW_any _ _ _ _ _ _ _ hw (by omega)).mono ?_
            rw [A.out]
            rintro e w3 ⟨rfl, p3⟩
            have hboth := hnext _ _ p3
            have hrow := hw.keeps p3 hrow (by decide) (by decide)
            clear hnext hw p3 d0 d1 d2
            obtain ⟨d0, d1, d2⟩ := act_cells hrow
            go_wp2_with (go_at_call 12; refine (num_any _ _).mono ?_; rintro e w' ⟨rfl, rfl⟩)
            go_quiet (fail)
            go_wp2_with fail
            refine (digits_new _ _ _ (by omega) (by omega) (by omega) (by omega)).mono ?_
            simp only [Int.toNat_natCast]
            rintro e w4 ⟨v', rfl, hv'⟩
            obtain ⟨g', cap', rfl, _, _, hown', bl'⟩ := hv'
            have hboth := (hboth.drewN nq).new bl'
            have hz' := hboth.down.size
            have hnews := World.ownsRow.cells hown' rfl
            have hdl : (digs n x).length ≤ 200 := by rw [digs_length]; omega
            clear hown' bl'
            generalize (digs n x) = dl at *
            go_wp2_with (refine wpList_append_own_at _ rfl (.tmp 65) (.tmp 70) 25 rfl w.heap.size 5 i0 (.int .u8 0) 1 1 Try.underlying25 hi hz0 hz1 hz2 ?_ ?_ v0 l.length (bv l) ?_ hboth.own ⟨g', 0, none⟩ dl.length cap' (bv dl) ?_ ?_ hnews (bv_one _) ?_ ?_ hz' ?_; rfl; decide; rfl; rfl; (simp [bv_length]); (unfold maxLen; omega); omega; intro v2 w5 hown5 hgrow5 _ hat5)
            go_meet
            exact ⟨l ++ dl, 0, rfl, rfl, by rw [List.length_append]; omega, hboth.appended hown5 hgrow5 hat5⟩
          · have A := Lib.hid (show bitsAns X N = (101, []) by rw [bitsAns, if_neg hok])
            by_cases n0 : N < 0
            · have n0' : decide (0 ≤ N) = false := by simpa using n0
              clear hok
              obtain ⟨o, hw, hnext⟩ := hboth.writer
              go_wp2_with fail
              refine (bitsW_any _ _ _ _ _ _ _ hw (by omega)).mono ?_
              rw [A.out]
              rintro e w3 ⟨rfl, p3⟩
              have hboth := hnext _ _ p3
              have hrow := hw.keeps p3 hrow (by decide) (by decide)
              clear hnext hw p3 d0 d1 d2
              obtain ⟨d0, d1, d2⟩ := act_cells hrow
              go_wp2_with (go_at_call 12; refine (num_any _ _).mono ?_; rintro e w' ⟨rfl, rfl⟩)
              go_quiet (fail)
              go_wp2_with fail
              rw [List.append_nil] at hboth
              go_meet
              exact ⟨l, 101, rfl, rfl, by omega, (hboth.drewN _)⟩
            · have n0' : 0 ≤ N := by omega
              by_cases n1 : 32 < N
              · have n1' : decide (N ≤ 32) = false := by simpa using n1
                clear hok
                obtain ⟨o, hw, hnext⟩ := hboth.writer
                go_wp2_with fail
                refine (bitsW_any _ _ _ _ _ _ _ hw (by omega)).mono ?_
                rw [A.out]
                rintro e w3 ⟨rfl, p3⟩
                have hboth := hnext _ _ p3
                have hrow := hw.keeps p3 hrow (by decide) (by decide)
                clear hnext hw p3 d0 d1 d2
                obtain ⟨d0, d1, d2⟩ := act_cells hrow
                go_wp2_with (go_at_call 12; refine (num_any _ _).mono ?_; rintro e w' ⟨rfl, rfl⟩)
                go_quiet (fail)
                go_wp2_with fail
                rw [List.append_nil] at hboth
                go_meet
                exact ⟨l, 101, rfl, rfl, by omega, (hboth.drewN _)⟩
              · have n1' : N ≤ 32 := by omega
                by_cases x0 : X < 0
                · have x0' : decide (0 ≤ X) = false := by simpa using x0
                  clear hok
                  obtain ⟨o, hw, hnext⟩ := hboth.writer
                  go_wp2_with fail
                  refine (bitsW_any _ _ _ _ _ _ _ hw (by omega)).mono ?_
                  rw [A.out]
                  rintro e w3 ⟨rfl, p3⟩
                  have hboth := hnext _ _ p3
                  have hrow := hw.keeps p3 hrow (by decide) (by decide)
                  clear hnext hw p3 d0 d1 d2
                  obtain ⟨d0, d1, d2⟩ := act_cells hrow
                  go_wp2_with (go_at_call 12; refine (num_any _ _).mono ?_; rintro e w' ⟨rfl, rfl⟩)
                  go_quiet (fail)
                  go_wp2_with fail
                  rw [List.append_nil] at hboth
                  go_meet
                  exact ⟨l, 101, rfl, rfl, by omega, (hboth.drewN _)⟩
                · obtain ⟨n, rfl⟩ := Int.eq_ofNat_of_zero_le n0'
                  obtain ⟨x, rfl⟩ := Int.eq_ofNat_of_zero_le (show 0 ≤ X by omega)
                  have hd : decide ((x : Int) < wrap64 (2 ^ n)) = false := by
                    rw [wrap64_two_pow n (by omega), (two_pow_le32 n (by omega)).2.2]
                    simp only [Int.toNat_natCast] at hok
                    rw [decide_eq_false_iff_not]
                    intro hlt
                    exact hok ⟨by omega, by omega, by omega, by exact_mod_cast hlt⟩
                  clear hok
                  obtain ⟨o, hw, hnext⟩ := hboth.writer
                  go_wp2_with fail
                  refine (bitsW_any _ _ _ _ _ _ _ hw (by omega)).mono ?_
                  rw [A.out]
                  rintro e w3 ⟨rfl, p3⟩
                  have hboth := hnext _ _ p3
                  have hrow := hw.keeps p3 hrow (by decide) (by decide)
                  clear hnext hw p3 d0 d1 d2
                  obtain ⟨d0, d1, d2⟩ := act_cells hrow
                  go_wp2_with (go_at_call 12; refine (num_any _ _).mono ?_; rintro e w' ⟨rfl, rfl⟩)
                  go_quiet (fail)
                  go_wp2_with fail
                  rw [List.append_nil] at hboth
                  go_meet
                  exact ⟨l, 101, rfl, rfl, by omega, (hboth.drewN _)⟩
        · have k0' : (K == 0) = false := by simpa using k0
          by_cases k1 : K = 1
          · subst k1
            clear k0 k0'
            by_cases hok : 0 ≤ X ∧ X ≤ 2147483646
            · have A := Lib.hid (show ueAns X = (0, ueB X.toNat) by rw [ueAns, if_pos hok])
              obtain ⟨g1, g2⟩ := hok
              obtain ⟨o, hw, hnext⟩ := hboth.writer
              go_wp2_with fail
              refine (ue_any _ _ _ _ _ _ hw (by omega)).mono ?_
              rw [A.out]
              rintro e w3 ⟨rfl, p3⟩
              have hboth := hnext _ _ p3
              have hrow := hw.keeps p3 hrow (by decide) (by decide)
              clear hnext hw p3 d0 d1 d2
              obtain ⟨d0, d1, d2⟩ := act_cells hrow
              go_wp2_with (go_at_call 12; refine (num_any _ _).mono ?_; rintro e w' ⟨rfl, rfl⟩)
              refine (ueRef_any _ _ (by omega) (by omega)).mono ?_
              rintro e w4 ⟨v', rfl, hv'⟩
              obtain ⟨g', cap', rfl, _, _, hown', bl'⟩ := hv'
              have hboth := hboth.new bl'
              have hz' := hboth.down.size
              have hnews := World.ownsRow.cells hown' rfl
              have hdl : (ueB X.toNat).length ≤ 200 := by have := (ueB_length X.toNat (by omega)).2; omega
              clear hown' bl'
              generalize (ueB X.toNat) = dl at *
              go_wp2_with (refine wpList_append_own_at _ rfl (.tmp 88) (.tmp 91) 25 rfl w.heap.size 5 i0 (.int .u8 0) 1 1 Try.underlying25 hi hz0 hz1 hz2 ?_ ?_ v0 l.length (bv l) ?_ hboth.own ⟨g', 0, none⟩ dl.length cap' (bv dl) ?_ ?_ hnews (bv_one _) ?_ ?_ hz' ?_; rfl; decide; rfl; rfl; (simp [bv_length]); (unfold maxLen; omega); omega; intro v2 w5 hown5 hgrow5 _ hat5)
              go_meet
              exact ⟨l ++ dl, 0, rfl, rfl, by rw [List.length_append]; omega, hboth.appended hown5 hgrow5 hat5⟩
            · have A := Lib.hid (show ueAns X = (101, []) by rw [ueAns, if_neg hok])
              by_cases g1 : X < 0
              · clear hok
                obtain ⟨o, hw, hnext⟩ := hboth.writer
                go_wp2_with fail
                refine (ue_any _ _ _ _ _ _ hw (by omega)).mono ?_
                rw [A.out]
                rintro e w3 ⟨rfl, p3⟩
                have hboth := hnext _ _ p3
                have hrow := hw.keeps p3 hrow (by decide) (by decide)
                clear hnext hw p3 d0 d1 d2
                obtain ⟨d0, d1, d2⟩ := act_cells hrow
                go_wp2_with (go_at_call 12; refine (num_any _ _).mono ?_; rintro e w' ⟨rfl, rfl⟩)
                rw [List.append_nil] at hboth
                go_meet
                exact ⟨l, 101, rfl, rfl, by omega, hboth⟩
              · have g2 : 2147483646 < X := by omega
                clear hok
                obtain ⟨o, hw, hnext⟩ := hboth.writer
                go_wp2_with fail
                refine (ue_any _ _ _ _ _ _ hw (by omega)).mono ?_
                rw [A.out]
                rintro e w3 ⟨rfl, p3⟩
                have hboth := hnext _ _ p3
                have hrow := hw.keeps p3 hrow (by decide) (by decide)
                clear hnext hw p3 d0 d1 d2
                obtain ⟨d0, d1, d2⟩ := act_cells hrow
                go_wp2_with (go_at_call 12; refine (num_any _ _).mono ?_; rintro e w' ⟨rfl, rfl⟩)
                rw [List.append_nil] at hboth
                go_meet
                exact ⟨l, 101, rfl, rfl, by omega, hboth⟩
          · have k1' : (K == 1) = false := by simpa using k1
            by_cases k2 : K = 2
            · subst k2
              clear k0 k0' k1 k1'
              by_cases hok : -1073741823 ≤ X ∧ X ≤ 1073741823
              · have A := Lib.hid (show seAns X = (0, seB X) by rw [seAns, if_pos hok])
                obtain ⟨g1, g2⟩ := hok
                obtain ⟨o, hw, hnext⟩ := hboth.writer
                go_wp2_with fail
                refine (se_any _ _ _ _ _ _ hw (by omega)).mono ?_
                rw [A.out]
                rintro e w3 ⟨rfl, p3⟩
                have hboth := hnext _ _ p3
                have hrow := hw.keeps p3 hrow (by decide) (by decide)
                clear hnext hw p3 d0 d1 d2
                obtain ⟨d0, d1, d2⟩ := act_cells hrow
                go_wp2_with (go_at_call 12; refine (num_any _ _).mono ?_; rintro e w' ⟨rfl, rfl⟩)
                refine (seRef_any _ _ (by omega) (by omega)).mono ?_
                rintro e w4 ⟨v', rfl, hv'⟩
                obtain ⟨g', cap', rfl, _, _, hown', bl'⟩ := hv'
                have hboth := hboth.new bl'
                have hz' := hboth.down.size
                have hnews := World.ownsRow.cells hown' rfl
                have hdl : (seB X).length ≤ 200 := by exact Nat.le_trans (ueB_length _ (foldedN_le X (by omega) (by omega))).2 (by omega)
                clear hown' bl'
                generalize (seB X) = dl at *
                go_wp2_with (refine wpList_append_own_at _ rfl (.tmp 109) (.tmp 112) 25 rfl w.heap.size 5 i0 (.int .u8 0) 1 1 Try.underlying25 hi hz0 hz1 hz2 ?_ ?_ v0 l.length (bv l) ?_ hboth.own ⟨g', 0, none⟩ dl.length cap' (bv dl) ?_ ?_ hnews (bv_one _) ?_ ?_ hz' ?_; rfl; decide; rfl; rfl; (simp [bv_length]); (unfold maxLen; omega); omega; intro v2 w5 hown5 hgrow5 _ hat5)
                go_meet
                exact ⟨l ++ dl, 0, rfl, rfl, by rw [List.length_append]; omega, hboth.appended hown5 hgrow5 hat5⟩
              · have A := Lib.hid (show seAns X = (101, []) by rw [seAns, if_neg hok])
                by_cases g1 : X < -1073741823
                · clear hok
                  obtain ⟨o, hw, hnext⟩ := hboth.writer
                  go_wp2_with fail
                  refine (se_any _ _ _ _ _ _ hw (by omega)).mono ?_
                  rw [A.out]
                  rintro e w3 ⟨rfl, p3⟩
                  have hboth := hnext _ _ p3
                  have hrow := hw.keeps p3 hrow (by decide) (by decide)
                  clear hnext hw p3 d0 d1 d2
                  obtain ⟨d0, d1, d2⟩ := act_cells hrow
                  go_wp2_with (go_at_call 12; refine (num_any _ _).mono ?_; rintro e w' ⟨rfl, rfl⟩)
                  rw [List.append_nil] at hboth
                  go_meet
                  exact ⟨l, 101, rfl, rfl, by omega, hboth⟩
                · have g2 : 1073741823 < X := by omega
                  clear hok
                  obtain ⟨o, hw, hnext⟩ := hboth.writer
                  go_wp2_with fail
                  refine (se_any _ _ _ _ _ _ hw (by omega)).mono ?_
                  rw [A.out]
                  rintro e w3 ⟨rfl, p3⟩
                  have hboth := hnext _ _ p3
                  have hrow := hw.keeps p3 hrow (by decide) (by decide)
                  clear hnext hw p3 d0 d1 d2
                  obtain ⟨d0, d1, d2⟩ := act_cells hrow
                  go_wp2_with (go_at_call 12; refine (num_any _ _).mono ?_; rintro e w' ⟨rfl, rfl⟩)
                  rw [List.append_nil] at hboth
                  go_meet
                  exact ⟨l, 101, rfl, rfl, by omega, hboth⟩
            · have k2' : (K == 2) = false := by simpa using k2
              by_cases k3 : K = 3
              · subst k3
                clear k0 k0' k1 k1' k2 k2'
                by_cases hok : 1 ≤ N ∧ 0 ≤ X ∧ X ≤ N ∧ X ≤ 2147483646
                · have A := Lib.hid (show teAns X N = (0, (teAns X N).2) by
                    obtain ⟨g1, g2, g3, g4⟩ := hok
                    unfold teAns
                    rw [if_pos ⟨g1, g2, g3⟩]
                    split
                    · rfl
                    · rw [ueAns, if_pos ⟨g2, g4⟩])
                  have hTL := Lib.hid (show (teAns X N).2.length ≤ 61 by
                    obtain ⟨g1, g2, g3, g4⟩ := hok
                    unfold teAns
                    rw [if_pos ⟨g1, g2, g3⟩]
                    split
                    · simp
                    · rw [ueAns, if_pos ⟨g2, g4⟩]; exact (ueB_length _ (by omega)).2)
                  obtain ⟨g1, g2, g3, g4⟩ := hok
                  obtain ⟨o, hw, hnext⟩ := hboth.writer
                  go_wp2_with fail
                  refine (te_any _ _ _ _ _ _ _ hw (by omega)).mono ?_
                  rw [A.out]
                  rintro e w3 ⟨rfl, p3⟩
                  have hboth := hnext _ _ p3
                  have hrow := hw.keeps p3 hrow (by decide) (by decide)
                  clear hnext hw p3 d0 d1 d2
                  obtain ⟨d0, d1, d2⟩ := act_cells hrow
                  go_wp2_with (go_at_call 12; refine (num_any _ _).mono ?_; rintro e w' ⟨rfl, rfl⟩)
                  refine (teRef_any _ _ _ (by omega) (by omega) (by omega) (by omega)).mono ?_
                  rintro e w4 ⟨v', rfl, hv'⟩
                  obtain ⟨g', cap', rfl, _, _, hown', bl'⟩ := hv'
                  have hboth := hboth.new bl'
                  have hz' := hboth.down.size
                  have hnews := World.ownsRow.cells hown' rfl
                  have hdl : ((teAns X N).2).length ≤ 200 := by have := hTL.out; omega
                  clear hown' bl'
                  generalize ((teAns X N).2) = dl at *
                  go_wp2_with (refine wpList_append_own_at _ rfl (.tmp 144) (.tmp 149) 25 rfl w.heap.size 5 i0 (.int .u8 0) 1 1 Try.underlying25 hi hz0 hz1 hz2 ?_ ?_ v0 l.length (bv l) ?_ hboth.own ⟨g', 0, none⟩ dl.length cap' (bv dl) ?_ ?_ hnews (bv_one _) ?_ ?_ hz' ?_; rfl; decide; rfl; rfl; (simp [bv_length]); (unfold maxLen; omega); omega; intro v2 w5 hown5 hgrow5 _ hat5)
                  go_meet
                  exact ⟨l ++ dl, 0, rfl, rfl, by rw [List.length_append]; omega, hboth.appended hown5 hgrow5 hat5⟩
                · have A := Lib.hid (show teAns X N = (101, []) by
                    unfold teAns
                    split
                    · split
                      · omega
                      · rw [ueAns, if_neg (by omega)]
                    · rfl)
                  by_cases g1 : N < 1
                  · clear hok
                    obtain ⟨o, hw, hnext⟩ := hboth.writer
                    go_wp2_with fail
                    refine (te_any _ _ _ _ _ _ _ hw (by omega)).mono ?_
                    rw [A.out]
                    rintro e w3 ⟨rfl, p3⟩
                    have hboth := hnext _ _ p3
                    have hrow := hw.keeps p3 hrow (by decide) (by decide)
                    clear hnext hw p3 d0 d1 d2
                    obtain ⟨d0, d1, d2⟩ := act_cells hrow
                    go_wp2_with (go_at_call 12; refine (num_any _ _).mono ?_; rintro e w' ⟨rfl, rfl⟩)
                    rw [List.append_nil] at hboth
                    go_meet
                    exact ⟨l, 101, rfl, rfl, by omega, hboth⟩
                  · have g1' : 1 ≤ N := by omega
                    by_cases g2 : X < 0
                    · clear hok
                      obtain ⟨o, hw, hnext⟩ := hboth.writer
                      go_wp2_with fail
                      refine (te_any _ _ _ _ _ _ _ hw (by omega)).mono ?_
                      rw [A.out]
                      rintro e w3 ⟨rfl, p3⟩
                      have hboth := hnext _ _ p3
                      have hrow := hw.keeps p3 hrow (by decide) (by decide)
                      clear hnext hw p3 d0 d1 d2
                      obtain ⟨d0, d1, d2⟩ := act_cells hrow
                      go_wp2_with (go_at_call 12; refine (num_any _ _).mono ?_; rintro e w' ⟨rfl, rfl⟩)
                      rw [List.append_nil] at hboth
                      go_meet
                      exact ⟨l, 101, rfl, rfl, by omega, hboth⟩
                    · have g2' : 0 ≤ X := by omega
                      by_cases g3 : N < X
                      · clear hok
                        obtain ⟨o, hw, hnext⟩ := hboth.writer
                        go_wp2_with fail
                        refine (te_any _ _ _ _ _ _ _ hw (by omega)).mono ?_
                        rw [A.out]
                        rintro e w3 ⟨rfl, p3⟩
                        have hboth := hnext _ _ p3
                        have hrow := hw.keeps p3 hrow (by decide) (by decide)
                        clear hnext hw p3 d0 d1 d2
                        obtain ⟨d0, d1, d2⟩ := act_cells hrow
                        go_wp2_with (go_at_call 12; refine (num_any _ _).mono ?_; rintro e w' ⟨rfl, rfl⟩)
                        rw [List.append_nil] at hboth
                        go_meet
                        exact ⟨l, 101, rfl, rfl, by omega, hboth⟩
                      · have g3' : X ≤ N := by omega
                        have g4 : 2147483646 < X := by omega
                        clear hok
                        obtain ⟨o, hw, hnext⟩ := hboth.writer
                        go_wp2_with fail
                        refine (te_any _ _ _ _ _ _ _ hw (by omega)).mono ?_
                        rw [A.out]
                        rintro e w3 ⟨rfl, p3⟩
                        have hboth := hnext _ _ p3
                        have hrow := hw.keeps p3 hrow (by decide) (by decide)
                        clear hnext hw p3 d0 d1 d2
                        obtain ⟨d0, d1, d2⟩ := act_cells hrow
                        go_wp2_with (go_at_call 12; refine (num_any _ _).mono ?_; rintro e w' ⟨rfl, rfl⟩)
                        rw [List.append_nil] at hboth
                        go_meet
                        exact ⟨l, 101, rfl, rfl, by omega, hboth⟩
              · have k3' : (K == 3) = false := by simpa using k3
                clear k0 k1 k2 k3
                obtain ⟨o, hw, hnext⟩ := hboth.writer
                go_wp2_with fail
                refine (trailW_any _ _ _ _ _ hw (by omega)).mono ?_
                rintro e w3 ⟨rfl, p3⟩
                have hboth := hnext _ _ p3
                clear hnext hw p3 d0 d1 d2
                go_wp2_with fail
                refine (trailRef_any _ _ _ _ hboth.own hboth.down.size (by omega)).mono ?_
                rintro e w4 ⟨v', rfl, ha1, ha2, ha3⟩
                go_wp2_with fail
                go_meet
                exact ⟨l ++ trailB l.length, 0, rfl, rfl, by simp [trailB]; omega, hboth.grown ha1 ha2 ha3⟩
      case rest =>
        obtain ⟨l', c, rfl, rfl, hll', hboth'⟩ := hcut
        clear hboth hrow hsz hll
        obtain ⟨o, hw, hnext⟩ := hboth'.writer
        obtain ⟨a', cap', rfl⟩ := hboth'.own.shape
        go_wp2_with fail
        refine (len_any _ _ _ _ _ hw (by omega)).mono ?_
        rintro e w3 ⟨rfl, p3⟩
        have hboth := hnext _ _ p3
        clear hnext hboth' hw p3
        obtain ⟨o, hw, hnext⟩ := hboth.writer
        go_wp2_with fail
        refine (bytes_any _ _ _ _ _ hw (by omega)).mono ?_
        rintro e w4 ⟨rfl, p4⟩
        have hboth := hnext _ _ p4
        clear hnext hw p4
        go_wp2_with fail
        refine (pack_any _ _ _ _ hboth.own (by omega)).mono ?_
        rintro e w5 ⟨rfl, b5⟩
        have hboth := hboth.new b5
        go_wp2_with fail
        go_roundg (gk - 1)
        case measure => omega
        case rel => exact ⟨_, j + 1, l', rfl, by omega, by omega, by go_num, hll', hboth⟩
    · have hx : ¬ (j < len ∧ j < 100) := hlt
      have hd := hboth.down
      have hsz := hd.size
      by_cases hlen : j < len
      · have h100 : ¬ j < 100 := fun h => hx ⟨hlen, h⟩
        clear hlt hx
        go_wp2_with fail
        refine (awake_any _ _ (Nat.le_refl _)).mono ?_
        rintro e w3 ⟨rfl, b3⟩
        go_wp2_with fail
        go_ret
        exact ⟨rfl, hd.trans (b3.mono hsz)⟩
      · clear hlt hx
        go_wp2_with fail
        refine (awake_any _ _ (Nat.le_refl _)).mono ?_
        rintro e w3 ⟨rfl, b3⟩
        go_wp2_with fail
        go_ret
        exact ⟨rfl, hd.trans (b3.mono hsz)⟩
end Go.Proofs.Ytlddankieinkoaa
