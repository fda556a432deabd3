/- The walk of the law BitsWrites. -/
import Derived.Test.YtadfgadkihlmcaaT
import Derived.Test.YtadfgadkihlmcaaO
import Derived.Deep.DeepCutAuto
import Derived.Deep.CutBlock
namespace Go.Proofs.Ytadfgadkihlmcaa
open Go.RowKit Zo

/-- What the walk is told of a slice of Acts that came in, not empty: the three numbers of each. -/
def IsActs (w : World) (b off len : Nat) (f : Nat → Int × Int × Int) : Prop :=
  b < w.heap.size ∧ ∀ i, i < len → w.cell? ⟨b, off + i * 3, none⟩ = some (.int .i64 (f i).1) ∧ w.cell? ⟨b, off + i * 3 + 1, none⟩ = some (.int .i64 (f i).2.1) ∧ w.cell? ⟨b, off + i * 3 + 2, none⟩ = some (.int .i64 (f i).2.2)

theorem IsActs.below {w w' : World} {b off len : Nat} {f : Nat → Int × Int × Int} (h : IsActs w b off len f) (bl : Below w.heap.size w w') (i : Nat) (hi : i < len) :
    w'.cell? ⟨b, off + i * 3, none⟩ = some (.int .i64 (f i).1) ∧ w'.cell? ⟨b, off + i * 3 + 1, none⟩ = some (.int .i64 (f i).2.1) ∧ w'.cell? ⟨b, off + i * 3 + 2, none⟩ = some (.int .i64 (f i).2.2) := by
  obtain ⟨h1, h2, h3⟩ := h.2 i hi
  exact ⟨(bl.cell (p := ⟨b, _, none⟩) h.1).trans h1, (bl.cell (p := ⟨b, _, none⟩) h.1).trans h2, (bl.cell (p := ⟨b, _, none⟩) h.1).trans h3⟩

/-- The Writer, which holds lw, and the law's own bits lv, beside each other, both made by the call. -/
def Both (W wr : World) (bw : Nat) (v : Value) (lw lv : List Bool) : Prop :=
  ∃ o, Wr wr W.heap.size bw o lw ∧ OwnBits wr W.heap.size v lv ∧ (∀ k, v.ownBlock = some k → o ≠ some k) ∧ Below W.heap.size W wr

theorem Both.down {W wr : World} {bw : Nat} {v : Value} {lw lv : List Bool} (h : Both W wr bw v lw lv) : Below W.heap.size W wr := by
  obtain ⟨_, _, _, _, h⟩ := h; exact h

theorem Both.own {W wr : World} {bw : Nat} {v : Value} {lw lv : List Bool} (h : Both W wr bw v lw lv) : OwnBits wr W.heap.size v lv := by
  obtain ⟨_, _, h, _, _⟩ := h; exact h

theorem Both.writer {W wr : World} {bw : Nat} {v : Value} {lw lv : List Bool} (h : Both W wr bw v lw lv) :
    ∃ o, Wr wr W.heap.size bw o lw ∧ ∀ lw' w', WPost wr W.heap.size bw o lw' w' → Both W w' bw v lw' lv := by
  obtain ⟨o, hw, hv, hd, bl⟩ := h
  refine ⟨o, hw, fun lw' w' p => ?_⟩
  have hb := p.below hw
  obtain ⟨o', h1, f, h3⟩ := p
  obtain ⟨⟨cs, hr⟩, _⟩ := hw.row
  refine ⟨o', h1, hv.fr f (fun k e hs => ?_), fun k e eo => ?_, bl.trans hb⟩
  · rcases hs with rfl | ho
    · exact ownsRow_ne hv hr (by decide) e.symm
    · exact hd k e ho
  · rcases h3 k eo with ho | hk
    · exact hd k e ho
    · have := (hv.lt k e).2; omega

/-- What is made anew turns neither. -/
theorem Both.new {W wr w' : World} {bw : Nat} {v : Value} {lw lv : List Bool} (h : Both W wr bw v lw lv) (b : Below wr.heap.size wr w') : Both W w' bw v lw lv := by
  obtain ⟨o, hw, hv, hd, bl⟩ := h
  obtain ⟨⟨cs, hr⟩, _, h2⟩ := hw.row
  exact ⟨o, hw.fr (Fr.of_below (S := fun _ => False) b) (fun _ _ h => h), hv.below b (Nat.le_refl _), hd, bl.trans (b.mono bl.size)⟩

/-- Behind an append to the law's own bits. -/
theorem Both.grown {W wr w' : World} {bw : Nat} {v v' : Value} {lw lv lv' : List Bool} (h : Both W wr bw v lw lv) (hown : OwnBits w' W.heap.size v' lv') (f : Fr (fun k => v.ownBlock = some k) wr w')
    (hat : ∀ k, v'.ownBlock = some k → v.ownBlock = some k ∨ wr.heap.size ≤ k) : Both W w' bw v' lw lv' := by
  obtain ⟨o, hw, hv, hd, bl⟩ := h
  obtain ⟨⟨cs, hr⟩, _, h2⟩ := hw.row
  refine ⟨o, hw.fr f (fun k hk e => ?_), hown, fun k e eo => ?_, bl.trans (f.below bl.size (fun k e => (hv.lt k e).1))⟩
  · rcases hk with rfl | ho
    · exact ownsRow_ne hv hr (by decide) e.symm
    · exact hd k e ho
  · rcases hat k e with ho | hk
    · exact hd k ho eo
    · obtain ⟨_, cs, hr2⟩ := h2 k eo
      have := row_lt hr2; omega

theorem Both.appended {W wr w' : World} {bw : Nat} {v v' : Value} {lw lv d : List Bool} (h : Both W wr bw v lw lv) (hown : w'.ownsRow W.heap.size 5 1 v' (lv.length + d.length) (bv lv ++ bv d)) (g : wr.grownBy w' v.ownBlock)
    (hat : v'.ownBlock = v.ownBlock ∨ v'.ownBlock = some wr.heap.size) : Both W w' bw v' lw (lv ++ d) := by
  refine h.grown (by unfold OwnBits; rw [List.length_append, bv_append]; exact hown) ((Fr.refl _ _).grown g (fun k _ e => e)) (fun k e => ?_)
  rcases hat with e1 | e1
  · exact .inl (e1 ▸ e)
  · rw [e1] at e; exact .inr (by have := Option.some.inj e; omega)

theorem Both.drewN {W wr : World} {bw : Nat} {v : Value} {lw lv : List Bool} (h : Both W wr bw v lw lv) (n : Nat) : Both W (wr.drewN n) bw v lw lv := by
  obtain ⟨o, hw, hv, hd, bl⟩ := h
  exact ⟨o, hw, hv, hd, ⟨bl.os, bl.tape, bl.output, bl.size, bl.block⟩⟩

theorem Wr.keeps {w w' : World} {B b : Nat} {o : Option Nat} {l l' : List Bool} (h : Wr w B b o l) (p : WPost w B b o l' w') {k : Nat} {cs : Array Value} {t : TypeId} {fr : Nat × Nat} (hk : w.heap[k]? = some (.cells cs t fr)) (h1 : t ≠ 109) (h2 : t ≠ 5) :
    w'.heap[k]? = some (.cells cs t fr) := by
  obtain ⟨_, _, f, _⟩ := p
  obtain ⟨⟨cs1, r1⟩, _, r2⟩ := h.row
  refine (f.block k (row_lt hk) (fun hs => ?_)).trans hk
  rcases hs with rfl | e
  · rw [hk] at r1; simp at r1; exact h1 r1.2.1
  · obtain ⟨_, cs2, r2⟩ := r2 k e
    rw [hk] at r2; simp at r2; exact h2 r2.2.1

theorem digits_new (x k : Int) (w : World) (hx : 0 ≤ x) (hx1 : x ≤ 4611686018427387904) (hk0 : 0 ≤ k) (hk : k ≤ 64) :
    Calls Try.prog 62 #[.int .i64 x, .int .i64 k] w fun e w' => ∃ v, e = .returned v ∧ NewBits w w' v (digs k.toNat x.toNat) := by
  refine (digits_any x k w hx hx1 hk0 hk).mono ?_
  rintro e w' ⟨g, rfl, hg, hr, bl⟩
  refine ⟨_, rfl, g, k.toNat, by rw [digs_length], hg, row_lt hr, ?_, bl⟩
  have := hr.owns hg (by rw [bv_length, digs_length]; unfold maxLen; omega)
  rw [bv_length, digs_length] at this
  rw [digs_length]
  exact this

end Go.Proofs.Ytadfgadkihlmcaa
