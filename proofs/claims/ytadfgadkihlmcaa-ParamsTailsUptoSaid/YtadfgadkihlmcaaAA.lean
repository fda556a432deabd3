/- The walk of the law BitsReads: the Reader and the document's own, beside each other. -/
import Derived.Test.YtadfgadkihlmcaaZ
import Derived.Test.YtadfgadkihlmcaaV
import Derived.RegionCalls
import Derived.Deep.RegionWith
import Derived.Deep.RegionHeld3
namespace Go.Proofs.Ytadfgadkihlmcaa
open Go.RowKit Zo

theorem bitAt_end (s : ByteArray) (i : Nat) (h : 8 * s.size ≤ i) : bitAt s i = false := by
  rw [bitAt, byteAt_end s (by omega)]; simp

theorem fl_win (s : ByteArray) : fl (win (bitAt s) 0 (8 * s.size)) = bitAt s := by
  funext i
  by_cases h : i < 8 * s.size
  · rw [fl, List.getD_eq_getElem?_getD, win_get _ _ _ _ h, Nat.zero_add]; rfl
  · rw [fl_end _ _ (by rw [win_length]; omega), bitAt_end s i (by omega)]

theorem past_exists (s : ByteArray) : ∃ q, IsPast (bitAt s) (8 * s.size) q := by
  have key : ∀ n, n ≤ 8 * s.size → (∀ i, n ≤ i → bitAt s i = false) → ∃ q, IsPast (bitAt s) (8 * s.size) q := by
    intro n
    induction n with
    | zero => intro _ h; exact ⟨0, by omega, fun i _ => h i (by omega), fun h => by omega⟩
    | succ n ih =>
      intro hn h
      cases hb : bitAt s n with
      | true => exact ⟨n + 1, hn, h, fun _ => hb⟩
      | false =>
        refine ih (by omega) (fun i hi => ?_)
        by_cases hin : i = n
        · rw [hin]; exact hb
        · exact h i (by omega)
  exact key (8 * s.size) (Nat.le_refl _) (fun i hi => bitAt_end s i hi)

theorem RRd.row {w : World} {base b : Nat} {l : List Bool} {p : Nat} (h : RRd w base b l p) : ∃ cs, w.heap[b]? = some (.cells cs 98 (0,0)) := by
  obtain ⟨g, cap, hr, _⟩ := h; exact ⟨_, hr⟩

theorem RRd.fr {S : Nat → Prop} {w w' : World} {base b : Nat} {l : List Bool} {p : Nat} (h : RRd w base b l p) (f : Fr S w w') (hb : ¬ S b) (hr5 : ∀ k cs, w.heap[k]? = some (.cells cs 5 (0,0)) → ¬ S k) : RRd w' base b l p := by
  obtain ⟨g, cap, hr, hbb, ho, hp⟩ := h
  refine ⟨g, cap, (f.block b (row_lt hr) hb).trans hr, hbb, ho.fr f (fun k e => ?_), hp⟩
  rcases ho.2 with ⟨h, _⟩ | ⟨g2, cap2, cur, h, _, hg, _⟩
  · cases h
  · rw [h] at e
    simp [Value.ownBlock] at e
    subst e
    exact hr5 _ _ hg

/-- Both Readers at one place. -/
def Twin (W wr : World) (br bo : Nat) (s : ByteArray) (p p' : Nat) : Prop :=
  Rd wr W.heap.size br s p ∧ RRd wr W.heap.size bo (win (bitAt s) 0 (8 * s.size)) p' ∧ Below W.heap.size W wr

theorem Twin.rd {W wr w' : World} {br bo : Nat} {s : ByteArray} {p p' q : Nat} (h : Twin W wr br bo s p p') (r : RPost wr W.heap.size br s q w') : Twin W w' br bo s q p' := by
  obtain ⟨h1, h2, bl⟩ := h
  obtain ⟨⟨cs, c1⟩, _⟩ := h1.row
  obtain ⟨cs2, c2⟩ := h2.row
  refine ⟨r.1, h2.fr r.2 (fun e => ?_) (fun k cs3 c3 e => ?_), bl.trans (r.below h1)⟩
  · subst e; rw [c1] at c2; simp at c2
  · subst e; rw [c1] at c3; simp at c3

theorem Twin.ref {W wr w' : World} {br bo : Nat} {s : ByteArray} {p p' q : Nat} (h : Twin W wr br bo s p p') (r : RRPost wr W.heap.size bo (win (bitAt s) 0 (8 * s.size)) q w') : Twin W w' br bo s p q := by
  obtain ⟨h1, h2, bl⟩ := h
  obtain ⟨⟨cs, c1⟩, _⟩ := h1.row
  obtain ⟨cs2, c2⟩ := h2.row
  have hbb : W.heap.size ≤ bo := by obtain ⟨_, _, _, hbb, _⟩ := h2; exact hbb
  refine ⟨h1.fr r.2 (fun e => ?_), r.1, bl.trans (r.2.below bl.size (fun k e => by subst e; exact hbb))⟩
  subst e; rw [c1] at c2; simp at c2

theorem Twin.new {W wr w' : World} {br bo : Nat} {s : ByteArray} {p p' : Nat} (h : Twin W wr br bo s p p') (b : Below wr.heap.size wr w') : Twin W w' br bo s p p' := by
  obtain ⟨h1, h2, bl⟩ := h
  have f : Fr (fun _ => False) wr w' := Fr.of_below b
  exact ⟨h1.fr f (fun h => h), h2.fr f (fun h => h) (fun _ _ _ h => h), bl.trans (b.mono bl.size)⟩

theorem Twin.drewN {W wr : World} {br bo : Nat} {s : ByteArray} {p p' : Nat} (h : Twin W wr br bo s p p') (n : Nat) : Twin W (wr.drewN n) br bo s p p' := by
  obtain ⟨h1, h2, bl⟩ := h
  exact ⟨h1, h2, ⟨bl.os, bl.tape, bl.output, bl.size, bl.block⟩⟩

theorem RPost.keeps {w w' : World} {B b : Nat} {s : ByteArray} {p q : Nat} (h : Rd w B b s p) (r : RPost w B b s q w') {k : Nat} {cs : Array Value} {t : TypeId} {fr : Nat × Nat} (hk : w.heap[k]? = some (.cells cs t fr)) (ht : t ≠ 116) :
    w'.heap[k]? = some (.cells cs t fr) := by
  refine (r.2.block k (row_lt hk) (fun e => ?_)).trans hk
  obtain ⟨⟨cs1, r1⟩, _⟩ := h.row
  subst e; rw [hk] at r1; simp at r1; exact ht r1.2.1

theorem RRPost.keeps {w w' : World} {B b : Nat} {l : List Bool} {p q : Nat} (h : RRd w B b l p) (r : RRPost w B b l q w') {k : Nat} {cs : Array Value} {t : TypeId} {fr : Nat × Nat} (hk : w.heap[k]? = some (.cells cs t fr)) (ht : t ≠ 98) :
    w'.heap[k]? = some (.cells cs t fr) := by
  refine (r.2.block k (row_lt hk) (fun e => ?_)).trans hk
  obtain ⟨cs1, r1⟩ := h.row
  subst e; rw [hk] at r1; simp at r1; exact ht r1.2.1

end Go.Proofs.Ytadfgadkihlmcaa
