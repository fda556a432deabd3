/- Layer 4: what a step of the walk turns: its own fault, its way, and the number that it moves, where numbers are moved at all. -/
import Derived.Test.YthcbgijmnonckaaGreatJA
import Derived.Test.YthcbgijmnonckaaGreatHE
namespace Go.Proofs.YthcbgijmnonckaaGreat
open Go.RowKit Zo Zp
set_option linter.unusedVariables false

/-- What stays all along a walk: where it lies (kb), from where on things are its own, do numbers move to fields?, the unit, the way. -/
structure Ctx where
  base : Nat
  kb : Nat
  moves : Bool
  s : SpsN
  sa : Option Addr
  scap : Nat
  p : PpsN
  ref : Int
  key : Bool
  wv : Value
  own : Nat → TypeId → Prop
  typed : ∀ k t, own k t → t = 82 ∨ t = 5 ∨ t = 116

def Ctx.cells (C : Ctx) (c : Int) : Array Value := #[.int .i64 C.s.wide, .int .i64 C.s.high, .int .i64 C.s.fbits, .int .i64 C.s.ptype, .int .i64 C.s.pbits, .int .i64 C.s.nonref, .slice C.sa C.s.cycle.length C.scap, .int .i64 C.s.refs, .int .i64 C.s.delay, .bool C.p.cabac, .bool C.p.weighted, .int .i64 C.p.bipred, .int .i64 C.p.qp, .int .i64 C.p.chroma, .bool C.p.constrained, .bool C.p.deblock, .int .i64 C.p.act0, .int .i64 C.p.act1, .int .i64 C.ref, .bool C.key, C.wv, .int .i64 c]

/-- A row of cells that is no Writer's, no Reader's. -/
def Prot (C : Ctx) (w : World) (k : Nat) : Prop := ∃ cs t, w.heap[k]? = some (.cells cs t (0, 0)) ∧ ¬ C.own k t
def Safe (C : Ctx) (w : World) (k : Nat) : Prop := k < C.base ∨ Prot C w k

structure Wk (C : Ctx) (w : World) (c : Int) : Prop where
  row : w.heap[C.kb]? = some (.cells (C.cells c) 95 (0, 0))
  base : C.base ≤ C.kb

/-- What may be turned: a way's own, the walk, and what is moved to. -/
def Un (C : Ctx) (w : World) (Y : Nat → Prop) (k : Nat) : Prop := ¬ Safe C w k ∨ k = C.kb ∨ (C.moves = true ∧ Y k)

structure Cell (C : Ctx) (w : World) (b i : Nat) (v : Value) : Prop where
  cell : w.cell? ⟨b, i, none⟩ = some v
  lt : b < w.heap.size
  safe : Safe C w b
  own : C.moves = true → C.base ≤ b
  ne : b ≠ C.kb

/-- Cells of block b that meet I were turned, no other. -/
structure Did (C : Ctx) (w : World) (b : Nat) (I : Nat → Prop) (w' : World) : Prop where
  fr : Fr (Un C w (fun k => k = b)) w w'
  other : ∀ q, ¬ I q → w'.cell? ⟨b, q, none⟩ = w.cell? ⟨b, q, none⟩
  safe : Safe C w' b

theorem Prot.of {C : Ctx} {w : World} {k : Nat} {cs : Array Value} {t : TypeId} (h : w.heap[k]? = some (.cells cs t (0, 0))) (ht : t ≠ 82 ∧ t ≠ 5 ∧ t ≠ 116) : Prot C w k :=
  ⟨cs, t, h, fun e => by rcases C.typed k t e with e | e | e; exact ht.1 e; exact ht.2.1 e; exact ht.2.2 e⟩

theorem Prot.eq {C : Ctx} {w w' : World} {k : Nat} (h : Prot C w k) (e : w'.heap[k]? = w.heap[k]?) : Prot C w' k := by
  obtain ⟨cs, t, h, ht⟩ := h
  exact ⟨cs, t, e.trans h, ht⟩

theorem Safe.eq {C : Ctx} {w w' : World} {k : Nat} (h : Safe C w k) (e : w'.heap[k]? = w.heap[k]?) : Safe C w' k := by
  rcases h with h | h
  · exact .inl h
  · exact .inr (h.eq e)

theorem set_fr (w : World) (b i : Nat) (v : Value) : Fr (fun k => k = b) w (w.setCell ⟨b, i, none⟩ v) := Fr.setCell (S := fun k => k = b) (p := ⟨b, i, none⟩) (Fr.refl _ _) (fun _ => rfl) v

theorem un_safe {C : Ctx} {w : World} {Y : Nat → Prop} {k : Nat} (h : ¬ Un C w Y k) : Safe C w k := Classical.byContradiction fun e => h (.inl e)

theorem not_un {C : Ctx} {w : World} {Y : Nat → Prop} {k : Nat} (h : Safe C w k) (hk : k ≠ C.kb) (hY : C.moves = true → ¬ Y k) : ¬ Un C w Y k := by
  rintro (e | e | ⟨e1, e2⟩)
  · exact e h
  · exact hk e
  · exact hY e1 e2

theorem Un.trans {C : Ctx} {X Y : Nat → Prop} {a b c : World} (h : Fr (Un C a X) a b) (k : Fr (Un C b Y) b c) (hY : ∀ i, i < a.heap.size → Y i → X i) : Fr (Un C a X) a c :=
  h.trans k (fun i hi hu => Classical.byContradiction fun e => by
    have e1 := h.block i hi e
    rcases hu with hs | hk | ⟨hm, hy⟩
    · exact hs ((un_safe e).eq e1)
    · exact e (.inr (.inl hk))
    · exact e (.inr (.inr ⟨hm, hY i hi hy⟩)))

theorem Un.mono {C : Ctx} {X Y : Nat → Prop} {a b : World} (h : Fr (Un C a X) a b) (hY : ∀ i, i < a.heap.size → X i → Y i) : Fr (Un C a Y) a b :=
  Fr.mono h (fun i hi hu => by
    rcases hu with e | e | ⟨e1, e2⟩
    · exact .inl e
    · exact .inr (.inl e)
    · exact .inr (.inr ⟨e1, hY i hi e2⟩))

theorem Fr.cell {S : Nat → Prop} {w w' : World} (h : Fr S w w') {b : Nat} (hb : b < w.heap.size) (hs : ¬ S b) (q : Nat) : w'.cell? ⟨b, q, none⟩ = w.cell? ⟨b, q, none⟩ := by
  simp only [World.cell?]
  rw [h.block b hb hs]

theorem Did.trans {C : Ctx} {w w1 w2 : World} {b : Nat} {I J K : Nat → Prop} (h : Did C w b I w1) (k : Did C w1 b J w2) (hI : ∀ q, I q → K q) (hJ : ∀ q, J q → K q) : Did C w b K w2 :=
  ⟨Un.trans h.fr k.fr (fun _ _ e => e), fun q hq => (k.other q (fun e => hq (hJ q e))).trans (h.other q (fun e => hq (hI q e))), k.safe⟩

theorem Cell.keep {C : Ctx} {w w' : World} {b i : Nat} {v : Value} {I : Nat → Prop} (c : Cell C w b i v) (d : Did C w b I w') (hi : ¬ I i) : Cell C w' b i v :=
  ⟨(d.other i hi).trans c.cell, Nat.lt_of_lt_of_le c.lt d.fr.size, d.safe, c.own, c.ne⟩

/-- A cell of a block that stays. -/
theorem Cell.fr {C : Ctx} {w w' : World} {b i : Nat} {v : Value} {Y : Nat → Prop} (c : Cell C w b i v) (f : Fr (Un C w Y) w w') (hY : C.moves = true → ¬ Y b) : Cell C w' b i v := by
  have n := not_un c.safe c.ne hY
  exact ⟨(Fr.cell f c.lt n i).trans c.cell, Nat.lt_of_lt_of_le c.lt f.size, c.safe.eq (f.block b c.lt n), c.own, c.ne⟩

theorem Cell.free {C : Ctx} {w : World} {b i : Nat} {v : Value} (c : Cell C w b i v) (hm : C.moves = true) : w.frozen? ⟨b, i, none⟩ = false := by
  rcases c.safe with h | ⟨cs, t, h, _⟩
  · have := c.own hm; omega
  · exact free_row h i

theorem Cell.prot {C : Ctx} {w : World} {b i : Nat} {v : Value} (c : Cell C w b i v) (hm : C.moves = true) : Prot C w b := by
  rcases c.safe with h | h
  · have := c.own hm; omega
  · exact h

/-- A step behind its way's own: the world of the way's answer, and what it left at the cell. -/
structure Post1 (C : Ctx) (w : World) (b i : Nat) (v' : Value) (w' : World) : Prop where
  did : Did C w b (fun q => q = i) w'
  cell : Cell C w' b i v'
  row : ∀ cs t, w.heap[b]? = some (.cells cs t (0, 0)) → w'.heap[b]? = some (.cells (cs.setIfInBounds i v') t (0, 0))

theorem set_same {cs : Array Value} {i : Nat} {v : Value} (h : cs[i]? = some v) : cs.setIfInBounds i v = cs := by
  apply Array.ext_getElem?
  intro j
  rw [Array.getElem?_setIfInBounds]
  split
  · rename_i e
    subst e
    split
    · exact h.symm
    · rename_i e2
      rw [Array.getElem?_eq_none (by omega)] at h
      cases h
  · rfl

/-- Nothing was moved: what stands stays. -/
theorem Post1.still {C : Ctx} {w w' : World} {b i : Nat} {v : Value} (c : Cell C w b i v) (f : Fr (Un C w (fun _ => False)) w w') : Post1 C w b i v w' := by
  have n := not_un c.safe c.ne (Y := fun _ => False) (fun _ e => e)
  refine ⟨⟨Un.mono f (fun _ _ e => e.elim), fun q _ => Fr.cell f c.lt n q, c.safe.eq (f.block b c.lt n)⟩, c.fr f (fun _ e => e), fun cs t h => ?_⟩
  rw [f.block b c.lt n, h]
  have := c.cell
  rw [cell_of_row w b i cs t _ h] at this
  rw [set_same this]

/-- A number was moved to the cell. -/
theorem Post1.moved {C : Ctx} {w w1 : World} {b i : Nat} {v : Value} (hm : C.moves = true) (c : Cell C w b i v) (f : Fr (Un C w (fun _ => False)) w w1) (v' : Value) : Post1 C w b i v' (w1.setCell ⟨b, i, none⟩ v') := by
  have n := not_un c.safe c.ne (Y := fun _ => False) (fun _ e => e)
  have e1 := f.block b c.lt n
  obtain ⟨cs, t, h, ht⟩ := c.prot hm
  have h1 := e1.trans h
  have h2 := heap_setCell_row h1 i v'
  have hi : i < cs.size := by
    have := c.cell
    rw [cell_of_row w b i cs t _ h] at this
    exact (Array.getElem?_eq_some_iff.1 this).1
  refine ⟨⟨Fr.setCell (S := Un C w (fun k => k = b)) (p := ⟨b, i, none⟩) (Un.mono f (fun _ _ e => e.elim)) (fun _ => .inr (.inr ⟨hm, rfl⟩)) _, fun q hq => ?_, .inr ⟨_, t, h2, ht⟩⟩, ⟨?_, ?_, .inr ⟨_, t, h2, ht⟩, c.own, c.ne⟩, fun cs' t' h' => ?_⟩
  · rw [cell_of_row _ b q _ _ _ h2, cell_of_row w b q cs t _ h, Array.getElem?_setIfInBounds, if_neg (fun e => hq e.symm)]
  · rw [cell_of_row _ b i _ _ _ h2, Array.getElem?_setIfInBounds, if_pos rfl, if_pos hi]
  · exact row_lt h2
  · rw [h] at h'
    cases h'
    exact h2

/-- The walk's fault is told. -/
theorem Wk.lay {C : Ctx} {w w1 : World} {c : Int} (k : Wk C w c) (h1 : w1.heap[C.kb]? = some (.cells (C.cells c) 95 (0, 0))) (c' : Int) : Wk C (w1.setCell ⟨C.kb, 21, none⟩ (.int .i64 c')) c' :=
  ⟨by have := heap_setCell_row h1 21 (.int .i64 c'); exact this, k.base⟩

theorem Wk.cell {C : Ctx} {w : World} {c : Int} (k : Wk C w c) (i : Nat) (v : Value) (h : (C.cells c)[i]? = some v) : w.cell? ⟨C.kb, i, none⟩ = some v := by
  rw [cell_of_row w C.kb i _ _ _ k.row, h]

theorem Post1.fault {C : Ctx} {w w' : World} {b i : Nat} {v' : Value} (p : Post1 C w b i v' w') (c' : Int) : Post1 C w b i v' (w'.setCell ⟨C.kb, 21, none⟩ (.int .i64 c')) := by
  have ne := p.cell.ne
  refine ⟨⟨Fr.setCell p.did.fr (fun _ => .inr (.inl rfl)) _, fun q hq => ?_, p.did.safe.eq (Zo.heap_setCell_other _ ne)⟩, ⟨?_, by simpa [World.setCell] using p.cell.lt, p.cell.safe.eq (Zo.heap_setCell_other _ ne), p.cell.own, ne⟩, fun cs t h => (Zo.heap_setCell_other _ ne).trans (p.row cs t h)⟩
  · simp only [World.cell?]
    rw [Zo.heap_setCell_other _ (show b ≠ (⟨C.kb, 21, none⟩ : Addr).block from ne)]
    exact p.did.other q hq
  · have := p.cell.cell
    simp only [World.cell?] at this ⊢
    rw [Zo.heap_setCell_other _ (show b ≠ (⟨C.kb, 21, none⟩ : Addr).block from ne)]
    exact this

/-- How the walk and its way stand: at least n steps are left to it. -/
structure St {σ : Type} (C : Ctx) (fuel : σ → Nat) (way : World → σ → Prop) (n : Nat) (w : World) (s : Ws σ) : Prop where
  k : Wk C w s.c
  way : way w s.s
  fuel : n ≤ fuel s.s

/-- A way, as the walk takes it. -/
structure WayOk {σ : Type} (C : Ctx) (F : WayFns σ) (fuel : σ → Nat) (way : World → σ → Prop) : Prop where
  hold : ∀ w w' s (S : Nat → Prop), way w s → Fr S w w' → (∀ k, k < w.heap.size → S k → Prot C w k) → way w' s
  calm : C.moves = false → ∀ x n s, (F.ue x n s).1 = x
  ue : ∀ (w : World) (n : Nat) (s : Ws σ) (b i : Nat) (x least : Int), St C fuel way (n + 1) w s → Cell C w b i (.int .i64 x) → 0 ≤ least → least ≤ 1 → Calls Tryz.prog 83 #[.pointer (some ⟨C.kb, 0, none⟩), .pointer (some ⟨b, i, none⟩), .int .i64 least] w fun e w' =>
    e = .returned (.tuple #[]) ∧ St C fuel way n w' (fUe F x least s).2 ∧ Post1 C w b i (.int .i64 (fUe F x least s).1) w'
  se : ∀ (w : World) (n : Nat) (s : Ws σ) (b i : Nat) (x : Int), St C fuel way (n + 1) w s → Cell C w b i (.int .i64 x) → Calls Tryz.prog 117 #[.pointer (some ⟨C.kb, 0, none⟩), .pointer (some ⟨b, i, none⟩)] w fun e w' =>
    e = .returned (.tuple #[]) ∧ St C fuel way n w' (fSe F x s).2 ∧ Post1 C w b i (.int .i64 (fSe F x s).1) w'
  plain : ∀ (w : World) (n : Nat) (s : Ws σ) (b i : Nat) (x m : Int), St C fuel way (n + 1) w s → Cell C w b i (.int .i64 x) → 0 ≤ m → m ≤ 32 → Calls Tryz.prog 84 #[.pointer (some ⟨C.kb, 0, none⟩), .pointer (some ⟨b, i, none⟩), .int .i64 m] w fun e w' =>
    e = .returned (.tuple #[]) ∧ St C fuel way n w' (fPlain F x m s).2 ∧ Post1 C w b i (.int .i64 (fPlain F x m s).1) w'
  flag : ∀ (w : World) (n : Nat) (s : Ws σ) (b i : Nat) (x : Bool), St C fuel way (n + 1) w s → Cell C w b i (.bool x) → Calls Tryz.prog 110 #[.pointer (some ⟨C.kb, 0, none⟩), .pointer (some ⟨b, i, none⟩)] w fun e w' =>
    e = .returned (.tuple #[]) ∧ St C fuel way n w' (fFlag F x s).2 ∧ Post1 C w b i (.bool (fFlag F x s).1) w'

theorem St.less {σ : Type} {C : Ctx} {fuel : σ → Nat} {way : World → σ → Prop} {n m : Nat} {w : World} {s : Ws σ} (h : St C fuel way n w s) (hm : m ≤ n) : St C fuel way m w s := ⟨h.k, h.way, Nat.le_trans hm h.fuel⟩
end Go.Proofs.YthcbgijmnonckaaGreat
/- Layer 4: the walk from fields to bits: its way writes, and fields stay. -/
namespace Go.Proofs.YthcbgijmnonckaaGreat
open Go.RowKit Zo Zp
set_option linter.unusedVariables false

/-- The bits so far, and how many steps are left. -/
abbrev Wbits := List Bool × Nat

def wrote (a : Int × List Bool) (t : Wbits) : Bool × Wbits := (decide (a.1 = 0), t.1 ++ a.2, t.2 - 1)

/-- Numbers to bits. -/
def writeF : WayFns Wbits where
  plain := fun x n t => (x, wrote (bitsAns x n) t)
  ue := fun x least t => (x, wrote (ueAns (IntKind.i64.wrap (x - least))) t)
  se := fun x t => (x, wrote (seAns x) t)
  flag := fun x t => (x, wrote (bitsAns (if x then 1 else 0) 1) t)

/-- The Writer of the way holds these bits. -/
def wway (base b : Nat) (w : World) (t : Wbits) : Prop := (∃ o, Wr w base b o t.1) ∧ t.1.length + 100 * t.2 ≤ 1000000

def wwv (b : Nat) : Value := .iface 91 (.agg #[.pointer (some ⟨b, 0, none⟩)])

/-- What is the way's own. -/
def wown (k : Nat) (t : TypeId) : Prop := t = 82 ∨ t = 5

theorem Wr.not_prot {C : Ctx} {w : World} {base b : Nat} {o : Option Nat} {l : List Bool} (hw : C.own = wown) (h : Wr w base b o l) (k : Nat) (hk : wsel b o k) : ¬ Prot C w k := by
  obtain ⟨⟨c0, h0⟩, _, ho⟩ := h.row
  rintro ⟨cs, t, h2, h3⟩
  rw [hw] at h3
  rcases hk with rfl | e
  · rw [h0] at h2
    simp at h2
    exact h3 (.inl h2.2.symm)
  · obtain ⟨_, c1, h1⟩ := ho k e
    rw [h1] at h2
    simp at h2
    exact h3 (.inr h2.2.symm)

theorem Wr.not_safe {C : Ctx} {w : World} {b : Nat} {o : Option Nat} {l : List Bool} (hw : C.own = wown) (h : Wr w C.base b o l) (k : Nat) (hk : wsel b o k) : ¬ Safe C w k := by
  rintro (e | e)
  · obtain ⟨_, h1, ho⟩ := h.row
    rcases hk with rfl | e2
    · omega
    · have := (ho k e2).1; omega
  · exact h.not_prot hw k hk e

theorem wway_hold {C : Ctx} {base b : Nat} (hw : C.own = wown) (w w' : World) (t : Wbits) (S : Nat → Prop) (h : wway base b w t) (f : Fr S w w') (hS : ∀ k, k < w.heap.size → S k → Prot C w k) : wway base b w' t := by
  obtain ⟨⟨o, h⟩, hl⟩ := h
  refine ⟨⟨o, h.fr f (fun k hk e => ?_)⟩, hl⟩
  refine h.not_prot hw k hk (hS k ?_ e)
  obtain ⟨⟨c0, h0⟩, _, ho⟩ := h.row
  rcases hk with rfl | e2
  · exact row_lt h0
  · obtain ⟨_, c1, h1⟩ := ho k e2
    exact row_lt h1

theorem ueAns_len (x : Int) : (ueAns x).2.length ≤ 64 := by
  unfold ueAns
  split
  · rename_i h
    exact Nat.le_trans (ueB_length _ (show x.toNat ≤ 2147483646 by omega)).2 (by omega)
  · simp
theorem seAns_len (x : Int) : (seAns x).2.length ≤ 64 := by
  unfold seAns
  split
  · rename_i h
    exact Nat.le_trans (seB_le _ h.1 h.2) (by omega)
  · simp
theorem bitsAns_len (x n : Int) : (bitsAns x n).2.length ≤ 64 := by
  unfold bitsAns
  split
  · simp [digs_length]; omega
  · simp

/-- What a method of the way leaves. -/
def Wlaid (base b : Nat) (w : World) (a : Int × List Bool) (l : List Bool) (w' : World) : Prop := ∃ o o', Wr w base b o l ∧ Wr w' base b o' (l ++ a.2) ∧ Fr (wsel b o) w w'

set_option maxRecDepth 100000 in
theorem writing_ue (w : World) (base b : Nat) (l : List Bool) (f i : Nat) (x : Int) (least : Int) (h : ∃ o, Wr w base b o l) (hb : l.length ≤ 100000000000) (c : w.cell? ⟨f, i, none⟩ = some (.int .i64 x)) (hl : f < w.heap.size) :
    Calls Tryz.prog 179 #[.agg #[.pointer (some ⟨b, 0, none⟩)], .pointer (some ⟨f, i, none⟩), .int .i64 least] w fun e w' => e = .returned (.bool (decide ((ueAns (IntKind.i64.wrap (x - least))).1 = 0))) ∧ Wlaid base b w (ueAns (IntKind.i64.wrap (x - least))) l w' := by
  obtain ⟨o, h⟩ := h
  have f0 := (Fr.refl (fun _ => False) w).alloc (.cells #[.pointer (some ⟨b, 0, none⟩)] 91)
  have h1 := h.fr f0 (fun _ _ e => e)
  have r0 := heap_alloc_last w (.cells #[.pointer (some ⟨b, 0, none⟩)] 91)
  have g0 := cell_of_row _ w.heap.size 0 _ _ _ r0
  simp at g0
  have c1 : (w.alloc (.cells #[.pointer (some ⟨b, 0, none⟩)] 91)).cell? ⟨f, i, none⟩ = some (.int .i64 x) := (Fr.cell f0 hl (fun e => e) i).trans c
  have PO := Lib.hid (fun o' w2 (h2 : Wr w2 base b o' (l ++ (ueAns (IntKind.i64.wrap (x - least))).2)) (f2 : Fr (wsel b o) ((w.alloc (.cells #[.pointer (some ⟨b, 0, none⟩)] 91)).drewN 1) w2) => (⟨o, o', h, h2, Fr.trans (Fr.drewN (Fr.mono f0 (fun _ _ e => e.elim)) 1) f2 (fun _ _ e => e)⟩ : Wlaid base b w (ueAns (IntKind.i64.wrap (x - least))) l w2))
  have HC := Lib.hid (fun k => ue_any ((w.alloc (.cells #[.pointer (some ⟨b, 0, none⟩)] 91)).drewN k) base b o l (IntKind.i64.wrap (x - least)) (h1.drewN k) hb)
  clear h h1 r0 f0 c
  generalize (ueAns (IntKind.i64.wrap (x - least))) = res at *
  obtain ⟨rc, rl⟩ := res
  simp only at HC PO ⊢
  obtain ⟨y, hy⟩ : ∃ y, IntKind.i64.wrap (x - least) = y := ⟨_, rfl⟩
  rw [hy] at HC
  go_enter Tryz.func179, Tryz.ntmps179
  go_wp2_with fail
  go_region_with ((go_at_call 181; refine (HC.out 1).mono ?_; rintro e w2 ⟨rfl, o', h2, f2, _⟩))
  all_goals
    have P := Lib.hid (PO.out _ _ h2 f2)
    clear h2 f2
    go_wp2_with fail
    go_ret
    exact ⟨rfl, P.out⟩

set_option maxRecDepth 100000 in
theorem writing_se (w : World) (base b : Nat) (l : List Bool) (f i : Nat) (x : Int) (h : ∃ o, Wr w base b o l) (hb : l.length ≤ 100000000000) (c : w.cell? ⟨f, i, none⟩ = some (.int .i64 x)) (hl : f < w.heap.size) :
    Calls Tryz.prog 178 #[.agg #[.pointer (some ⟨b, 0, none⟩)], .pointer (some ⟨f, i, none⟩)] w fun e w' => e = .returned (.bool (decide ((seAns x).1 = 0))) ∧ Wlaid base b w (seAns x) l w' := by
  obtain ⟨o, h⟩ := h
  have f0 := (Fr.refl (fun _ => False) w).alloc (.cells #[.pointer (some ⟨b, 0, none⟩)] 91)
  have h1 := h.fr f0 (fun _ _ e => e)
  have r0 := heap_alloc_last w (.cells #[.pointer (some ⟨b, 0, none⟩)] 91)
  have g0 := cell_of_row _ w.heap.size 0 _ _ _ r0
  simp at g0
  have c1 : (w.alloc (.cells #[.pointer (some ⟨b, 0, none⟩)] 91)).cell? ⟨f, i, none⟩ = some (.int .i64 x) := (Fr.cell f0 hl (fun e => e) i).trans c
  have PO := Lib.hid (fun o' w2 (h2 : Wr w2 base b o' (l ++ (seAns x).2)) (f2 : Fr (wsel b o) ((w.alloc (.cells #[.pointer (some ⟨b, 0, none⟩)] 91)).drewN 1) w2) => (⟨o, o', h, h2, Fr.trans (Fr.drewN (Fr.mono f0 (fun _ _ e => e.elim)) 1) f2 (fun _ _ e => e)⟩ : Wlaid base b w (seAns x) l w2))
  have HC := Lib.hid (fun k => se_any ((w.alloc (.cells #[.pointer (some ⟨b, 0, none⟩)] 91)).drewN k) base b o l x (h1.drewN k) hb)
  clear h h1 r0 f0 c
  generalize (seAns x) = res at *
  obtain ⟨rc, rl⟩ := res
  simp only at HC PO ⊢
  go_enter Tryz.func178, Tryz.ntmps178
  go_wp2_with fail
  go_region_with ((go_at_call 180; refine (HC.out 1).mono ?_; rintro e w2 ⟨rfl, o', h2, f2, _⟩))
  all_goals
    have P := Lib.hid (PO.out _ _ h2 f2)
    clear h2 f2
    go_wp2_with fail
    go_ret
    exact ⟨rfl, P.out⟩

set_option maxRecDepth 100000 in
theorem writing_plain (w : World) (base b : Nat) (l : List Bool) (f i : Nat) (x : Int) (m : Int) (h : ∃ o, Wr w base b o l) (hb : l.length ≤ 100000000000) (c : w.cell? ⟨f, i, none⟩ = some (.int .i64 x)) (hl : f < w.heap.size) :
    Calls Tryz.prog 177 #[.agg #[.pointer (some ⟨b, 0, none⟩)], .pointer (some ⟨f, i, none⟩), .int .i64 m] w fun e w' => e = .returned (.bool (decide ((bitsAns x m).1 = 0))) ∧ Wlaid base b w (bitsAns x m) l w' := by
  obtain ⟨o, h⟩ := h
  have f0 := (Fr.refl (fun _ => False) w).alloc (.cells #[.pointer (some ⟨b, 0, none⟩)] 91)
  have h1 := h.fr f0 (fun _ _ e => e)
  have r0 := heap_alloc_last w (.cells #[.pointer (some ⟨b, 0, none⟩)] 91)
  have g0 := cell_of_row _ w.heap.size 0 _ _ _ r0
  simp at g0
  have c1 : (w.alloc (.cells #[.pointer (some ⟨b, 0, none⟩)] 91)).cell? ⟨f, i, none⟩ = some (.int .i64 x) := (Fr.cell f0 hl (fun e => e) i).trans c
  have PO := Lib.hid (fun o' w2 (h2 : Wr w2 base b o' (l ++ (bitsAns x m).2)) (f2 : Fr (wsel b o) ((w.alloc (.cells #[.pointer (some ⟨b, 0, none⟩)] 91)).drewN 1) w2) => (⟨o, o', h, h2, Fr.trans (Fr.drewN (Fr.mono f0 (fun _ _ e => e.elim)) 1) f2 (fun _ _ e => e)⟩ : Wlaid base b w (bitsAns x m) l w2))
  have HC := Lib.hid (fun k => bitsW_any ((w.alloc (.cells #[.pointer (some ⟨b, 0, none⟩)] 91)).drewN k) base b o l x m (h1.drewN k) hb)
  clear h h1 r0 f0 c
  generalize (bitsAns x m) = res at *
  obtain ⟨rc, rl⟩ := res
  simp only at HC PO ⊢
  go_enter Tryz.func177, Tryz.ntmps177
  go_wp2_with fail
  go_region_with ((go_at_call 12; refine (HC.out 1).mono ?_; rintro e w2 ⟨rfl, o', h2, f2, _⟩))
  all_goals
    have P := Lib.hid (PO.out _ _ h2 f2)
    clear h2 f2
    go_wp2_with fail
    go_ret
    exact ⟨rfl, P.out⟩

set_option maxRecDepth 100000 in
theorem writing_flag (w : World) (base b : Nat) (l : List Bool) (f i : Nat) (x : Bool) (h : ∃ o, Wr w base b o l) (hb : l.length ≤ 100000000000) (c : w.cell? ⟨f, i, none⟩ = some (.bool x)) (hl : f < w.heap.size) :
    Calls Tryz.prog 176 #[.agg #[.pointer (some ⟨b, 0, none⟩)], .pointer (some ⟨f, i, none⟩)] w fun e w' => e = .returned (.bool (decide ((bitsAns (if x then 1 else 0) 1).1 = 0))) ∧ Wlaid base b w (bitsAns (if x then 1 else 0) 1) l w' := by
  obtain ⟨o, h⟩ := h
  have f0 := (Fr.refl (fun _ => False) w).alloc (.cells #[.pointer (some ⟨b, 0, none⟩)] 91)
  have h1 := h.fr f0 (fun _ _ e => e)
  have r0 := heap_alloc_last w (.cells #[.pointer (some ⟨b, 0, none⟩)] 91)
  have g0 := cell_of_row _ w.heap.size 0 _ _ _ r0
  simp at g0
  have c1 : (w.alloc (.cells #[.pointer (some ⟨b, 0, none⟩)] 91)).cell? ⟨f, i, none⟩ = some (.bool x) := (Fr.cell f0 hl (fun e => e) i).trans c
  have PO := Lib.hid (fun o' (r : List Bool) w2 (h2 : Wr w2 base b o' (l ++ r)) (f2 : Fr (wsel b o) (w.alloc (.cells #[.pointer (some ⟨b, 0, none⟩)] 91)) w2) => (⟨o, o', h, h2, Fr.trans (Fr.mono f0 (fun _ _ e => e.elim)) f2 (fun _ _ e => e)⟩ : Wlaid base b w (0, r) l w2))
  have H0 := Lib.hid (bitsW_fine _ base b o l 0 1 h1 (by omega) (by omega) (by decide) hb)
  have H1 := Lib.hid (bitsW_fine _ base b o l 1 1 h1 (by omega) (by omega) (by decide) hb)
  clear h h1 r0 f0 c
  cases x
  · have HC := H0
    clear H0 H1
    go_enter Tryz.func176, Tryz.ntmps176
    go_wp2_with fail
    refine HC.out.mono ?_
    rintro e w2 ⟨rfl, o', h2, f2, _⟩
    have P := Lib.hid (PO.out _ _ _ h2 f2)
    clear h2 f2
    go_wp2_with fail
    go_ret
    exact ⟨rfl, P.out⟩
  · have HC := H1
    clear H0 H1
    go_enter Tryz.func176, Tryz.ntmps176
    go_wp2_with fail
    refine HC.out.mono ?_
    rintro e w2 ⟨rfl, o', h2, f2, _⟩
    have P := Lib.hid (PO.out _ _ _ h2 f2)
    clear h2 f2
    go_wp2_with fail
    go_ret
    exact ⟨rfl, P.out⟩

end Go.Proofs.YthcbgijmnonckaaGreat
