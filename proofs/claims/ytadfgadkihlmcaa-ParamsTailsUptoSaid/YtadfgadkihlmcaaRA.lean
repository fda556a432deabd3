/- Layer 3: the program's own ranges: which parameters of a sequence may be. -/
import Derived.Test.YtadfgadkihlmcaaQZ
import Derived.Deep.RegionHeld3
namespace Go.Proofs.Ytadfgadkihlmcaa
open Go.RowKit Zo Zp

theorem row_of_ints {w : World} {g : Nat} {l : List Int} (h : w.heap[g]? = some (.cells (iv l).toArray 3 (0, 0))) : IntRow w (some ⟨g, 0, none⟩) l := by
  intro _
  refine ⟨g, 0, rfl, row_lt h, fun i hi => ?_⟩
  rw [cell_of_row _ _ _ _ _ _ h, Nat.zero_add]
  simp [iv, hi]

theorem row_new (w : World) (l : List Int) : IntRow (w.alloc (.cells (iv l).toArray 3)) (some ⟨w.heap.size, 0, none⟩) l := row_of_ints (heap_alloc_last w _)

/-- What fitsPocType tells. -/
def fitB (ptype pbits nonref : Int) (cycle : List Int) (delay : Int) : Bool := ((ptype == 0) || (pbits == 4)) && (((ptype == 1) || ((nonref == 0) && ((cycle.length : Int) == 0))) && ((ptype != 2) || (delay == 0)))

theorem may_prog (wide high fbits ptype pbits nonref : Int) (cycle : List Int) (refs delay : Int) :
    (inAll [wide, high] 1 8 && (inAll [fbits, pbits] 4 8 && (inAll [ptype] 0 2 && (inAll [(cycle.length : Int)] 0 4 && (inAll [nonref] (-1000) 1000 && (inAll cycle (-1000) 1000 && (inAll [refs] 1 8 && (inAll [delay] 0 refs && fitB ptype pbits nonref cycle delay)))))))) = decide (SpsN.may ⟨wide, high, fbits, ptype, pbits, nonref, cycle, refs, delay⟩) := by
  rw [← may_all, Bool.eq_iff_iff]
  simp only [may1, mayC, may2, may3, fitB, inAll, inB, List.all_cons, List.all_nil, Bool.and_true, Bool.and_eq_true, Bool.or_eq_true, decide_eq_true_eq, List.all_eq_true, beq_iff_eq, bne_iff_ne, ne_eq]
  constructor
  · rintro ⟨⟨h1, h2⟩, ⟨h3, h4⟩, h5, h6, h7, h8, h9, h10, h11, h12, h13⟩
    exact ⟨⟨⟨⟨⟨⟨⟨⟨⟨h1, h2⟩, h3⟩, h4⟩, h5⟩, h7⟩, h6.2⟩, h8⟩, h12, h11⟩, ⟨h9, h10⟩, h13⟩
  · rintro ⟨⟨⟨⟨⟨⟨⟨⟨⟨h1, h2⟩, h3⟩, h4⟩, h5⟩, h7⟩, h6⟩, h8⟩, h12, h11⟩, ⟨h9, h10⟩, h13⟩
    exact ⟨⟨h1, h2⟩, ⟨h3, h4⟩, h5, ⟨by omega, h6⟩, h7, h8, h9, h10, h11, h12, h13⟩

set_option linter.unusedVariables false
set_option maxRecDepth 100000 in
set_option maxHeartbeats 16000000 in
theorem fits_any (w : World) (s : SpsN) (a : Option Addr) (cap : Nat) :
    Calls Try.prog 70 #[spsV s a cap] w fun e w' => e = .returned (.bool (fitB s.ptype s.pbits s.nonref s.cycle s.delay)) ∧ Below w.heap.size w w' := by
  obtain ⟨wide, high, fbits, ptype, pbits, nonref, cycle, refs, delay⟩ := s
  unfold spsV fitB
  simp only
  have hb : Below w.heap.size w (w.alloc (.cells #[.int .i64 wide, .int .i64 high, .int .i64 fbits, .int .i64 ptype, .int .i64 pbits, .int .i64 nonref, .slice a cycle.length cap, .int .i64 refs, .int .i64 delay] 24)) := (Below.refl _ _).alloc (Nat.le_refl _) _
  have HB := Lib.hid hb
  clear hb
  rcases (show ptype = 0 ∨ ptype = 1 ∨ ptype = 2 ∨ (ptype ≠ 0 ∧ ptype ≠ 1 ∧ ptype ≠ 2) by omega) with rfl | rfl | rfl | ⟨e0, e1, e2⟩ <;> cases h2 : (pbits == 4) <;> cases h4 : (nonref == 0) <;> cases h5 : ((cycle.length : Int) == 0) <;> cases h7 : (delay == 0)
  all_goals
    try have z1 : (ptype == 0) = false := by simpa using e0
    try have z2 : (ptype == 1) = false := by simpa using e1
    try have z3 : (ptype == 2) = false := by simpa using e2
    try have z4 : (ptype != 0) = true := by simpa using e0
    try have z5 : (ptype != 1) = true := by simpa using e1
    try have z6 : (ptype != 2) = true := by simpa using e2
    try clear e0 e1 e2
    have g2 : (pbits != 4) = !(pbits == 4) := rfl
    have g4 : (nonref != 0) = !(nonref == 0) := rfl
    have g5 : ((cycle.length : Int) != 0) = !((cycle.length : Int) == 0) := rfl
    rw [h2] at g2
    rw [h4] at g4
    rw [h5] at g5
    simp only [Bool.not_true, Bool.not_false] at g2 g4 g5
    go_enter Try.func70, Try.ntmps70
    go_wp2
    go_ret
    exact ⟨ret_bool (by simp [*]), HB.out⟩

theorem Kp.lt {w : World} {kb : Nat} (h : Kp w kb) : kb < w.heap.size := by rcases h with h | h <;> exact row_lt h
theorem Kp.keep {S : Nat → Prop} {w w' : World} {kb : Nat} (h : Kp w kb) (f : Fr S w w') (hs : ¬ S kb) : Kp w' kb := by
  rcases h with h | h
  · exact .inl ((f.block kb (row_lt h) hs).trans h)
  · exact .inr ((f.block kb (row_lt h) hs).trans h)

/-- A call that asks a keeper: its box, its keeper. -/
def Ms (W : World) (bx kb : Nat) (T : TypeId) (cs : Array Value) (wr : World) : Prop := wr.heap[bx]? = some (.cells cs T (0, 0)) ∧ Kp wr kb ∧ Fr (fun k => k = kb) W wr ∧ bx ≠ kb

section
variable {W wr w' : World} {bx kb : Nat} {T : TypeId} {cs : Array Value}
theorem Ms.box (h : Ms W bx kb T cs wr) (i : Nat) (u : Value) (hu : cs[i]? = some u) : wr.cell? ⟨bx, i, none⟩ = some u := by
  rw [cell_of_row wr _ i _ _ _ h.1, hu]
theorem Ms.ask (h : Ms W bx kb T cs wr) (p : Kp w' kb) (f : Fr (fun k => k = kb) wr w') : Ms W bx kb T cs w' :=
  ⟨(f.block _ (row_lt h.1) h.2.2.2).trans h.1, p, h.2.2.1.trans f (fun _ _ e => e), h.2.2.2⟩
theorem Ms.below (h : Ms W bx kb T cs wr) (f : Below wr.heap.size wr w') : Ms W bx kb T cs w' :=
  ⟨(f.block _ (row_lt h.1)).trans h.1, h.2.1.keep (Fr.of_below (S := fun _ => False) f) (fun e => e), h.2.2.1.trans (Fr.of_below (S := fun k => k = kb) f) (fun _ _ e => e), h.2.2.2⟩
theorem Ms.alloc (h : Ms W bx kb T cs wr) (o : Obj) : Ms W bx kb T cs (wr.alloc o) := h.below ((Below.refl _ _).alloc (Nat.le_refl _) o)
theorem Ms.drew (h : Ms W bx kb T cs wr) : Ms W bx kb T cs wr.drew := ⟨h.1, h.2.1, h.2.2.1.drew, h.2.2.2⟩
theorem row_over (h : Ms W bx kb T cs wr) {l : List Int} (f : Fr (fun k => k = kb) (wr.alloc (.cells (iv l).toArray 3)) w') : IntRow w' (some ⟨wr.heap.size, 0, none⟩) l :=
  row_of_ints ((f.block wr.heap.size (by simp) (fun e => by have := h.2.1.lt; omega)).trans (heap_alloc_last wr _))
theorem row_over_drew (h : Ms W bx kb T cs wr) {l : List Int} (f : Fr (fun k => k = kb) (wr.alloc (.cells (iv l).toArray 3)).drew w') : IntRow w' (some ⟨wr.heap.size, 0, none⟩) l :=
  row_over h ⟨f.os, f.tape, f.output, f.size, f.block⟩
theorem Ms.row (h : Ms W bx kb T cs wr) {a : Option Addr} {l : List Int} (hi : IntRow W a l) (hn : l ≠ [] → ∀ g, a = some g → g.block ≠ kb) : IntRow wr a l := by
  intro hl
  obtain ⟨b, o, ha, hb, hc⟩ := hi hl
  refine ⟨b, o, ha, Nat.lt_of_lt_of_le hb h.2.2.1.size, fun i hi' => ?_⟩
  have := h.2.2.1.block b hb (hn hl _ ha)
  simp only [World.cell?] at hc ⊢
  rw [this]
  exact hc i hi'
end

theorem Ms.nine {W wr : World} {bx kb : Nat} {T : TypeId} {v0 v1 v2 v3 v4 v5 v6 v7 v8 : Value} (h : Ms W bx kb T #[v0, v1, v2, v3, v4, v5, v6, v7, v8] wr) :
    wr.cell? ⟨bx, 0, none⟩ = some v0 ∧ wr.cell? ⟨bx, 1, none⟩ = some v1 ∧ wr.cell? ⟨bx, 2, none⟩ = some v2 ∧ wr.cell? ⟨bx, 3, none⟩ = some v3 ∧ wr.cell? ⟨bx, 4, none⟩ = some v4 ∧ wr.cell? ⟨bx, 5, none⟩ = some v5 ∧ wr.cell? ⟨bx, 6, none⟩ = some v6 ∧ wr.cell? ⟨bx, 7, none⟩ = some v7 ∧ wr.cell? ⟨bx, 8, none⟩ = some v8 :=
  ⟨h.box 0 _ rfl, h.box 1 _ rfl, h.box 2 _ rfl, h.box 3 _ rfl, h.box 4 _ rfl, h.box 5 _ rfl, h.box 6 _ rfl, h.box 7 _ rfl, h.box 8 _ rfl⟩

theorem holds_is {l : List Int} {lo hi : Int} {b : Bool} (hb : inAll l lo hi = b) (hl : l.length ≤ 1000000000) (wr : World) (a : Option Addr) (cap : Nat) (h : IntRow wr a l) :
    Calls Try.prog 42 #[.agg #[.int .i64 lo, .int .i64 hi], .slice a l.length cap] wr fun e w' => e = .returned (.bool b) ∧ Below wr.heap.size wr w' := by
  rw [← hb]
  exact holds_any wr lo hi l a cap h hl

theorem ms_of_0 {W : World} {bx kb : Nat} {T : TypeId} {cs : Array Value} (wr : World) (h : Ms W bx kb T cs wr) :
    Calls Try.prog 41 #[.pointer (some ⟨kb, 0, none⟩), .int .i64 0] wr fun e w' => e = .returned (.agg #[.int .i64 1, .int .i64 8]) ∧ Ms W bx kb T cs w' ∧ Fr (fun k => k = kb) wr w' :=
  (of_0 wr kb h.2.1).mono fun e w' ⟨he, p, f⟩ => ⟨he, h.ask p f, f⟩

theorem ms_of_1 {W : World} {bx kb : Nat} {T : TypeId} {cs : Array Value} (wr : World) (h : Ms W bx kb T cs wr) :
    Calls Try.prog 41 #[.pointer (some ⟨kb, 0, none⟩), .int .i64 1] wr fun e w' => e = .returned (.agg #[.int .i64 4, .int .i64 8]) ∧ Ms W bx kb T cs w' ∧ Fr (fun k => k = kb) wr w' :=
  (of_1 wr kb h.2.1).mono fun e w' ⟨he, p, f⟩ => ⟨he, h.ask p f, f⟩

theorem ms_of_2 {W : World} {bx kb : Nat} {T : TypeId} {cs : Array Value} (wr : World) (h : Ms W bx kb T cs wr) :
    Calls Try.prog 41 #[.pointer (some ⟨kb, 0, none⟩), .int .i64 2] wr fun e w' => e = .returned (.agg #[.int .i64 0, .int .i64 2]) ∧ Ms W bx kb T cs w' ∧ Fr (fun k => k = kb) wr w' :=
  (of_2 wr kb h.2.1).mono fun e w' ⟨he, p, f⟩ => ⟨he, h.ask p f, f⟩

theorem ms_of_3 {W : World} {bx kb : Nat} {T : TypeId} {cs : Array Value} (wr : World) (h : Ms W bx kb T cs wr) :
    Calls Try.prog 41 #[.pointer (some ⟨kb, 0, none⟩), .int .i64 3] wr fun e w' => e = .returned (.agg #[.int .i64 0, .int .i64 4]) ∧ Ms W bx kb T cs w' ∧ Fr (fun k => k = kb) wr w' :=
  (of_3 wr kb h.2.1).mono fun e w' ⟨he, p, f⟩ => ⟨he, h.ask p f, f⟩

theorem ms_of_4 {W : World} {bx kb : Nat} {T : TypeId} {cs : Array Value} (wr : World) (h : Ms W bx kb T cs wr) :
    Calls Try.prog 41 #[.pointer (some ⟨kb, 0, none⟩), .int .i64 4] wr fun e w' => e = .returned (.agg #[.int .i64 (-1000), .int .i64 1000]) ∧ Ms W bx kb T cs w' ∧ Fr (fun k => k = kb) wr w' :=
  (of_4 wr kb h.2.1).mono fun e w' ⟨he, p, f⟩ => ⟨he, h.ask p f, f⟩

theorem ms_of_5 {W : World} {bx kb : Nat} {T : TypeId} {cs : Array Value} (wr : World) (h : Ms W bx kb T cs wr) :
    Calls Try.prog 41 #[.pointer (some ⟨kb, 0, none⟩), .int .i64 5] wr fun e w' => e = .returned (.agg #[.int .i64 1, .int .i64 8]) ∧ Ms W bx kb T cs w' ∧ Fr (fun k => k = kb) wr w' :=
  (of_5 wr kb h.2.1).mono fun e w' ⟨he, p, f⟩ => ⟨he, h.ask p f, f⟩

theorem ms_of_6 {W : World} {bx kb : Nat} {T : TypeId} {cs : Array Value} (wr : World) (h : Ms W bx kb T cs wr) :
    Calls Try.prog 41 #[.pointer (some ⟨kb, 0, none⟩), .int .i64 6] wr fun e w' => e = .returned (.agg #[.int .i64 0, .int .i64 2]) ∧ Ms W bx kb T cs w' ∧ Fr (fun k => k = kb) wr w' :=
  (of_6 wr kb h.2.1).mono fun e w' ⟨he, p, f⟩ => ⟨he, h.ask p f, f⟩

theorem ms_of_7 {W : World} {bx kb : Nat} {T : TypeId} {cs : Array Value} (wr : World) (h : Ms W bx kb T cs wr) :
    Calls Try.prog 41 #[.pointer (some ⟨kb, 0, none⟩), .int .i64 7] wr fun e w' => e = .returned (.agg #[.int .i64 0, .int .i64 51]) ∧ Ms W bx kb T cs w' ∧ Fr (fun k => k = kb) wr w' :=
  (of_7 wr kb h.2.1).mono fun e w' ⟨he, p, f⟩ => ⟨he, h.ask p f, f⟩

theorem ms_of_8 {W : World} {bx kb : Nat} {T : TypeId} {cs : Array Value} (wr : World) (h : Ms W bx kb T cs wr) :
    Calls Try.prog 41 #[.pointer (some ⟨kb, 0, none⟩), .int .i64 8] wr fun e w' => e = .returned (.agg #[.int .i64 (-12), .int .i64 12]) ∧ Ms W bx kb T cs w' ∧ Fr (fun k => k = kb) wr w' :=
  (of_8 wr kb h.2.1).mono fun e w' ⟨he, p, f⟩ => ⟨he, h.ask p f, f⟩
end Go.Proofs.Ytadfgadkihlmcaa
