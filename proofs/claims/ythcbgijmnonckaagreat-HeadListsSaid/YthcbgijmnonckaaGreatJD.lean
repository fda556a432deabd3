/- Layer 4: the walk from bits to fields: its way reads, and what was read is laid into the field. -/
import Derived.Test.YthcbgijmnonckaaGreatJE
namespace Go.Proofs.YthcbgijmnonckaaGreat
open Go.RowKit Zo Zp
set_option linter.unusedVariables false

/-- Numbers from bits: what the Reader tells, whatever stood in the field. -/
def readF (f : Nat → Bool) (T : Nat) : WayFns Nat where
  plain := fun _ n p => (((rdBits f T p n).1 : Int), decide ((rdBits f T p n).2.1 = 0), (rdBits f T p n).2.2)
  ue := fun _ least p => (((rdUe f T p 2147483646).1 : Int) + least, decide ((rdUe f T p 2147483646).2.1 = 0), (rdUe f T p 2147483646).2.2)
  se := fun _ p => (unfoldedZ (rdUe f T p 2147483646).1, decide ((rdUe f T p 2147483646).2.1 = 0), (rdUe f T p 2147483646).2.2)
  flag := fun _ p => (((rdBits f T p 1).1 : Int) == 1, decide ((rdBits f T p 1).2.1 = 0), (rdBits f T p 1).2.2)

/-- The Reader of the way stands at p. -/
def rway (base rb : Nat) (s : ByteArray) (w : World) (p : Nat) : Prop := Rd w base rb s p ∧ s.size ≤ 1048576

def rwv (rb : Nat) : Value := .iface 118 (.agg #[.pointer (some ⟨rb, 0, none⟩)])

/-- What is the way's own. -/
def rown (rb : Nat) (k : Nat) (t : TypeId) : Prop := k = rb ∧ t = 116

theorem Rd.not_prot {C : Ctx} {w : World} {base rb : Nat} {s : ByteArray} {p : Nat} (ho : C.own = rown rb) (h : Rd w base rb s p) : ¬ Prot C w rb := by
  obtain ⟨_, _, hr, _⟩ := h
  rintro ⟨cs, t, h2, h3⟩
  rw [hr] at h2
  simp at h2
  rw [ho] at h3
  exact h3 ⟨rfl, h2.2.symm⟩

theorem Rd.not_safe {C : Ctx} {w : World} {rb : Nat} {s : ByteArray} {p : Nat} (ho : C.own = rown rb) (h : Rd w C.base rb s p) : ¬ Safe C w rb := by
  rintro (e | e)
  · obtain ⟨_, _, _, hb, _⟩ := h
    omega
  · exact h.not_prot ho e

theorem rway_hold {C : Ctx} {base rb : Nat} {s : ByteArray} (ho : C.own = rown rb) (w w' : World) (p : Nat) (S : Nat → Prop) (h : rway base rb s w p) (f : Fr S w w') (hS : ∀ k, k < w.heap.size → S k → Prot C w k) : rway base rb s w' p := by
  refine ⟨h.1.fr f (fun e => ?_), h.2⟩
  obtain ⟨_, _, hr, _⟩ := id h.1
  exact h.1.not_prot ho (hS rb (row_lt hr) e)

/-- What a method of the way leaves: the field laid in a world where nothing but the Reader has moved. -/
structure Rlaid (base rb : Nat) (s : ByteArray) (w : World) (b i : Nat) (v : Value) (q : Nat) (w' : World) : Prop where
  rd : Rd w' base rb s q
  all : ∃ w1, Fr (fun k => k = rb) w w1 ∧ w' = w1.setCell ⟨b, i, none⟩ v

theorem Rlaid.of {base rb : Nat} {s : ByteArray} {w w1 w2 : World} {b i : Nat} {v : Value} {q : Nat} (f : Fr (fun _ => False) w w1) (r : RPost w1 base rb s q w2) (hne : b ≠ rb) : Rlaid base rb s w b i v q (w2.setCell ⟨b, i, none⟩ v) :=
  ⟨r.1.fr (set_fr w2 b i v) (fun e => hne e.symm), w2, Fr.trans (Fr.mono f (fun _ _ e => e.elim)) r.2 (fun _ _ e => e), rfl⟩

theorem cell_moved {w w1 w2 : World} {C : Ctx} {b i rb base : Nat} {s : ByteArray} {p q : Nat} {v : Value} (hm : C.moves = true) (c : Cell C w b i v) (f : Fr (fun _ => False) w w1) (r : RPost w1 base rb s q w2) (hne : b ≠ rb) : w2.cell? ⟨b, i, none⟩ = some v ∧ w2.frozen? ⟨b, i, none⟩ = false := by
  have e1 : w1.heap[b]? = w.heap[b]? := f.block b c.lt (fun e => e)
  have e2 : w2.heap[b]? = w1.heap[b]? := r.2.block b (Nat.lt_of_lt_of_le c.lt f.size) hne
  obtain ⟨cs, t, h, _⟩ := c.prot hm
  have h2 := (e2.trans e1).trans h
  refine ⟨?_, free_row h2 i⟩
  rw [cell_of_row w2 b i cs t _ h2, ← cell_of_row w b i cs t _ h]
  exact c.cell

set_option maxRecDepth 100000 in
theorem reading_ue (C : Ctx) (hm : C.moves = true) (w : World) (base rb : Nat) (s : ByteArray) (p : Nat) (b i : Nat) (x : Int) (least : Int) (hl0 : 0 ≤ least) (hl1 : least ≤ 1) (h : Rd w base rb s p) (hs : s.size ≤ 1048576) (c : Cell C w b i (.int .i64 x)) (hne : b ≠ rb) :
    Calls Tryz.prog 188 #[.agg #[.pointer (some ⟨rb, 0, none⟩)], .pointer (some ⟨b, i, none⟩), .int .i64 least] w fun e w' => e = .returned (.bool (decide ((rdUe (bitAt s) (8 * s.size) p 2147483646).2.1 = 0))) ∧ Rlaid base rb s w b i (.int .i64 (((rdUe (bitAt s) (8 * s.size) p 2147483646).1 : Int) + least)) (rdUe (bitAt s) (8 * s.size) p 2147483646).2.2 w' := by
  have f0 := (Fr.refl (fun _ => False) w).alloc (.cells #[.pointer (some ⟨rb, 0, none⟩)] 118)
  have h1 := h.fr f0 (fun e => e)
  have r0 := heap_alloc_last w (.cells #[.pointer (some ⟨rb, 0, none⟩)] 118)
  have g0 := cell_of_row _ w.heap.size 0 _ _ _ r0
  simp at g0
  have HC := Lib.hid (rUe_any _ base rb s p h1 (by omega))
  have hmost := rdUe_most (bitAt s) (8 * s.size) p 2147483646 (by omega)
  have MV := Lib.hid (fun q w2 (r : RPost (w.alloc (.cells #[.pointer (some ⟨rb, 0, none⟩)] 118)) base rb s q w2) => cell_moved (p := p) hm c f0 r hne)
  have F0 := Lib.hid f0
  generalize rdUe (bitAt s) (8 * s.size) p 2147483646 = res at *
  obtain ⟨rx, rc, rq⟩ := res
  simp only at HC ⊢
  clear h h1 r0 f0 c
  go_enter Tryz.func188, Tryz.ntmps188
  go_wp2_with fail
  refine HC.out.mono ?_
  rintro e w2 ⟨rfl, p2⟩
  obtain ⟨m1, m2⟩ := MV.out _ _ p2
  have P := Lib.hid (Rlaid.of (i := i) (v := .int .i64 ((rx : Int) + least)) F0.out p2 hne)
  clear p2 HC F0 MV
  go_wp2_with fail
  go_ret
  first | exact ⟨rfl, P.out⟩ | exact ⟨ret_bool (by simp), P.out⟩

set_option maxRecDepth 100000 in
theorem reading_se (C : Ctx) (hm : C.moves = true) (w : World) (base rb : Nat) (s : ByteArray) (p : Nat) (b i : Nat) (x : Int) (h : Rd w base rb s p) (hs : s.size ≤ 1048576) (c : Cell C w b i (.int .i64 x)) (hne : b ≠ rb) :
    Calls Tryz.prog 187 #[.agg #[.pointer (some ⟨rb, 0, none⟩)], .pointer (some ⟨b, i, none⟩)] w fun e w' => e = .returned (.bool (decide ((rdUe (bitAt s) (8 * s.size) p 2147483646).2.1 = 0))) ∧ Rlaid base rb s w b i (.int .i64 (unfoldedZ (rdUe (bitAt s) (8 * s.size) p 2147483646).1)) (rdUe (bitAt s) (8 * s.size) p 2147483646).2.2 w' := by
  have f0 := (Fr.refl (fun _ => False) w).alloc (.cells #[.pointer (some ⟨rb, 0, none⟩)] 118)
  have h1 := h.fr f0 (fun e => e)
  have r0 := heap_alloc_last w (.cells #[.pointer (some ⟨rb, 0, none⟩)] 118)
  have g0 := cell_of_row _ w.heap.size 0 _ _ _ r0
  simp at g0
  have HC := Lib.hid (rSe_any _ base rb s p h1 (by omega))
  have MV := Lib.hid (fun q w2 (r : RPost (w.alloc (.cells #[.pointer (some ⟨rb, 0, none⟩)] 118)) base rb s q w2) => cell_moved (p := p) hm c f0 r hne)
  have F0 := Lib.hid f0
  generalize rdUe (bitAt s) (8 * s.size) p 2147483646 = res at *
  obtain ⟨rx, rc, rq⟩ := res
  simp only at HC ⊢
  clear h h1 r0 f0 c
  go_enter Tryz.func187, Tryz.ntmps187
  go_wp2_with fail
  refine HC.out.mono ?_
  rintro e w2 ⟨rfl, p2⟩
  obtain ⟨m1, m2⟩ := MV.out _ _ p2
  have P := Lib.hid (Rlaid.of (i := i) (v := .int .i64 (unfoldedZ rx)) F0.out p2 hne)
  clear p2 HC F0 MV
  go_wp2_with fail
  go_ret
  first | exact ⟨rfl, P.out⟩ | exact ⟨ret_bool (by simp), P.out⟩

set_option maxRecDepth 100000 in
theorem reading_plain (C : Ctx) (hm : C.moves = true) (w : World) (base rb : Nat) (s : ByteArray) (p : Nat) (b i : Nat) (x : Int) (m : Int) (hl0 : 0 ≤ m) (hl1 : m ≤ 32) (h : Rd w base rb s p) (hs : s.size ≤ 1048576) (c : Cell C w b i (.int .i64 x)) (hne : b ≠ rb) :
    Calls Tryz.prog 186 #[.agg #[.pointer (some ⟨rb, 0, none⟩)], .pointer (some ⟨b, i, none⟩), .int .i64 m] w fun e w' => e = .returned (.bool (decide ((rdBits (bitAt s) (8 * s.size) p m).2.1 = 0))) ∧ Rlaid base rb s w b i (.int .i64 ((rdBits (bitAt s) (8 * s.size) p m).1 : Int)) (rdBits (bitAt s) (8 * s.size) p m).2.2 w' := by
  have f0 := (Fr.refl (fun _ => False) w).alloc (.cells #[.pointer (some ⟨rb, 0, none⟩)] 118)
  have h1 := h.fr f0 (fun e => e)
  have r0 := heap_alloc_last w (.cells #[.pointer (some ⟨rb, 0, none⟩)] 118)
  have g0 := cell_of_row _ w.heap.size 0 _ _ _ r0
  simp at g0
  have HC := Lib.hid (rBits_any _ base rb s p m h1 (by omega))
  have MV := Lib.hid (fun q w2 (r : RPost (w.alloc (.cells #[.pointer (some ⟨rb, 0, none⟩)] 118)) base rb s q w2) => cell_moved (p := p) hm c f0 r hne)
  have F0 := Lib.hid f0
  generalize rdBits (bitAt s) (8 * s.size) p m = res at *
  obtain ⟨rx, rc, rq⟩ := res
  simp only at HC ⊢
  clear h h1 r0 f0 c
  go_enter Tryz.func186, Tryz.ntmps186
  go_wp2_with fail
  refine HC.out.mono ?_
  rintro e w2 ⟨rfl, p2⟩
  obtain ⟨m1, m2⟩ := MV.out _ _ p2
  have P := Lib.hid (Rlaid.of (i := i) (v := .int .i64 (rx : Int)) F0.out p2 hne)
  clear p2 HC F0 MV
  go_wp2_with fail
  go_ret
  first | exact ⟨rfl, P.out⟩ | exact ⟨ret_bool (by simp), P.out⟩

set_option maxRecDepth 100000 in
theorem reading_flag (C : Ctx) (hm : C.moves = true) (w : World) (base rb : Nat) (s : ByteArray) (p : Nat) (b i : Nat) (x : Bool) (h : Rd w base rb s p) (hs : s.size ≤ 1048576) (c : Cell C w b i (.bool x)) (hne : b ≠ rb) :
    Calls Tryz.prog 185 #[.agg #[.pointer (some ⟨rb, 0, none⟩)], .pointer (some ⟨b, i, none⟩)] w fun e w' => e = .returned (.bool (decide ((rdBits (bitAt s) (8 * s.size) p 1).2.1 = 0))) ∧ Rlaid base rb s w b i (.bool (((rdBits (bitAt s) (8 * s.size) p 1).1 : Int) == 1)) (rdBits (bitAt s) (8 * s.size) p 1).2.2 w' := by
  have f0 := (Fr.refl (fun _ => False) w).alloc (.cells #[.pointer (some ⟨rb, 0, none⟩)] 118)
  have h1 := h.fr f0 (fun e => e)
  have r0 := heap_alloc_last w (.cells #[.pointer (some ⟨rb, 0, none⟩)] 118)
  have g0 := cell_of_row _ w.heap.size 0 _ _ _ r0
  simp at g0
  have HC := Lib.hid (rBits_any _ base rb s p 1 h1 (by omega))
  have MV := Lib.hid (fun q w2 (r : RPost (w.alloc (.cells #[.pointer (some ⟨rb, 0, none⟩)] 118)) base rb s q w2) => cell_moved (p := p) hm c f0 r hne)
  have F0 := Lib.hid f0
  generalize rdBits (bitAt s) (8 * s.size) p 1 = res at *
  obtain ⟨rx, rc, rq⟩ := res
  simp only at HC ⊢
  clear h h1 r0 f0 c
  go_enter Tryz.func185, Tryz.ntmps185
  go_wp2_with fail
  refine HC.out.mono ?_
  rintro e w2 ⟨rfl, p2⟩
  obtain ⟨m1, m2⟩ := MV.out _ _ p2
  have P := Lib.hid (Rlaid.of (i := i) (v := .bool ((rx : Int) == 1)) F0.out p2 hne)
  clear p2 HC F0 MV
  go_wp2_with fail
  go_ret
  first | exact ⟨rfl, P.out⟩ | exact ⟨ret_bool (by simp), P.out⟩

end Go.Proofs.YthcbgijmnonckaaGreat
/- Layer 4: the walk's four steps from bits to fields. -/
namespace Go.Proofs.YthcbgijmnonckaaGreat
open Go.RowKit Zo Zp
set_option linter.unusedVariables false

theorem Wk.reader {C : Ctx} {w : World} {c : Int} {base rb : Nat} {s : ByteArray} {p : Nat} (k : Wk C w c) (h : Rd w base rb s p) : C.kb ≠ rb := by
  intro e
  obtain ⟨_, _, hr, _⟩ := h
  have := k.row
  rw [e, hr] at this
  simp at this

theorem Cell.reader {C : Ctx} {w : World} {b i : Nat} {v : Value} {base rb : Nat} {s : ByteArray} {p : Nat} (c : Cell C w b i v) (ho : C.own = rown rb) (hm : C.moves = true) (h : Rd w base rb s p) : b ≠ rb := by
  intro e
  exact h.not_prot ho (e ▸ c.prot hm)

/-- A step that could: what stands behind it. -/
theorem read_done {C : Ctx} {rb : Nat} (ho : C.own = rown rb) (hm : C.moves = true) {w w' : World} {s : ByteArray} {p q n : Nat} {b i : Nat} {v v' : Value} {fuel : Nat → Nat} (hf : ∀ p, fuel p = 1000) (hn : n + 1 ≤ fuel p) (k : Wk C w 0) (h : rway C.base rb s w p) (c : Cell C w b i v) (r : Rlaid C.base rb s w b i v' q w') :
    St C fuel (rway C.base rb s) n w' ⟨0, q⟩ ∧ Post1 C w b i v' w' := by
  obtain ⟨w1, f, rfl⟩ := r.all
  have hk := k.reader h.1
  have f2 : Fr (Un C w (fun _ => False)) w w1 := Fr.mono f (fun j _ e => .inl (e ▸ h.1.not_safe ho))
  refine ⟨⟨⟨?_, k.base⟩, ⟨r.rd, h.2⟩, by rw [hf] at hn ⊢; omega⟩, Post1.moved hm c f2 v'⟩
  rw [Zo.heap_setCell_other _ (show C.kb ≠ (⟨b, i, none⟩ : Addr).block from Ne.symm c.ne)]
  exact (f.block C.kb (row_lt k.row) hk).trans k.row

/-- A step that could not. -/
theorem read_fault {C : Ctx} {rb : Nat} (ho : C.own = rown rb) (hm : C.moves = true) {w w' : World} {s : ByteArray} {p q n : Nat} {b i : Nat} {v v' : Value} {fuel : Nat → Nat} (hf : ∀ p, fuel p = 1000) (hn : n + 1 ≤ fuel p) (k : Wk C w 0) (h : rway C.base rb s w p) (c : Cell C w b i v) (r : Rlaid C.base rb s w b i v' q w') :
    (St C fuel (rway C.base rb s) n (w'.setCell ⟨C.kb, 21, none⟩ (.int .i64 400)) ⟨400, q⟩ ∧ Post1 C w b i v' (w'.setCell ⟨C.kb, 21, none⟩ (.int .i64 400))) ∧ w'.cell? ⟨C.kb, 21, none⟩ = some (.int .i64 0) ∧ w'.frozen? ⟨C.kb, 21, none⟩ = false := by
  obtain ⟨st, po⟩ := read_done ho hm hf hn k h c r
  have hrow := st.k.row
  refine ⟨⟨⟨st.k.lay hrow 400, ?_, st.fuel⟩, po.fault 400⟩, st.k.cell 21 _ rfl, free_row hrow 21⟩
  refine rway_hold ho w' _ q (fun j => j = C.kb) st.way (set_fr w' C.kb 21 _) (fun j _ e => ?_)
  rw [e]
  exact Prot.of hrow ⟨by decide, by decide, by decide⟩

set_option maxRecDepth 100000 in
theorem rwalk_ue (C : Ctx) (hm : C.moves = true) (rb : Nat) (s : ByteArray) (hwv : C.wv = rwv rb) (ho : C.own = rown rb) (fuel : Nat → Nat) (hf : ∀ p, fuel p = 1000) (w : World) (n : Nat) (t : Ws Nat) (b i : Nat) (x : Int) (least : Int) (hl0 : 0 ≤ least) (hl1 : least ≤ 1) (hst : St C fuel (rway C.base rb s) (n + 1) w t) (c : Cell C w b i (.int .i64 x)) :
    Calls Tryz.prog 83 #[.pointer (some ⟨C.kb, 0, none⟩), .pointer (some ⟨b, i, none⟩), .int .i64 least] w fun e w' =>
      e = .returned (.tuple #[]) ∧ St C fuel (rway C.base rb s) n w' (fUe (readF (bitAt s) (8 * s.size)) x least t).2 ∧ Post1 C w b i (.int .i64 (fUe (readF (bitAt s) (8 * s.size)) x least t).1) w' := by
  obtain ⟨tc, p⟩ := t
  have c21 : w.cell? ⟨C.kb, 21, none⟩ = some (.int .i64 tc) := hst.k.cell 21 _ rfl
  by_cases h0 : tc = 0
  · subst h0
    have c20 : w.cell? ⟨C.kb, 20, none⟩ = some (rwv rb) := by rw [← hwv]; exact hst.k.cell 20 _ rfl
    unfold rwv at c20
    obtain ⟨hk, hw, hfu⟩ := id hst
    have hne := c.reader ho hm hw.1
    have HC := Lib.hid (reading_ue C hm w C.base rb s p b i x least hl0 hl1 hw.1 hw.2 c hne)
    have e1 : fUe (readF (bitAt s) (8 * s.size)) x least ⟨0, p⟩ = ((((rdUe (bitAt s) (8 * s.size) p 2147483646).1 : Int) + least), ⟨if decide ((rdUe (bitAt s) (8 * s.size) p 2147483646).2.1 = 0) = true then 0 else 400, (rdUe (bitAt s) (8 * s.size) p 2147483646).2.2⟩) := rfl
    rw [e1]
    have D := Lib.hid (fun v' q w' (r : Rlaid C.base rb s w b i v' q w') => read_done ho hm hf hfu hk hw c r)
    have G := Lib.hid (fun v' q w' (r : Rlaid C.base rb s w b i v' q w') => read_fault ho hm hf hfu hk hw c r)
    clear e1 hst hk hw c
    generalize rdUe (bitAt s) (8 * s.size) p 2147483646 = res at *
    obtain ⟨rx, rc, rq⟩ := res
    simp only at HC ⊢
    by_cases hc : rc = 0
    · subst hc
      rw [decide_eq_true rfl] at HC ⊢
      go_enter Tryz.func83, Tryz.ntmps83
      go_wp2_with fail
      refine HC.out.mono ?_
      rintro e w2 ⟨rfl, r⟩
      have P := Lib.hid (D.out _ _ _ r)
      clear r D G HC
      go_wp2_with fail
      go_end0
      exact ⟨rfl, P.out⟩
    · rw [decide_eq_false hc] at HC ⊢
      go_enter Tryz.func83, Tryz.ntmps83
      go_wp2_with fail
      refine HC.out.mono ?_
      rintro e w2 ⟨rfl, r⟩
      obtain ⟨g1, g2, g3⟩ := G.out _ _ _ r
      have P := Lib.hid g1
      clear r D G HC g1
      go_wp2_with fail
      go_end0
      exact ⟨rfl, P.out⟩
  · rw [fUe_idle (s := ⟨tc, p⟩) h0]
    have S1 := Lib.hid (hst.less (Nat.le_succ n))
    have P := Lib.hid (Post1.still c (Fr.refl _ _))
    have hb : (tc == 0) = false := by simp [h0]
    clear hst c
    go_enter Tryz.func83, Tryz.ntmps83
    go_wp2_with fail
    go_end0
    exact ⟨rfl, S1.out, P.out⟩

set_option maxRecDepth 100000 in
theorem rwalk_se (C : Ctx) (hm : C.moves = true) (rb : Nat) (s : ByteArray) (hwv : C.wv = rwv rb) (ho : C.own = rown rb) (fuel : Nat → Nat) (hf : ∀ p, fuel p = 1000) (w : World) (n : Nat) (t : Ws Nat) (b i : Nat) (x : Int) (hst : St C fuel (rway C.base rb s) (n + 1) w t) (c : Cell C w b i (.int .i64 x)) :
    Calls Tryz.prog 117 #[.pointer (some ⟨C.kb, 0, none⟩), .pointer (some ⟨b, i, none⟩)] w fun e w' =>
      e = .returned (.tuple #[]) ∧ St C fuel (rway C.base rb s) n w' (fSe (readF (bitAt s) (8 * s.size)) x t).2 ∧ Post1 C w b i (.int .i64 (fSe (readF (bitAt s) (8 * s.size)) x t).1) w' := by
  obtain ⟨tc, p⟩ := t
  have c21 : w.cell? ⟨C.kb, 21, none⟩ = some (.int .i64 tc) := hst.k.cell 21 _ rfl
  by_cases h0 : tc = 0
  · subst h0
    have c20 : w.cell? ⟨C.kb, 20, none⟩ = some (rwv rb) := by rw [← hwv]; exact hst.k.cell 20 _ rfl
    unfold rwv at c20
    obtain ⟨hk, hw, hfu⟩ := id hst
    have hne := c.reader ho hm hw.1
    have HC := Lib.hid (reading_se C hm w C.base rb s p b i x hw.1 hw.2 c hne)
    have e1 : fSe (readF (bitAt s) (8 * s.size)) x ⟨0, p⟩ = ((unfoldedZ (rdUe (bitAt s) (8 * s.size) p 2147483646).1), ⟨if decide ((rdUe (bitAt s) (8 * s.size) p 2147483646).2.1 = 0) = true then 0 else 400, (rdUe (bitAt s) (8 * s.size) p 2147483646).2.2⟩) := rfl
    rw [e1]
    have D := Lib.hid (fun v' q w' (r : Rlaid C.base rb s w b i v' q w') => read_done ho hm hf hfu hk hw c r)
    have G := Lib.hid (fun v' q w' (r : Rlaid C.base rb s w b i v' q w') => read_fault ho hm hf hfu hk hw c r)
    clear e1 hst hk hw c
    generalize rdUe (bitAt s) (8 * s.size) p 2147483646 = res at *
    obtain ⟨rx, rc, rq⟩ := res
    simp only at HC ⊢
    by_cases hc : rc = 0
    · subst hc
      rw [decide_eq_true rfl] at HC ⊢
      go_enter Tryz.func117, Tryz.ntmps117
      go_wp2_with fail
      refine HC.out.mono ?_
      rintro e w2 ⟨rfl, r⟩
      have P := Lib.hid (D.out _ _ _ r)
      clear r D G HC
      go_wp2_with fail
      go_end0
      exact ⟨rfl, P.out⟩
    · rw [decide_eq_false hc] at HC ⊢
      go_enter Tryz.func117, Tryz.ntmps117
      go_wp2_with fail
      refine HC.out.mono ?_
      rintro e w2 ⟨rfl, r⟩
      obtain ⟨g1, g2, g3⟩ := G.out _ _ _ r
      have P := Lib.hid g1
      clear r D G HC g1
      go_wp2_with fail
      go_end0
      exact ⟨rfl, P.out⟩
  · rw [fSe_idle (s := ⟨tc, p⟩) h0]
    have S1 := Lib.hid (hst.less (Nat.le_succ n))
    have P := Lib.hid (Post1.still c (Fr.refl _ _))
    have hb : (tc == 0) = false := by simp [h0]
    clear hst c
    go_enter Tryz.func117, Tryz.ntmps117
    go_wp2_with fail
    go_end0
    exact ⟨rfl, S1.out, P.out⟩

set_option maxRecDepth 100000 in
theorem rwalk_plain (C : Ctx) (hm : C.moves = true) (rb : Nat) (s : ByteArray) (hwv : C.wv = rwv rb) (ho : C.own = rown rb) (fuel : Nat → Nat) (hf : ∀ p, fuel p = 1000) (w : World) (n : Nat) (t : Ws Nat) (b i : Nat) (x : Int) (m : Int) (hl0 : 0 ≤ m) (hl1 : m ≤ 32) (hst : St C fuel (rway C.base rb s) (n + 1) w t) (c : Cell C w b i (.int .i64 x)) :
    Calls Tryz.prog 84 #[.pointer (some ⟨C.kb, 0, none⟩), .pointer (some ⟨b, i, none⟩), .int .i64 m] w fun e w' =>
      e = .returned (.tuple #[]) ∧ St C fuel (rway C.base rb s) n w' (fPlain (readF (bitAt s) (8 * s.size)) x m t).2 ∧ Post1 C w b i (.int .i64 (fPlain (readF (bitAt s) (8 * s.size)) x m t).1) w' := by
  obtain ⟨tc, p⟩ := t
  have c21 : w.cell? ⟨C.kb, 21, none⟩ = some (.int .i64 tc) := hst.k.cell 21 _ rfl
  by_cases h0 : tc = 0
  · subst h0
    have c20 : w.cell? ⟨C.kb, 20, none⟩ = some (rwv rb) := by rw [← hwv]; exact hst.k.cell 20 _ rfl
    unfold rwv at c20
    obtain ⟨hk, hw, hfu⟩ := id hst
    have hne := c.reader ho hm hw.1
    have HC := Lib.hid (reading_plain C hm w C.base rb s p b i x m hl0 hl1 hw.1 hw.2 c hne)
    have e1 : fPlain (readF (bitAt s) (8 * s.size)) x m ⟨0, p⟩ = (((rdBits (bitAt s) (8 * s.size) p m).1 : Int), ⟨if decide ((rdBits (bitAt s) (8 * s.size) p m).2.1 = 0) = true then 0 else 400, (rdBits (bitAt s) (8 * s.size) p m).2.2⟩) := rfl
    rw [e1]
    have D := Lib.hid (fun v' q w' (r : Rlaid C.base rb s w b i v' q w') => read_done ho hm hf hfu hk hw c r)
    have G := Lib.hid (fun v' q w' (r : Rlaid C.base rb s w b i v' q w') => read_fault ho hm hf hfu hk hw c r)
    clear e1 hst hk hw c
    generalize rdBits (bitAt s) (8 * s.size) p m = res at *
    obtain ⟨rx, rc, rq⟩ := res
    simp only at HC ⊢
    by_cases hc : rc = 0
    · subst hc
      rw [decide_eq_true rfl] at HC ⊢
      go_enter Tryz.func84, Tryz.ntmps84
      go_wp2_with fail
      refine HC.out.mono ?_
      rintro e w2 ⟨rfl, r⟩
      have P := Lib.hid (D.out _ _ _ r)
      clear r D G HC
      go_wp2_with fail
      go_end0
      exact ⟨rfl, P.out⟩
    · rw [decide_eq_false hc] at HC ⊢
      go_enter Tryz.func84, Tryz.ntmps84
      go_wp2_with fail
      refine HC.out.mono ?_
      rintro e w2 ⟨rfl, r⟩
      obtain ⟨g1, g2, g3⟩ := G.out _ _ _ r
      have P := Lib.hid g1
      clear r D G HC g1
      go_wp2_with fail
      go_end0
      exact ⟨rfl, P.out⟩
  · rw [fPlain_idle (s := ⟨tc, p⟩) h0]
    have S1 := Lib.hid (hst.less (Nat.le_succ n))
    have P := Lib.hid (Post1.still c (Fr.refl _ _))
    have hb : (tc == 0) = false := by simp [h0]
    clear hst c
    go_enter Tryz.func84, Tryz.ntmps84
    go_wp2_with fail
    go_end0
    exact ⟨rfl, S1.out, P.out⟩

set_option maxRecDepth 100000 in
theorem rwalk_flag (C : Ctx) (hm : C.moves = true) (rb : Nat) (s : ByteArray) (hwv : C.wv = rwv rb) (ho : C.own = rown rb) (fuel : Nat → Nat) (hf : ∀ p, fuel p = 1000) (w : World) (n : Nat) (t : Ws Nat) (b i : Nat) (x : Bool) (hst : St C fuel (rway C.base rb s) (n + 1) w t) (c : Cell C w b i (.bool x)) :
    Calls Tryz.prog 110 #[.pointer (some ⟨C.kb, 0, none⟩), .pointer (some ⟨b, i, none⟩)] w fun e w' =>
      e = .returned (.tuple #[]) ∧ St C fuel (rway C.base rb s) n w' (fFlag (readF (bitAt s) (8 * s.size)) x t).2 ∧ Post1 C w b i (.bool (fFlag (readF (bitAt s) (8 * s.size)) x t).1) w' := by
  obtain ⟨tc, p⟩ := t
  have c21 : w.cell? ⟨C.kb, 21, none⟩ = some (.int .i64 tc) := hst.k.cell 21 _ rfl
  by_cases h0 : tc = 0
  · subst h0
    have c20 : w.cell? ⟨C.kb, 20, none⟩ = some (rwv rb) := by rw [← hwv]; exact hst.k.cell 20 _ rfl
    unfold rwv at c20
    obtain ⟨hk, hw, hfu⟩ := id hst
    have hne := c.reader ho hm hw.1
    have HC := Lib.hid (reading_flag C hm w C.base rb s p b i x hw.1 hw.2 c hne)
    have e1 : fFlag (readF (bitAt s) (8 * s.size)) x ⟨0, p⟩ = ((((rdBits (bitAt s) (8 * s.size) p 1).1 : Int) == 1), ⟨if decide ((rdBits (bitAt s) (8 * s.size) p 1).2.1 = 0) = true then 0 else 400, (rdBits (bitAt s) (8 * s.size) p 1).2.2⟩) := rfl
    rw [e1]
    have D := Lib.hid (fun v' q w' (r : Rlaid C.base rb s w b i v' q w') => read_done ho hm hf hfu hk hw c r)
    have G := Lib.hid (fun v' q w' (r : Rlaid C.base rb s w b i v' q w') => read_fault ho hm hf hfu hk hw c r)
    clear e1 hst hk hw c
    generalize rdBits (bitAt s) (8 * s.size) p 1 = res at *
    obtain ⟨rx, rc, rq⟩ := res
    simp only at HC ⊢
    by_cases hc : rc = 0
    · subst hc
      rw [decide_eq_true rfl] at HC ⊢
      go_enter Tryz.func110, Tryz.ntmps110
      go_wp2_with fail
      refine HC.out.mono ?_
      rintro e w2 ⟨rfl, r⟩
      have P := Lib.hid (D.out _ _ _ r)
      clear r D G HC
      go_wp2_with fail
      go_end0
      exact ⟨rfl, P.out⟩
    · rw [decide_eq_false hc] at HC ⊢
      go_enter Tryz.func110, Tryz.ntmps110
      go_wp2_with fail
      refine HC.out.mono ?_
      rintro e w2 ⟨rfl, r⟩
      obtain ⟨g1, g2, g3⟩ := G.out _ _ _ r
      have P := Lib.hid g1
      clear r D G HC g1
      go_wp2_with fail
      go_end0
      exact ⟨rfl, P.out⟩
  · rw [fFlag_idle (s := ⟨tc, p⟩) h0]
    have S1 := Lib.hid (hst.less (Nat.le_succ n))
    have P := Lib.hid (Post1.still c (Fr.refl _ _))
    have hb : (tc == 0) = false := by simp [h0]
    clear hst c
    go_enter Tryz.func110, Tryz.ntmps110
    go_wp2_with fail
    go_end0
    exact ⟨rfl, S1.out, P.out⟩

end Go.Proofs.YthcbgijmnonckaaGreat
