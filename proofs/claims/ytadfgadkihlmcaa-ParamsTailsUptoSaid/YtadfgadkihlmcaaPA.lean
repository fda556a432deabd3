/- Plain mathematics of layer 3: parameters as bits, bits as parameters, there and back. No program is named here. -/
import Derived.Test.YtadfgadkihlmcaaO
namespace Zp
open Zo

/-! ### What was read without an error is the code of what it says -/

theorem win_false (f : Nat → Bool) (p n : Nat) (h : ∀ j, j < n → f (p + j) = false) : win f p n = List.replicate n false := by
  apply List.ext_getElem?
  intro i
  by_cases hi : i < n
  · rw [win_get _ _ _ _ hi, h i hi, List.getElem?_replicate, if_pos hi]
  · rw [List.getElem?_eq_none (by rw [win_length]; omega), List.getElem?_eq_none (by simp; omega)]

theorem rdUe_forth (f : Nat → Bool) (T p : Nat) (most : Int) (h : (rdUe f T p most).2.1 = 0) :
    (rdUe f T p most).2.2 = p + (ueB (rdUe f T p most).1).length ∧ win f p (ueB (rdUe f T p most).1).length = ueB (rdUe f T p most).1 ∧ (rdUe f T p most).2.2 ≤ T ∧ (rdUe f T p most).1 ≤ 2147483646 := by
  unfold rdUe at h ⊢
  split at h
  · cases h
  · rename_i h1
    rw [if_neg h1]
    split at h
    · cases h
    · rename_i h2
      rw [if_neg h2]
      split at h
      · cases h
      · rename_i h3
        rw [if_neg h3]
        clear h
        obtain ⟨n, hn⟩ : ∃ n, lead f p 32 = n := ⟨_, rfl⟩
        have hn30 : n ≤ 30 := by omega
        have hone := lead_one f p 32 (by omega)
        have hno := fun j hj => lead_nought f p 32 j hj
        rw [hn] at hone hno h2 ⊢
        have hw1 : win f p n = List.replicate n false := win_false f p n hno
        have hbl := bitLen_win f (p + n) (n + 1) (by omega)
        have hl0 : lead f (p + n) (n + 1) = 0 := by unfold lead; rw [if_pos hone]
        rw [hl0, Nat.sub_zero] at hbl
        have hdv := digs_val (win f (p + n) (n + 1))
        rw [win_length] at hdv
        have hlt := val_lt (win f (p + n) (n + 1))
        rw [win_length] at hlt
        have hge : 1 ≤ val (win f (p + n) (n + 1)) := by
          rw [win_cons, hone, val_cons]
          have := Nat.two_pow_pos (win f (p + n + 1) n).length
          simp only [Bool.toNat_true, Nat.one_mul]
          omega
        have h31 : 2 ^ (n + 1) ≤ 2 ^ 31 := Nat.pow_le_pow_right (by omega) (by omega)
        obtain ⟨v, hv⟩ : ∃ v, val (win f (p + n) (n + 1)) = v := ⟨_, rfl⟩
        rw [hv] at hbl hdv hlt hge ⊢
        have hue : ueB (v - 1) = List.replicate n false ++ win f (p + n) (n + 1) := by
          rw [ueB, show v - 1 + 1 = v from by omega, hbl, hdv]; rfl
        have hul : (ueB (v - 1)).length = n + (n + 1) := by rw [hue, List.length_append, List.length_replicate, win_length]
        show p + (2 * n + 1) = p + (ueB (v - 1)).length ∧ win f p (ueB (v - 1)).length = ueB (v - 1) ∧ p + (2 * n + 1) ≤ T ∧ v - 1 ≤ 2147483646
        rw [hul]
        refine ⟨by omega, ?_, by omega, by omega⟩
        rw [win_add, hw1, hue]

theorem folded_unfolded (x : Nat) : foldedN (unfoldedZ x) = x := by
  unfold foldedN unfoldedZ
  split <;> split <;> omega

theorem seB_unfolded (x : Nat) : seB (unfoldedZ x) = ueB x := by rw [seB, folded_unfolded]

/-! ### Readings in a row: nothing where one of them fails -/

def pUe (f : Nat → Bool) (T p : Nat) : Option (Nat × Nat) := if (rdUe f T p 2147483646).2.1 = 0 then some ((rdUe f T p 2147483646).1, (rdUe f T p 2147483646).2.2) else none
def pSe (f : Nat → Bool) (T p : Nat) : Option (Int × Nat) := (pUe f T p).map fun x => (unfoldedZ x.1, x.2)
def pBits (f : Nat → Bool) (T p n : Nat) : Option (Nat × Nat) := if T - p < n then none else some (val (win f p n), p + n)

/-- From p to q stand these bits. -/
def Is (f : Nat → Bool) (T p q : Nat) (l : List Bool) : Prop := q = p + l.length ∧ win f p l.length = l ∧ q ≤ T

theorem Is.nil {f : Nat → Bool} {T p : Nat} (h : p ≤ T) : Is f T p p [] := ⟨rfl, rfl, h⟩

theorem Is.append {f : Nat → Bool} {T p q r : Nat} {a b : List Bool} (h : Is f T p q a) (k : Is f T q r b) : Is f T p r (a ++ b) := by
  obtain ⟨h1, h2, h3⟩ := h
  obtain ⟨k1, k2, k3⟩ := k
  refine ⟨by simp; omega, ?_, k3⟩
  rw [List.length_append, win_add, h2, ← h1, k2]

theorem Is.split {f : Nat → Bool} {T p r : Nat} {a b : List Bool} (h : Is f T p r (a ++ b)) : Is f T p (p + a.length) a ∧ Is f T (p + a.length) r b := by
  obtain ⟨h1, h2, h3⟩ := h
  obtain ⟨w1, w2⟩ := win_split h2
  simp only [List.length_append] at h1
  exact ⟨⟨rfl, w1, by omega⟩, ⟨by omega, w2, h3⟩⟩

theorem pUe_forth {f : Nat → Bool} {T p q x : Nat} (h : pUe f T p = some (x, q)) : Is f T p q (ueB x) ∧ x ≤ 2147483646 := by
  unfold pUe at h
  split at h
  · rename_i h0
    obtain ⟨a1, a2, a3, a4⟩ := rdUe_forth f T p 2147483646 h0
    simp only [Option.some.injEq, Prod.mk.injEq] at h
    obtain ⟨rfl, rfl⟩ := h
    exact ⟨⟨a1, a2, a3⟩, a4⟩
  · cases h

theorem pUe_back {f : Nat → Bool} {T p q x : Nat} (h : Is f T p q (ueB x)) (hx : x ≤ 2147483646) : pUe f T p = some (x, q) := by
  obtain ⟨h1, h2, h3⟩ := h
  have := rdUe_back f T p x 2147483646 hx h2 (by omega) (by omega)
  rw [pUe, this, h1]; rfl

theorem pSe_forth {f : Nat → Bool} {T p q : Nat} {x : Int} (h : pSe f T p = some (x, q)) : Is f T p q (seB x) ∧ -1073741823 ≤ x ∧ x ≤ 1073741823 := by
  unfold pSe at h
  rw [Option.map_eq_some_iff] at h
  obtain ⟨⟨y, r⟩, hy, he⟩ := h
  simp only [Prod.mk.injEq] at he
  obtain ⟨rfl, rfl⟩ := he
  obtain ⟨h1, h2⟩ := pUe_forth hy
  refine ⟨by rw [seB_unfolded]; exact h1, ?_, ?_⟩
  · unfold unfoldedZ; split <;> omega
  · unfold unfoldedZ; split <;> omega

theorem pSe_back {f : Nat → Bool} {T p q : Nat} {x : Int} (h : Is f T p q (seB x)) (h1 : -1073741823 ≤ x) (h2 : x ≤ 1073741823) : pSe f T p = some (x, q) := by
  have := pUe_back (x := foldedN x) h (foldedN_le x h1 h2)
  rw [pSe, this]
  simp [unfolded_folded]

theorem pBits_forth {f : Nat → Bool} {T p q n x : Nat} (hp : p ≤ T) (h : pBits f T p n = some (x, q)) : Is f T p q (digs n x) ∧ x < 2 ^ n := by
  unfold pBits at h
  split at h
  · cases h
  · simp only [Option.some.injEq, Prod.mk.injEq] at h
    obtain ⟨rfl, rfl⟩ := h
    have hd := digs_val (win f p n)
    have hl := val_lt (win f p n)
    rw [win_length] at hd hl
    exact ⟨⟨by rw [digs_length], by rw [digs_length, hd], by omega⟩, hl⟩

theorem pBits_back {f : Nat → Bool} {T p q n x : Nat} (h : Is f T p q (digs n x)) (hx : x < 2 ^ n) : pBits f T p n = some (x, q) := by
  obtain ⟨h1, h2, h3⟩ := h
  rw [digs_length] at h1 h2
  rw [pBits, if_neg (by omega), h2, val_digs, Nat.mod_eq_of_lt hx, h1]

def pCycle (f : Nat → Bool) (T : Nat) : Nat → Nat → Option (List Int × Nat)
  | 0, p => some ([], p)
  | k + 1, p => (pSe f T p).bind fun x => (pCycle f T k x.2).map fun y => (x.1 :: y.1, y.2)

def cycleB (l : List Int) : List Bool := l.flatMap seB

theorem pCycle_forth {f : Nat → Bool} {T : Nat} : ∀ (k p q : Nat) (l : List Int), p ≤ T → pCycle f T k p = some (l, q) → Is f T p q (cycleB l) ∧ l.length = k
  | 0, p, q, l, hp, h => by
    simp only [pCycle, Option.some.injEq, Prod.mk.injEq] at h
    obtain ⟨rfl, rfl⟩ := h
    exact ⟨Is.nil hp, rfl⟩
  | k + 1, p, q, l, hp, h => by
    rw [pCycle, Option.bind_eq_some_iff] at h
    obtain ⟨⟨x, r⟩, h1, h2⟩ := h
    rw [Option.map_eq_some_iff] at h2
    obtain ⟨⟨m, s⟩, h3, h4⟩ := h2
    simp only [Prod.mk.injEq] at h4
    obtain ⟨rfl, rfl⟩ := h4
    obtain ⟨i1, _⟩ := pSe_forth h1
    obtain ⟨i2, hl⟩ := pCycle_forth k r s m i1.2.2 h3
    exact ⟨i1.append i2, by simp [hl]⟩

theorem pCycle_back {f : Nat → Bool} {T : Nat} : ∀ (l : List Int) (p q : Nat), (∀ x ∈ l, -1073741823 ≤ x ∧ x ≤ 1073741823) → Is f T p q (cycleB l) → pCycle f T l.length p = some (l, q)
  | [], p, q, _, h => by
    have := h.1
    simp [cycleB] at this
    simp [pCycle, this]
  | x :: l, p, q, hx, h => by
    obtain ⟨h1, h2⟩ := Is.split (a := seB x) (b := cycleB l) h
    have e := hx x (by simp)
    rw [List.length_cons, pCycle, pSe_back h1 e.1 e.2, Option.bind_some, pCycle_back l _ q (fun y hy => hx y (by simp [hy])) h2]
    rfl

/-! ### A sequence's parameters -/

structure SpsN where
  wide : Int
  high : Int
  fbits : Int
  ptype : Int
  pbits : Int
  nonref : Int
  cycle : List Int
  refs : Int
  delay : Int
deriving DecidableEq

def SpsN.zero : SpsN := ⟨0, 0, 0, 0, 0, 0, [], 0, 0⟩

/-- Which there may be. -/
def SpsN.may (s : SpsN) : Prop :=
  1 ≤ s.wide ∧ s.wide ≤ 8 ∧ 1 ≤ s.high ∧ s.high ≤ 8 ∧ 4 ≤ s.fbits ∧ s.fbits ≤ 8 ∧ 4 ≤ s.pbits ∧ s.pbits ≤ 8 ∧ 0 ≤ s.ptype ∧ s.ptype ≤ 2 ∧ -1000 ≤ s.nonref ∧ s.nonref ≤ 1000 ∧ s.cycle.length ≤ 4 ∧ (∀ x ∈ s.cycle, -1000 ≤ x ∧ x ≤ 1000) ∧
  (s.ptype = 1 ∨ (s.nonref = 0 ∧ s.cycle = [])) ∧ (s.ptype = 0 ∨ s.pbits = 4) ∧ 1 ≤ s.refs ∧ s.refs ≤ 8 ∧ 0 ≤ s.delay ∧ s.delay ≤ s.refs ∧ (s.ptype ≠ 2 ∨ s.delay = 0)

instance (s : SpsN) : Decidable s.may := by unfold SpsN.may; infer_instance

/-- The bits ahead of the trail. -/
def midB (s : SpsN) : List Bool := if s.ptype = 0 then ueB (s.pbits - 4).toNat else if s.ptype = 1 then seB s.nonref ++ ueB s.cycle.length ++ cycleB s.cycle else []
def spsB (s : SpsN) : List Bool := ueB (s.wide - 1).toNat ++ (ueB (s.high - 1).toNat ++ (ueB (s.fbits - 4).toNat ++ (ueB s.ptype.toNat ++ (midB s ++ (ueB s.refs.toNat ++ ueB s.delay.toNat)))))

/-- The middle: PocBits, NonRef, Cycle; some none: a Cycle above 4. -/
def pMid (f : Nat → Bool) (T p pt : Nat) : Option (Option (Int × Int × List Int × Nat)) :=
  if pt = 0 then (pUe f T p).map fun x => some ((x.1 : Int) + 4, 0, [], x.2)
  else if pt = 1 then (pSe f T p).bind fun x => (pUe f T x.2).bind fun k => if 4 < k.1 then some none else (pCycle f T k.1 k.2).map fun c => some (4, x.1, c.1, c.2)
  else some (some (4, 0, [], p))

/-- All of them: none: an error of layer 1; some none: a Cycle above 4. -/
def pSps (f : Nat → Bool) (T : Nat) : Option (Option (SpsN × Nat)) :=
  (pUe f T 0).bind fun a => (pUe f T a.2).bind fun b => (pUe f T b.2).bind fun c => (pUe f T c.2).bind fun d => (pMid f T d.2 d.1).bind fun m => match m with
    | none => some none
    | some (pb, nr, cy, p) => (pUe f T p).bind fun r => (pUe f T r.2).map fun l => some (⟨(a.1 : Int) + 1, (b.1 : Int) + 1, (c.1 : Int) + 4, d.1, pb, nr, cy, r.1, l.1⟩, l.2)

theorem pMid_forth {f : Nat → Bool} {T p pt q : Nat} {pb nr : Int} {cy : List Int} (hp : p ≤ T) (h : pMid f T p pt = some (some (pb, nr, cy, q))) (s : SpsN) (h1 : s.ptype = (pt : Int)) (h2 : s.pbits = pb) (h3 : s.nonref = nr) (h4 : s.cycle = cy) :
    Is f T p q (midB s) := by
  unfold pMid at h
  unfold midB
  split at h
  · rename_i h0
    rw [if_pos (by omega)]
    rw [Option.map_eq_some_iff] at h
    obtain ⟨⟨x, r⟩, hx, he⟩ := h
    simp only [Option.some.injEq, Prod.mk.injEq] at he
    obtain ⟨rfl, _, _, rfl⟩ := he
    rw [h2, show ((x : Int) + 4 - 4).toNat = x from by omega]
    exact (pUe_forth hx).1
  · rename_i h0
    rw [if_neg (by omega)]
    split at h
    · rename_i h01
      rw [if_pos (by omega)]
      rw [Option.bind_eq_some_iff] at h
      obtain ⟨⟨x, r⟩, hx, h⟩ := h
      rw [Option.bind_eq_some_iff] at h
      obtain ⟨⟨k, r2⟩, hk, h⟩ := h
      split at h
      · simp at h
      · rw [Option.map_eq_some_iff] at h
        obtain ⟨⟨c, r3⟩, hc, he⟩ := h
        simp only [Option.some.injEq, Prod.mk.injEq] at he
        obtain ⟨_, rfl, rfl, rfl⟩ := he
        have i1 := (pSe_forth hx).1
        have i2 := (pUe_forth hk).1
        obtain ⟨i3, hl⟩ := pCycle_forth k r2 r3 c i2.2.2 hc
        rw [h3, h4, hl]
        exact (i1.append i2).append i3
    · rename_i h01
      rw [if_neg (by omega)]
      simp only [Option.some.injEq, Prod.mk.injEq] at h
      obtain ⟨_, _, _, rfl⟩ := h
      exact Is.nil hp

theorem pSps_forth {f : Nat → Bool} {T q : Nat} {s : SpsN} (h : pSps f T = some (some (s, q))) : Is f T 0 q (spsB s) := by
  unfold pSps at h
  simp only [Option.bind_eq_some_iff] at h
  obtain ⟨⟨a, p1⟩, ha, ⟨b, p2⟩, hb, ⟨c, p3⟩, hc, ⟨d, p4⟩, hd, m, hm, h⟩ := h
  cases m with
  | none => simp at h
  | some m =>
    obtain ⟨pb, nr, cy, p5⟩ := m
    simp only [Option.bind_eq_some_iff, Option.map_eq_some_iff] at h
    obtain ⟨⟨r, p6⟩, hr, ⟨l, p7⟩, hl, he⟩ := h
    simp only [Option.some.injEq, Prod.mk.injEq] at he
    obtain ⟨rfl, rfl⟩ := he
    have i1 := (pUe_forth ha).1
    have i2 := (pUe_forth hb).1
    have i3 := (pUe_forth hc).1
    have i4 := (pUe_forth hd).1
    have i5 := pMid_forth i4.2.2 hm ⟨(a : Int) + 1, (b : Int) + 1, (c : Int) + 4, d, pb, nr, cy, r, l⟩ rfl rfl rfl rfl
    have i6 := (pUe_forth hr).1
    have i7 := (pUe_forth hl).1
    have := i1.append (i2.append (i3.append (i4.append (i5.append (i6.append i7)))))
    unfold spsB
    simpa using this

theorem pMid_back {f : Nat → Bool} {T p q : Nat} {s : SpsN} (hs : s.may) (h : Is f T p q (midB s)) : pMid f T p s.ptype.toNat = some (some (s.pbits, s.nonref, s.cycle, q)) := by
  obtain ⟨_, _, _, _, _, _, b1, b2, t1, t2, n1, n2, c1, c2, o1, o2, _⟩ := hs
  unfold midB at h
  unfold pMid
  by_cases h0 : s.ptype = 0
  · rw [if_pos h0] at h
    rw [if_pos (by omega), pUe_back h (by omega)]
    have hn : s.nonref = 0 ∧ s.cycle = [] := by rcases o1 with h | h; omega; exact h
    simp only [Option.map_some, hn.1, hn.2]
    rw [show (((s.pbits - 4).toNat : Nat) : Int) + 4 = s.pbits from by omega]
  · rw [if_neg h0] at h
    rw [if_neg (by omega)]
    have hb : s.pbits = 4 := by rcases o2 with h | h; exact absurd h h0; exact h
    by_cases h1 : s.ptype = 1
    · rw [if_pos h1, List.append_assoc] at h
      rw [if_pos (by omega)]
      obtain ⟨i1, i2⟩ := Is.split h
      obtain ⟨i2, i3⟩ := Is.split i2
      rw [pSe_back i1 (by omega) (by omega), Option.bind_some, pUe_back i2 (by omega), Option.bind_some, if_neg (by simp; omega), pCycle_back s.cycle _ q (fun x hx => by have := c2 x hx; omega) i3, Option.map_some, hb]
    · rw [if_neg h1] at h
      rw [if_neg (by omega)]
      have hn : s.nonref = 0 ∧ s.cycle = [] := by rcases o1 with h | h; omega; exact h
      have := h.1
      simp at this
      rw [hb, hn.1, hn.2, this]

theorem pSps_back {f : Nat → Bool} {T q : Nat} {s : SpsN} (hs : s.may) (h : Is f T 0 q (spsB s)) : pSps f T = some (some (s, q)) := by
  have hm := hs
  obtain ⟨w1, w2, g1, g2, f1, f2, _, _, t1, t2, _, _, _, _, _, _, r1, r2, d1, d2, _⟩ := hs
  unfold spsB at h
  obtain ⟨i1, h⟩ := Is.split h
  obtain ⟨i2, h⟩ := Is.split h
  obtain ⟨i3, h⟩ := Is.split h
  obtain ⟨i4, h⟩ := Is.split h
  obtain ⟨i5, h⟩ := Is.split h
  obtain ⟨i6, i7⟩ := Is.split h
  unfold pSps
  rw [pUe_back i1 (by omega), Option.bind_some, pUe_back i2 (by omega), Option.bind_some, pUe_back i3 (by omega), Option.bind_some, pUe_back i4 (by omega), Option.bind_some, pMid_back hm i5, Option.bind_some]
  simp only
  rw [pUe_back i6 (by omega), Option.bind_some, pUe_back i7 (by omega), Option.map_some]
  obtain ⟨wide, high, fbits, ptype, pbits, nonref, cycle, refs, delay⟩ := s
  simp only at *
  congr 4 <;> omega

end Zp
