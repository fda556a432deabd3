/- Plain mathematics of layer 3: a picture's parameters as bits, there and back; the trail; bytes as bits. No program is named here. -/
import Derived.Test.YtadfgadkihlmcaaPA
namespace Zp
open Zo

/-! ### A picture's parameters -/

structure PpsN where
  cabac : Bool
  weighted : Bool
  bipred : Int
  qp : Int
  chroma : Int
  constrained : Bool
  deblock : Bool
  act0 : Int
  act1 : Int
deriving DecidableEq

/-- Which there may be. -/
def PpsN.may (s : PpsN) : Prop :=
  0 ≤ s.bipred ∧ s.bipred ≤ 2 ∧ 0 ≤ s.qp ∧ s.qp ≤ 51 ∧ -12 ≤ s.chroma ∧ s.chroma ≤ 12 ∧ 1 ≤ s.act0 ∧ s.act0 ≤ 8 ∧ 1 ≤ s.act1 ∧ s.act1 ≤ 8

instance (s : PpsN) : Decidable s.may := by unfold PpsN.may; infer_instance

/-- The bits ahead of the trail. -/
def ppsB (s : PpsN) : List Bool :=
  digs 1 s.cabac.toNat ++ (digs 1 s.weighted.toNat ++ (digs 2 s.bipred.toNat ++ (ueB s.qp.toNat ++ (seB s.chroma ++ (digs 1 s.constrained.toNat ++ (digs 1 s.deblock.toNat ++ (ueB (s.act0 - 1).toNat ++ ueB (s.act1 - 1).toNat)))))))

def pPps (f : Nat → Bool) (T : Nat) : Option (PpsN × Nat) :=
  (pBits f T 0 1).bind fun a => (pBits f T a.2 1).bind fun b => (pBits f T b.2 2).bind fun c => (pUe f T c.2).bind fun d => (pSe f T d.2).bind fun e =>
    (pBits f T e.2 1).bind fun g => (pBits f T g.2 1).bind fun i => (pUe f T i.2).bind fun j => (pUe f T j.2).map fun k =>
      (⟨decide (a.1 = 1), decide (b.1 = 1), c.1, d.1, e.1, decide (g.1 = 1), decide (i.1 = 1), (j.1 : Int) + 1, (k.1 : Int) + 1⟩, k.2)

theorem one_bit {x : Nat} (h : x < 2 ^ 1) : (decide (x = 1)).toNat = x := by
  have : x = 0 ∨ x = 1 := by omega
  rcases this with rfl | rfl <;> rfl

theorem pPps_forth {f : Nat → Bool} {T q : Nat} {s : PpsN} (h : pPps f T = some (s, q)) : Is f T 0 q (ppsB s) := by
  unfold pPps at h
  simp only [Option.bind_eq_some_iff, Option.map_eq_some_iff] at h
  obtain ⟨⟨a, p1⟩, ha, ⟨b, p2⟩, hb, ⟨c, p3⟩, hc, ⟨d, p4⟩, hd, ⟨e, p5⟩, he, ⟨g, p6⟩, hg, ⟨i, p7⟩, hi, ⟨j, p8⟩, hj, ⟨k, p9⟩, hk, heq⟩ := h
  simp only [Prod.mk.injEq] at heq
  obtain ⟨rfl, rfl⟩ := heq
  obtain ⟨i1, l1⟩ := pBits_forth (Nat.zero_le T) ha
  obtain ⟨i2, l2⟩ := pBits_forth i1.2.2 hb
  obtain ⟨i3, l3⟩ := pBits_forth i2.2.2 hc
  have i4 := (pUe_forth hd).1
  have i5 := (pSe_forth he).1
  obtain ⟨i6, l6⟩ := pBits_forth i5.2.2 hg
  obtain ⟨i7, l7⟩ := pBits_forth i6.2.2 hi
  have i8 := (pUe_forth hj).1
  have i9 := (pUe_forth hk).1
  have := i1.append (i2.append (i3.append (i4.append (i5.append (i6.append (i7.append (i8.append i9)))))))
  unfold ppsB
  simpa [one_bit l1, one_bit l2, one_bit l6, one_bit l7] using this

theorem toNat_lt (b : Bool) : b.toNat < 2 ^ 1 := by cases b <;> decide
theorem toNat_one (b : Bool) : decide (b.toNat = 1) = b := by cases b <;> rfl

theorem pPps_back {f : Nat → Bool} {T q : Nat} {s : PpsN} (hs : s.may) (h : Is f T 0 q (ppsB s)) : pPps f T = some (s, q) := by
  obtain ⟨b1, b2, q1, q2, c1, c2, a1, a2, a3, a4⟩ := hs
  unfold ppsB at h
  obtain ⟨i1, h⟩ := Is.split h
  obtain ⟨i2, h⟩ := Is.split h
  obtain ⟨i3, h⟩ := Is.split h
  obtain ⟨i4, h⟩ := Is.split h
  obtain ⟨i5, h⟩ := Is.split h
  obtain ⟨i6, h⟩ := Is.split h
  obtain ⟨i7, h⟩ := Is.split h
  obtain ⟨i8, i9⟩ := Is.split h
  unfold pPps
  rw [pBits_back i1 (toNat_lt _), Option.bind_some, pBits_back i2 (toNat_lt _), Option.bind_some, pBits_back i3 (by omega), Option.bind_some, pUe_back i4 (by omega), Option.bind_some,
    pSe_back i5 (by omega) (by omega), Option.bind_some, pBits_back i6 (toNat_lt _), Option.bind_some, pBits_back i7 (toNat_lt _), Option.bind_some, pUe_back i8 (by omega), Option.bind_some, pUe_back i9 (by omega), Option.map_some]
  obtain ⟨cabac, weighted, bipred, qp, chroma, constrained, deblock, act0, act1⟩ := s
  simp only [toNat_one] at *
  congr 3 <;> omega

/-! ### The trail: a bit of 1, then 0 to the end of its byte -/

/-- What is left from p on is a trail. -/
def Trails (f : Nat → Bool) (T p : Nat) : Prop := Is f T p T (trailB p)

theorem trailB_length (p : Nat) : (trailB p).length = 8 - p % 8 := by simp [trailB]; omega

theorem trails_size {f : Nat → Bool} {T p : Nat} (h : Trails f T p) : T = p / 8 * 8 + 8 := by
  have := h.1
  rw [trailB_length] at this
  omega

/-- All the bits are those and the trail, then and only then. -/
theorem all_bits {f : Nat → Bool} {T p : Nat} {l : List Bool} (h : Is f T 0 p l) (k : Trails f T p) : win f 0 T = l ++ trailB l.length := by
  have hp : p = l.length := by have := h.1; omega
  have := h.append k
  obtain ⟨a, b, c⟩ := this
  subst hp
  rw [Nat.zero_add] at a
  rw [← a] at b
  exact b

theorem of_all_bits {f : Nat → Bool} {T : Nat} {l : List Bool} (h : win f 0 T = l ++ trailB l.length) : Is f T 0 l.length l ∧ Trails f T l.length := by
  have hT : T = (l ++ trailB l.length).length := by rw [← h, win_length]
  have hi : Is f T 0 T (l ++ trailB l.length) := ⟨by omega, by rw [← hT]; exact h, Nat.le_refl T⟩
  have := hi.split
  simp only [Nat.zero_add] at this
  exact this

/-- The trail as the document's Trail asks it: the last bit of 1 stands at p, and no more than eight bits are left. -/
theorem trails_past {f : Nat → Bool} {T p : Nat} (hT : T % 8 = 0) (hf : ∀ i, T ≤ i → f i = false) (hp : p < T) : Trails f T p ↔ (IsPast f T (p + 1) ∧ T - p ≤ 8) := by
  constructor
  · intro h
    have hs := trails_size h
    obtain ⟨a, b, c⟩ := h
    rw [trailB_length] at b
    have hw : ∀ i, i < 8 - p % 8 → f (p + i) = (trailB p).getD i false := fun i hi => win_get' b i hi
    refine ⟨⟨by omega, ?_, ?_⟩, by omega⟩
    · intro i hi
      by_cases hiT : T ≤ i
      · exact hf i hiT
      · have := hw (i - p) (by omega)
        rw [show p + (i - p) = i from by omega] at this
        rw [this, trailB, show i - p = (i - p - 1) + 1 from by omega]
        simp only [List.getD_eq_getElem?_getD, List.getElem?_cons_succ, List.getElem?_replicate]
        split <;> rfl
    · intro _
      have := hw 0 (by omega)
      simpa [trailB] using this
  · rintro ⟨⟨h1, h2, h3⟩, h4⟩
    have h3 := h3 (by omega)
    simp only [Nat.add_sub_cancel] at h3
    refine ⟨by rw [trailB_length]; omega, ?_, Nat.le_refl T⟩
    rw [trailB_length, trailB, show 8 - p % 8 = (7 - p % 8) + 1 from by omega, win_cons, h3, win_false _ _ _ (fun j hj => h2 _ (by omega))]

/-! ### Bytes as bits -/

theorem nums_length (s : ByteArray) : (nums s).length = s.size := by
  rw [nums, List.length_map, Array.length_toList]; rfl

theorem nums_lt (s : ByteArray) : ∀ x ∈ nums s, x < 256 := by
  intro x hx
  simp only [nums, List.mem_map] at hx
  obtain ⟨y, _, rfl⟩ := hx
  exact y.toNat_lt

theorem bitAt_end (s : ByteArray) (i : Nat) (h : 8 * s.size ≤ i) : bitAt s i = false := by
  unfold bitAt
  rw [byteAt_end s (by omega)]
  simp

end Zp
