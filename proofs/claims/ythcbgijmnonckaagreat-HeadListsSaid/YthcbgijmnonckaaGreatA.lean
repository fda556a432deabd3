/- What is written is read as it was: codes as windows of bits. Plain mathematics. -/
import Derived.Test.YthcbgijmnonckaaGreatN
import Derived.Test.YthcbgijmnonckaaGreatProg
import Derived.WalkKit
import Derived.Below
import Derived.Deep.AppendLies
import Derived.Laws.BitsAllLaws
import Derived.Lib.Hide
import Derived.RegionTactic
import Derived.ChangeAlike
import Derived.Outline
import Derived.Laws.LoneSync
import Derived.LoopTactic
import Derived.Handy
import Derived.Deep.LoopGhost
import Derived.Deep.RegionLaw
namespace Zo

theorem win_list (pre c post : List Bool) : win (fun i => (pre ++ c ++ post).getD i false) pre.length c.length = c := by
  apply List.ext_getElem?
  intro i
  by_cases h : i < c.length
  · rw [win_get _ _ _ _ h, List.getD_eq_getElem?_getD, List.append_assoc, List.getElem?_append_right (by omega), List.getElem?_append_left (by omega)]
    rw [show pre.length + i - pre.length = i from by omega, List.getElem?_eq_getElem h]
    rfl
  · rw [List.getElem?_eq_none (by rw [win_length]; omega), List.getElem?_eq_none (by omega)]

theorem win_get' {f : Nat → Bool} {p n : Nat} {c : List Bool} (h : win f p n = c) (i : Nat) (hi : i < n) : f (p + i) = c.getD i false := by
  rw [← h, List.getD_eq_getElem?_getD, win_get _ _ _ _ hi]; rfl

theorem win_split {f : Nat → Bool} {p : Nat} {a b : List Bool} (h : win f p (a ++ b).length = a ++ b) : win f p a.length = a ∧ win f (p + a.length) b.length = b := by
  rw [List.length_append, win_add] at h
  exact List.append_inj h (by rw [win_length])

/-- The first digit of a number that is not 0 is a 1. -/
theorem digs_top (x : Nat) (hx : x < 18446744073709551616) (h0 : 0 < x) : x.testBit (Go.Lib.bitLen x - 1) = true := by
  obtain ⟨h1, h2, h3, _⟩ := Zo.bitLen_spec x hx h0
  rw [Nat.testBit_eq_decide_div_mod_eq]
  have hd : x / 2 ^ (Go.Lib.bitLen x - 1) = 1 := by
    have e : 2 ^ Go.Lib.bitLen x = 2 ^ (Go.Lib.bitLen x - 1) * 2 := by rw [← Nat.pow_succ]; congr 1; omega
    rw [Nat.div_eq_iff (Nat.two_pow_pos _)]
    omega
  rw [hd]; rfl

theorem rdUe_back (f : Nat → Bool) (T p x : Nat) (most : Int) (hx : x ≤ 2147483646) (hw : win f p (ueB x).length = ueB x) (hT : p + (ueB x).length ≤ T) (hm : (x : Int) ≤ most) :
    rdUe f T p most = (x, 0, p + (ueB x).length) := by
  obtain ⟨hlen, _⟩ := ueB_length x hx
  have hL31 := Zo.bitLen_le (x + 1) 31 (by omega) (by omega)
  obtain ⟨_, hlt, hL0, _⟩ := Zo.bitLen_spec (x + 1) (by omega) (by omega)
  have htop := digs_top (x + 1) (by omega) (by omega)
  have hs := hw
  unfold ueB at hs
  obtain ⟨w1, w2⟩ := win_split hs
  rw [List.length_replicate] at w1 w2
  rw [digs_length] at w2
  clear hs hw
  rw [hlen] at hT ⊢
  generalize Go.Lib.bitLen (x + 1) = L at *
  obtain ⟨n, rfl⟩ : ∃ n, L = n + 1 := ⟨L - 1, by omega⟩
  rw [show n + 1 - 1 = n from rfl] at w1 w2 htop
  have hlead : lead f p 32 = n := by
    refine lead_eq f p 32 n (by omega) ?_ ?_
    · have := win_get' w2 0 (by omega)
      rw [Nat.add_zero] at this
      rw [this, digs_cons, List.getD_cons_zero, htop]
    · intro j hj
      have := win_get' w1 j hj
      rw [this, List.getD_eq_getElem?_getD, List.getElem?_replicate, if_pos hj]; rfl
  have hv : val (win f (p + n) (n + 1)) = x + 1 := by rw [w2, val_digs, Nat.mod_eq_of_lt hlt]
  unfold rdUe
  rw [hlead, if_neg (by omega), if_neg (by omega), hv, if_neg (by simp; omega), show x + 1 - 1 = x from rfl, show 2 * (n + 1) - 1 = 2 * n + 1 from by omega]

theorem unfolded_folded (x : Int) : unfoldedZ (foldedN x) = x := by
  unfold unfoldedZ foldedN
  split
  · split <;> omega
  · split <;> omega

theorem foldedN_le (x : Int) (h1 : -1073741823 ≤ x) (h2 : x ≤ 1073741823) : foldedN x ≤ 2147483646 := by
  unfold foldedN; split <;> omega

end Zo
/- Plain mathematics of layer 3: parameters as bits, bits as parameters, there and back. No program is named here. -/
namespace Zp
open Zo

/-! ### Readings in a row: nothing where one of them fails -/

def pUe (f : Nat → Bool) (T p : Nat) : Option (Nat × Nat) := if (rdUe f T p 2147483646).2.1 = 0 then some ((rdUe f T p 2147483646).1, (rdUe f T p 2147483646).2.2) else none
def pSe (f : Nat → Bool) (T p : Nat) : Option (Int × Nat) := (pUe f T p).map fun x => (unfoldedZ x.1, x.2)
def pBits (f : Nat → Bool) (T p n : Nat) : Option (Nat × Nat) := if T - p < n then none else some (val (win f p n), p + n)

/-- From p to q stand these bits. -/
def Is (f : Nat → Bool) (T p q : Nat) (l : List Bool) : Prop := q = p + l.length ∧ win f p l.length = l ∧ q ≤ T

theorem Is.nil {f : Nat → Bool} {T p : Nat} (h : p ≤ T) : Is f T p p [] := ⟨rfl, rfl, h⟩

theorem Is.append {f : Nat → Bool} {T p q r : Nat} {a b : List Bool} (h : Is f T p q a) (k : Is f T q r b) : Is f T p r (a ++ b) := by
  obtain ⟨h1, h2, h3⟩ := h
  obtain ⟨k1, k2, k3⟩ := k
  refine ⟨by simp; omega, ?_, k3⟩
  rw [List.length_append, win_add, h2, ← h1, k2]

theorem Is.split {f : Nat → Bool} {T p r : Nat} {a b : List Bool} (h : Is f T p r (a ++ b)) : Is f T p (p + a.length) a ∧ Is f T (p + a.length) r b := by
  obtain ⟨h1, h2, h3⟩ := h
  obtain ⟨w1, w2⟩ := win_split h2
  simp only [List.length_append] at h1
  exact ⟨⟨rfl, w1, by omega⟩, ⟨by omega, w2, h3⟩⟩

theorem pUe_back {f : Nat → Bool} {T p q x : Nat} (h : Is f T p q (ueB x)) (hx : x ≤ 2147483646) : pUe f T p = some (x, q) := by
  obtain ⟨h1, h2, h3⟩ := h
  have := rdUe_back f T p x 2147483646 hx h2 (by omega) (by omega)
  rw [pUe, this, h1]; rfl

theorem pSe_back {f : Nat → Bool} {T p q : Nat} {x : Int} (h : Is f T p q (seB x)) (h1 : -1073741823 ≤ x) (h2 : x ≤ 1073741823) : pSe f T p = some (x, q) := by
  have := pUe_back (x := foldedN x) h (foldedN_le x h1 h2)
  rw [pSe, this]
  simp [unfolded_folded]

theorem pBits_back {f : Nat → Bool} {T p q n x : Nat} (h : Is f T p q (digs n x)) (hx : x < 2 ^ n) : pBits f T p n = some (x, q) := by
  obtain ⟨h1, h2, h3⟩ := h
  rw [digs_length] at h1 h2
  rw [pBits, if_neg (by omega), h2, val_digs, Nat.mod_eq_of_lt hx, h1]

/-! ### A sequence's parameters -/

structure SpsN where
  wide : Int
  high : Int
  fbits : Int
  ptype : Int
  pbits : Int
  nonref : Int
  cycle : List Int
  refs : Int
  delay : Int
deriving DecidableEq

def SpsN.zero : SpsN := ⟨0, 0, 0, 0, 0, 0, [], 0, 0⟩

/-- Which there may be. -/
def SpsN.may (s : SpsN) : Prop :=
  1 ≤ s.wide ∧ s.wide ≤ 8 ∧ 1 ≤ s.high ∧ s.high ≤ 8 ∧ 4 ≤ s.fbits ∧ s.fbits ≤ 8 ∧ 4 ≤ s.pbits ∧ s.pbits ≤ 8 ∧ 0 ≤ s.ptype ∧ s.ptype ≤ 2 ∧ -1000 ≤ s.nonref ∧ s.nonref ≤ 1000 ∧ s.cycle.length ≤ 4 ∧ (∀ x ∈ s.cycle, -1000 ≤ x ∧ x ≤ 1000) ∧
  (s.ptype = 1 ∨ (s.nonref = 0 ∧ s.cycle = [])) ∧ (s.ptype = 0 ∨ s.pbits = 4) ∧ 1 ≤ s.refs ∧ s.refs ≤ 8 ∧ 0 ≤ s.delay ∧ s.delay ≤ s.refs ∧ (s.ptype ≠ 2 ∨ s.delay = 0)

instance (s : SpsN) : Decidable s.may := by unfold SpsN.may; infer_instance

end Zp
/- Plain mathematics of layer 3: a picture's parameters as bits, there and back; the trail; bytes as bits. No program is named here. -/
namespace Zp
open Zo

/-! ### A picture's parameters -/

structure PpsN where
  cabac : Bool
  weighted : Bool
  bipred : Int
  qp : Int
  chroma : Int
  constrained : Bool
  deblock : Bool
  act0 : Int
  act1 : Int
deriving DecidableEq

/-- Which there may be. -/
def PpsN.may (s : PpsN) : Prop :=
  0 ≤ s.bipred ∧ s.bipred ≤ 2 ∧ 0 ≤ s.qp ∧ s.qp ≤ 51 ∧ -12 ≤ s.chroma ∧ s.chroma ≤ 12 ∧ 1 ≤ s.act0 ∧ s.act0 ≤ 8 ∧ 1 ≤ s.act1 ∧ s.act1 ≤ 8

instance (s : PpsN) : Decidable s.may := by unfold PpsN.may; infer_instance

theorem toNat_lt (b : Bool) : b.toNat < 2 ^ 1 := by cases b <;> decide
/-! ### The trail: a bit of 1, then 0 to the end of its byte -/

/-- What is left from p on is a trail. -/
def Trails (f : Nat → Bool) (T p : Nat) : Prop := Is f T p T (trailB p)

end Zp
/- Plain mathematics of layer 3: what bytes answer as parameters, and which bytes parameters answer. No program is named here. -/
namespace Zp
open Zo

instance (f : Nat → Bool) (T p q : Nat) (l : List Bool) : Decidable (Is f T p q l) := by unfold Is; infer_instance
instance (f : Nat → Bool) (T p : Nat) : Decidable (Trails f T p) := by unfold Trails; infer_instance

def PpsN.zero : PpsN := ⟨false, false, 0, 0, 0, false, false, 0, 0⟩

end Zp
/- Worlds: what a call may turn ('Fr S w w'': nothing but the blocks of S), rows of cells, and numbers as the walk spells them. No program is named here. -/
namespace Zo
open Go Go.RowKit

theorem heap_setCell_row {w : World} {b : Nat} {cs : Array Value} {t : TypeId} {fr : Nat × Nat} (h : w.heap[b]? = some (.cells cs t fr)) (i : Nat) (v : Value) :
    (w.setCell ⟨b, i, none⟩ v).heap[b]? = some (.cells (cs.setIfInBounds i v) t fr) := by
  simp only [World.setCell, Array.getElem?_modify, if_pos, h]
  rfl

theorem heap_setCell_other {w : World} {a : Addr} {k : Nat} (v : Value) (hk : k ≠ a.block) : (w.setCell a v).heap[k]? = w.heap[k]? :=
  Below.heap_setCell w a v k hk

theorem free_row {w : World} {b : Nat} {cs : Array Value} {t : TypeId} (h : w.heap[b]? = some (.cells cs t (0, 0))) (i : Nat) : w.frozen? ⟨b, i, none⟩ = false := by
  simp [World.frozen?, h]

theorem row_lt {w : World} {b : Nat} {o : Obj} (h : w.heap[b]? = some o) : b < w.heap.size := (Array.getElem?_eq_some_iff.1 h).1

theorem heap_alloc_other {w : World} {o : Obj} {k : Nat} (h : k < w.heap.size) : (w.alloc o).heap[k]? = w.heap[k]? := Below.heap_alloc w o k h

theorem heap_alloc_last (w : World) (o : Obj) : (w.alloc o).heap[w.heap.size]? = some o := by
  show (w.heap.push o)[w.heap.size]? = _
  simp

/-- Nothing is turned but the blocks of S. -/
structure Fr (S : Nat → Prop) (w w' : World) : Prop where
  os : w'.os = w.os
  tape : w'.tape = w.tape
  output : w'.output = w.output
  size : w.heap.size ≤ w'.heap.size
  block : ∀ k, k < w.heap.size → ¬ S k → w'.heap[k]? = w.heap[k]?

theorem Fr.refl (S : Nat → Prop) (w : World) : Fr S w w := ⟨rfl, rfl, rfl, Nat.le_refl _, fun _ _ _ => rfl⟩

/-- Two calls in a row: what the second may turn is what the first may, or is new behind the first's beginning. -/
theorem Fr.trans {S T : Nat → Prop} {a b c : World} (h : Fr S a b) (k : Fr T b c) (hT : ∀ i, i < a.heap.size → T i → S i) : Fr S a c :=
  ⟨k.os.trans h.os, k.tape.trans h.tape, k.output.trans h.output, Nat.le_trans h.size k.size,
   fun i hi hs => (k.block i (Nat.lt_of_lt_of_le hi h.size) (fun ht => hs (hT i hi ht))).trans (h.block i hi hs)⟩

theorem Fr.mono {S T : Nat → Prop} {a b : World} (h : Fr S a b) (hT : ∀ i, i < a.heap.size → S i → T i) : Fr T a b :=
  ⟨h.os, h.tape, h.output, h.size, fun i hi hs => h.block i hi (fun ht => hs (hT i hi ht))⟩

theorem Fr.setCell {S : Nat → Prop} {a w : World} (h : Fr S a w) {p : Addr} (hp : p.block < a.heap.size → S p.block) (u : Value) : Fr S a (w.setCell p u) :=
  h.trans (T := fun k => k = p.block) ⟨rfl, rfl, rfl, by simp [World.setCell], fun _ _ hs => Below.heap_setCell _ _ _ _ hs⟩ (fun i hi ht => by subst ht; exact hp hi)

theorem Fr.alloc {S : Nat → Prop} {a w : World} (h : Fr S a w) (o : Obj) : Fr S a (w.alloc o) :=
  h.trans (T := fun _ => False) ⟨rfl, rfl, rfl, by simp, fun _ hk _ => Below.heap_alloc _ _ _ hk⟩ (fun _ _ ht => ht.elim)

theorem Fr.drew {S : Nat → Prop} {a w : World} (h : Fr S a w) : Fr S a w.drew := ⟨h.os, h.tape, h.output, h.size, h.block⟩

theorem Fr.grown {S : Nat → Prop} {a w w' : World} {row : Option Nat} (h : Fr S a w) (hg : w.grownBy w' row) (hr : ∀ k, k < a.heap.size → row = some k → S k) : Fr S a w' :=
  h.trans (T := fun k => row = some k) ⟨hg.os, hg.tape, hg.output, hg.size, fun k hk hs => hg.block k hk (fun e => hs e.symm)⟩ (fun i hi ht => hr i hi ht)

theorem Fr.below {S : Nat → Prop} {B : Nat} {a w : World} (h : Fr S a w) (hB : B ≤ a.heap.size) (hS : ∀ k, S k → B ≤ k) : Below B a w :=
  ⟨h.os, h.tape, h.output, h.size, fun k hk => h.block k (by omega) (fun hs => by have := hS k hs; omega)⟩

theorem Fr.of_below {S : Nat → Prop} {a w : World} (h : Below a.heap.size a w) : Fr S a w :=
  ⟨h.os, h.tape, h.output, h.size, fun k hk _ => h.block k hk⟩

theorem grownBy_setCell (w : World) (b i : Nat) (u : Value) : w.grownBy (w.setCell ⟨b, i, none⟩ u) (some b) :=
  ⟨rfl, rfl, rfl, by simp [World.setCell], fun k _ hs => Below.heap_setCell _ _ _ _ (fun e => hs (by rw [e]))⟩

theorem ownsRow_setCell {w : World} {base : Nat} {e : TypeId} {size : Nat} {v : Value} {n : Nat} {xs : List Value} (h : w.ownsRow base e size v n xs) {b : Nat} (hne : some b ≠ v.ownBlock) (i : Nat) (u : Value) :
    (w.setCell ⟨b, i, none⟩ u).ownsRow base e size v n xs := h.kept (grownBy_setCell w b i u) (.inr (Ne.symm hne))

/-- A row that is owned lies in no block of another element type. -/
theorem ownsRow_ne {w : World} {base : Nat} {e : TypeId} {size : Nat} {v : Value} {n : Nat} {xs : List Value} {b : Nat} {cs : Array Value} {t : TypeId} {fr : Nat × Nat}
    (h : w.ownsRow base e size v n xs) (hb : w.heap[b]? = some (.cells cs t fr)) (hne : t ≠ e) : some b ≠ v.ownBlock := by
  intro heq
  rcases h.2 with ⟨rfl, _⟩ | ⟨g, cap, cur, rfl, _, hg, _⟩
  · simp [Value.ownBlock] at heq
  · simp [Value.ownBlock] at heq
    subst heq
    rw [hb] at hg
    simp at hg
    exact hne hg.2.1

/-- What is owned stays, where its block is none of those that may be turned. -/
theorem ownsRow_fr {S : Nat → Prop} {w w' : World} {base : Nat} {e : TypeId} {size : Nat} {v : Value} {n : Nat} {xs : List Value} (h : w.ownsRow base e size v n xs) (hf : Fr S w w') (hne : ∀ k, v.ownBlock = some k → ¬ S k) :
    w'.ownsRow base e size v n xs := by
  refine ⟨h.1, ?_⟩
  rcases h.2 with hn | ⟨g, cap, cur, rfl, hb, hgg, rest⟩
  · exact .inl hn
  · exact .inr ⟨g, cap, cur, rfl, hb, by rw [hf.block g (row_lt hgg) (hne g rfl)]; exact hgg, rest⟩

/-! ### Numbers as the walk spells them -/

theorem wrap_u64_nat (n : Nat) (h : n < 18446744073709551616) : IntKind.u64.wrap (n : Int) = n := by
  rw [IntKind.wrap_u64]; omega

theorem u8_byte (r k : Nat) : IntKind.u8.wrap ((r : Int) / 2 ^ k) = ((((r >>> k) % 256 : Nat)) : Int) := by
  rw [IntKind.wrap_u8', Nat.shiftRight_eq_div_pow]
  rw [Int.natCast_emod, Int.natCast_ediv, Int.natCast_pow]
  rfl

end Zo
/- The bits' Writer: what each of its calls does to what it holds. -/
namespace Go.Proofs.YthcbgijmnonckaaGreat
open Go.RowKit Zo

def u8s (l : List Nat) : List Value := l.map fun n : Nat => .int .u8 (n : Int)

/-- Block b is a Writer that holds 'bytes' and k bits more, the lowest of r; its bytes lie in block o. -/
def WrC (w : World) (base b : Nat) (o : Option Nat) (bytes : List Nat) (k r : Nat) : Prop :=
  ∃ (c : Int) (v : Value), w.heap[b]? = some (.cells #[.int .u32 c, v, .int .u64 (r : Int), .int .i64 (k : Int)] 82 (0,0)) ∧ base ≤ b ∧ v.ownBlock = o ∧ w.ownsRow base 5 1 v bytes.length (u8s bytes) ∧ ∀ x ∈ bytes, x < 256

def wsel (b : Nat) (o : Option Nat) (k : Nat) : Prop := k = b ∨ o = some k

theorem Tryz.info5 : (Tryz.prog.info? 5).map (fun i => (i.zero, i.size, i.bytes)) = some (some (.int .u8 0), 1, 1) := by kernel_rfl

theorem u8s_append (l : List Nat) (n : Nat) : u8s (l ++ [n]) = u8s l ++ [.int .u8 (n : Int)] := by simp [u8s]

theorem lt_append {l : List Nat} {n : Nat} (h : ∀ x ∈ l, x < 256) (hn : n < 256) : ∀ x ∈ l ++ [n], x < 256 := by
  intro x hx
  rcases List.mem_append.1 hx with h1 | h1
  · exact h x h1
  · rw [List.mem_singleton.1 h1]; exact hn

theorem shl_or (r n : Nat) (x : Int) (hx : 0 ≤ x) (hn : n ≤ 32) (hr : r < 128) (hxn : x.toNat < 2 ^ n) :
    bits .or .u64 (IntKind.u64.wrap ((r : Int) * 2 ^ n)) x = (((r <<< n ||| x.toNat : Nat)) : Int) ∧ (r <<< n ||| x.toNat) < 2 ^ 39 := by
  have h2 : (2 : Nat) ^ n ≤ 2 ^ 32 := Nat.pow_le_pow_right (by omega) hn
  have h3 : r * 2 ^ n < 2 ^ 39 := Nat.lt_of_lt_of_le (Nat.mul_lt_mul_of_pos_right hr (Nat.two_pow_pos n)) (by omega)
  have e : ((r : Int) * 2 ^ n) = ((r * 2 ^ n : Nat) : Int) := by rw [Int.natCast_mul, Int.natCast_pow]; rfl
  have e39 : (2 : Nat) ^ 39 = 549755813888 := by decide
  have e32 : (2 : Nat) ^ 32 = 4294967296 := by decide
  rw [e, wrap_u64_nat _ (by omega), u64_or _ _ (by omega) (by omega) hx (by omega), Int.toNat_natCast, Nat.shiftLeft_eq]
  exact ⟨rfl, Nat.or_lt_two_pow h3 (by omega)⟩

theorem and_mask (r k : Nat) (hr : r < 2 ^ 39) (hk : k ≤ 7) :
    bits .and .u64 (r : Int) (IntKind.u64.wrap (IntKind.u64.wrap (2 ^ k) - 1)) = ((r % 2 ^ k : Nat) : Int) := by
  have e39 : (2 : Nat) ^ 39 = 549755813888 := by decide
  have h2 : (2 : Nat) ^ k ≤ 2 ^ 7 := Nat.pow_le_pow_right (by omega) hk
  have h1 := Nat.two_pow_pos k
  have e : ((2 : Int) ^ k) = ((2 ^ k : Nat) : Int) := by rw [Int.natCast_pow]; rfl
  rw [e, wrap_u64_nat _ (by omega), show (((2 ^ k : Nat) : Int) - 1) = ((2 ^ k - 1 : Nat) : Int) from by omega, wrap_u64_nat _ (by omega), u64_and _ _ (by omega) (by omega) (by omega) (by omega)]
  rw [Int.toNat_natCast, Int.toNat_natCast, Nat.and_two_pow_sub_one_eq_mod]

set_option maxHeartbeats 400000 in
theorem put_any (w : World) (base b : Nat) (o : Option Nat) (bytes : List Nat) (k r : Nat) (x n : Int)
   (h : WrC w base b o bytes k r) (hx : 0 ≤ x) (hn0 : 0 ≤ n) (hn : n ≤ 32) (hxn : x.toNat < 2 ^ n.toNat) (hk : k ≤ 7) (hr : r < 2 ^ k) (hb : bytes.length ≤ 1000000000000) :
    Calls Tryz.prog 38 #[.pointer (some ⟨b, 0, none⟩), .int .u64 x, .int .i64 n] w fun e w' => e = .returned (.tuple #[]) ∧
      ∃ o' bytes' k' r', WrC w' base b o' bytes' k' r' ∧ k' ≤ 7 ∧ r' < 2 ^ k' ∧ held bytes' k' r' = held bytes k r ++ digs n.toNat x.toNat ∧ Fr (wsel b o) w w' ∧ (∀ k, o' = some k → o = some k ∨ w.heap.size ≤ k) := by
  obtain ⟨m, rfl⟩ := Int.eq_ofNat_of_zero_le hn0
  rw [Int.toNat_natCast] at hxn
  have hr7 : r < 128 := by have : 2 ^ k ≤ 2 ^ 7 := Nat.pow_le_pow_right (by omega) hk; omega
  have G := Lib.hid (shl_or r m x hx (by omega) hr7 hxn)
  obtain ⟨c, v, h, hbb, hv, hown, h256⟩ := h
  have c2 := cell_of_row w b 2 _ _ _ h
  have c3 := cell_of_row w b 3 _ _ _ h
  have f2 := free_row h 2
  have f3 := free_row h 3
  simp at c2 c3
  go_enter Tryz.func38, Tryz.ntmps38
  go_wp2
  go_loopg [] 40 (fun q wr => ∃ o' bytes' k' r', WrC wr base b o' bytes' k' r' ∧ k' ≤ q ∧ k' ≤ 39 ∧ r' < 2 ^ 39 ∧ bytes'.length * 8 + k' ≤ bytes.length * 8 + 39 ∧ held bytes' k' r' = held bytes k r ++ digs m x.toNat ∧ Fr (wsel b o) w wr ∧ (∀ k, o' = some k → o = some k ∨ w.heap.size ≤ k))
  case atStart =>
    have hrow := heap_setCell_row (heap_setCell_row h 2 (.int .u64 (bits BinOp.or IntKind.u64 (IntKind.u64.wrap (↑r * 2 ^ m)) x))) 3 (.int .i64 ((k : Int) + (m : Int)))
    refine ⟨o, bytes, k + m, r <<< m ||| x.toNat, ⟨c, v, ?_, hbb, hv, ?_, h256⟩, by omega, by omega, G.out.2, by omega, held_push _ _ _ _ _ hxn, ?_, fun _ e => .inl e⟩
    · rw [← G.out.1]; simpa using hrow
    · exact ownsRow_setCell (ownsRow_setCell hown (ownsRow_ne hown h (by decide)) _ _) (ownsRow_ne hown h (by decide)) _ _
    · exact ((Fr.refl _ _).setCell (fun _ => .inl rfl) _).setCell (fun _ => .inl rfl) _
  case round =>
    clear h hown c2 c3 f2 f3
    obtain ⟨o', bytes', k', r', ⟨c', v', h', _, hv', hown', h256'⟩, hk', hk39, hr', hlen, hheld, hfr, ho'⟩ := hrel
    have c1 := cell_of_row wr b 1 _ _ _ h'
    have c2 := cell_of_row wr b 2 _ _ _ h'
    have c3 := cell_of_row wr b 3 _ _ _ h'
    have f1 := free_row h' 1
    have f2 := free_row h' 2
    have f3 := free_row h' 3
    simp at c1 c2 c3
    have A : Aside (held bytes' k' r' = held bytes k r ++ digs m x.toNat ∧ v'.ownBlock = o' ∧ ∀ x ∈ bytes', x < 256) := ⟨hheld, hv', h256'⟩
    clear hheld hv' h256' h256
    by_cases h8 : 8 ≤ k'
    · obtain ⟨k2, rfl⟩ : ∃ k2, k' = k2 + 8 := ⟨k' - 8, by omega⟩
      go_wp2
      have h1 : (wr.setCell ⟨b, 3, none⟩ (.int .i64 (k2 : Int))).heap[b]? = some (.cells #[.int .u32 c', v', .int .u64 (r' : Int), .int .i64 (k2 : Int)] 82 (0,0)) := by
        simpa using heap_setCell_row h' 3 (.int .i64 (k2 : Int))
      have hown1 := ownsRow_setCell hown' (ownsRow_ne hown' h' (by decide)) 3 (.int .i64 (k2 : Int))
      have hfr1 := hfr.setCell (p := ⟨b, 3, none⟩) (fun _ => .inl rfl) (.int .i64 (k2 : Int))
      generalize (wr.setCell ⟨b, 3, none⟩ (.int .i64 (k2 : Int))) = wx at *
      have c1 := cell_of_row wx b 1 _ _ _ h1
      have c2 := cell_of_row wx b 2 _ _ _ h1
      have c3 := cell_of_row wx b 3 _ _ _ h1
      have f1 := free_row h1 1
      have f2 := free_row h1 2
      have f3 := free_row h1 3
      simp at c1 c2 c3
      obtain ⟨i0, hi, hz0, hz1, hz2⟩ := info_parts Tryz.info5
      have hbl : b < wx.heap.size := row_lt h1
      go_region_law (
        refine step_append_lies _ ?_ (.tmp 41) (.tmp 52) 38 ?_ base 5 i0 (.int .u8 0) 1 1 Tryz.underlying38 hi hz0 hz1 hz2 ?_ ?_ v' bytes'.length (u8s bytes') ?_ ?_ ⟨wx.heap.size, 0, none⟩ 1 1 [.int .u8 (IntKind.u8.wrap ((r' : Int) / 2 ^ k2))] ?_ ?_ ?_ ?_ ?_ ?_ ?_ ?_ (wx.heap.size + 1) ?_ ?_
        · rfl
        · rfl
        · rfl
        · decide
        · rfl
        · exact (hown1.alloc _).drew
        · rfl
        · rfl
        · exact cell_one_new wx _ 5
        · simp [Value.oneCell']
        · decide
        · unfold maxLen; omega
        · omega
        · show base ≤ (wx.heap.push _).size; rw [Array.size_push]; omega
        · exact Array.size_push _
        intro g cap w1 hown2 hgrow2 hat2 hlt2
        have hb1 : w1.heap[b]? = some (.cells #[.int .u32 c', v', .int .u64 (r' : Int), .int .i64 (k2 : Int)] 82 (0,0)) := by
          rw [hgrow2.block b (by show b < (wx.heap.push _).size; rw [Array.size_push]; omega) (ownsRow_ne hown1 h1 (by decide))]
          exact (heap_alloc_other hbl).trans h1
        have c1' := cell_of_row w1 b 1 _ _ _ hb1
        simp at c1'
        have f1' := free_row hb1 1
        )
      all_goals
        go_wp2
        go_roundg k2
        case measure => omega
        case rel =>
          obtain ⟨a1, a2, a3⟩ := A.out
          have hlen1 : (bytes' ++ [(r' >>> k2) % 256]).length = bytes'.length + 1 := by simp
          refine ⟨some g, bytes' ++ [(r' >>> k2) % 256], k2, r', ⟨c', .slice (some ⟨g, 0, none⟩) (bytes'.length + 1) cap, ?_, hbb, rfl, ?_, lt_append a3 (Nat.mod_lt _ (by omega))⟩, by omega, by omega, hr', by rw [hlen1]; omega, ?_, ?_, ?_⟩
          · simpa using heap_setCell_row hb1 1 (.slice (some ⟨g, 0, none⟩) (bytes'.length + 1) cap)
          · rw [hlen1, u8s_append, ← u8_byte]
            exact ownsRow_setCell hown2 (ownsRow_ne hown2 hb1 (by decide)) 1 _
          · rw [held_byte, Nat.add_comm 8 k2, a1]
          · refine (((hfr1.alloc _).drew).grown hgrow2 (fun i hi e => ?_)).setCell (fun _ => .inl rfl) _
            rw [a2] at e
            rcases ho' i e with e1 | e1
            · exact .inr e1
            · omega
          · intro i e
            obtain rfl : g = i := by simpa using e
            rcases hat2 with e1 | e1
            · rw [a2] at e1; exact ho' _ e1
            · have := hfr1.size; omega
    · go_wp2
      go_region
      all_goals
        go_end0
        obtain ⟨a1, a2, a3⟩ := A.out
        refine ⟨rfl, o', bytes', k', r' % 2 ^ k', ⟨c', v', ?_, hbb, a2, ?_, a3⟩, by omega, Nat.mod_lt _ (Nat.two_pow_pos _), by rw [held_mask, a1, Int.toNat_natCast], ?_, ho'⟩
        · rw [← and_mask r' k' hr' (by omega)]
          exact (heap_setCell_row h' 2 _).trans (by simp)
        · exact ownsRow_setCell hown' (ownsRow_ne hown' h' (by decide)) 2 _
        · exact (hfr.setCell (fun _ => .inl rfl) _).drew
end Go.Proofs.YthcbgijmnonckaaGreat
