/- Layer 3: the program's MaySps and MayPps, as later layers take them. -/
import Derived.Test.YthcbgijmnonckaaGreatQN
import Derived.Test.YthcbgijmnonckaaGreatRU
import Derived.Test.YthcbgijmnonckaaGreatA
namespace Go.Proofs.YthcbgijmnonckaaGreat
open Go.RowKit Zo Zp
set_option linter.unusedVariables false

theorem Kp.row {w : World} {kb : Nat} (h : Kp w kb) : ∃ cs, w.heap[kb]? = some (.cells cs 154 (0, 0)) := by rcases h with h | h <;> exact ⟨_, h⟩

theorem mayPpsOk : MayPpsOk := mayPps_is

set_option maxRecDepth 100000 in
set_option maxHeartbeats 4000000 in
theorem maySpsOk : MaySpsOk := by
  intro s a cap w h hl
  obtain ⟨wide, high, fbits, ptype, pbits, nonref, cycle, refs, delay⟩ := s
  have hK := maySpsK ((w.alloc (.cells #[.int .i64 wide, .int .i64 high, .int .i64 fbits, .int .i64 ptype, .int .i64 pbits, .int .i64 nonref, .slice a cycle.length cap, .int .i64 refs, .int .i64 delay] 29)).alloc (.cells kpZ 154)) (w.heap.size + 1) ⟨wide, high, fbits, ptype, pbits, nonref, cycle, refs, delay⟩ a cap
  unfold spsV at hK ⊢
  simp only at h hl hK ⊢
  obtain ⟨x1, x2, f0⟩ := two_boxes w #[.int .i64 wide, .int .i64 high, .int .i64 fbits, .int .i64 ptype, .int .i64 pbits, .int .i64 nonref, .slice a cycle.length cap, .int .i64 refs, .int .i64 delay] kpZ 29 154
  have hK2 := hK (.inl x2) ((h.alloc _).alloc _) (fun hne g hg => by
    obtain ⟨b, o, e1, e2, _⟩ := h hne
    rw [e1] at hg
    cases hg
    simp only
    omega) hl
  have HK := Lib.hid hK2
  have D := Lib.hid (((Below.refl w.heap.size w).alloc (Nat.le_refl _) (.cells #[.int .i64 wide, .int .i64 high, .int .i64 fbits, .int .i64 ptype, .int .i64 pbits, .int .i64 nonref, .slice a cycle.length cap, .int .i64 refs, .int .i64 delay] 29)).alloc (by simp) (.cells kpZ 154))
  have c0 := cell_of_row _ w.heap.size 0 _ _ _ x1
  have c1 := cell_of_row _ w.heap.size 1 _ _ _ x1
  have c2 := cell_of_row _ w.heap.size 2 _ _ _ x1
  have c3 := cell_of_row _ w.heap.size 3 _ _ _ x1
  have c4 := cell_of_row _ w.heap.size 4 _ _ _ x1
  have c5 := cell_of_row _ w.heap.size 5 _ _ _ x1
  have c6 := cell_of_row _ w.heap.size 6 _ _ _ x1
  have c7 := cell_of_row _ w.heap.size 7 _ _ _ x1
  have c8 := cell_of_row _ w.heap.size 8 _ _ _ x1
  simp at c0 c1 c2 c3 c4 c5 c6 c7 c8
  clear hK hK2 x1 x2 f0 h
  go_enter Tryz.func73, Tryz.ntmps73
  go_wp2_with fail
  refine HK.out.mono ?_
  rintro e w1 ⟨rfl, k1, f1⟩
  have D1 := Lib.hid (below_fr D.out (Nat.le_refl _) f1 (fun k e => by omega))
  clear k1 f1
  go_wp2_with fail
  go_ret
  exact ⟨rfl, D1.out⟩

end Go.Proofs.YthcbgijmnonckaaGreat
/- Plain mathematics of layer 4: a slice's header: which there may be, its bits, bits read as one, there and back. No program is named here. -/
namespace Zp
open Zo

structure ModN where
  kind : Int
  v : Int
deriving DecidableEq

structure OpN where
  kind : Int
  a : Int
  b : Int
deriving DecidableEq

/-- Scales and offsets: of luma and the two chromas. -/
structure WeightN where
  s0 : Int
  s1 : Int
  s2 : Int
  o0 : Int
  o1 : Int
  o2 : Int
deriving DecidableEq

structure HeadN where
  first : Int
  count : Int
  type : Int
  fnum : Int
  id : Int
  poc : Int
  spatial : Bool
  act0 : Int
  act1 : Int
  mods0 : List ModN
  mods1 : List ModN
  log : Int
  logc : Int
  w0 : List WeightN
  w1 : List WeightN
  longkey : Bool
  ops : List OpN
  qp : Int
  off : Bool
  a : Int
  b : Int
deriving DecidableEq

def HeadN.zero : HeadN := ⟨0, 0, 0, 0, 0, 0, false, 0, 0, [], [], 0, 0, [], [], false, [], 0, false, 0, 0⟩

def inZ (x a b : Int) : Prop := a ≤ x ∧ x ≤ b
instance (x a b : Int) : Decidable (inZ x a b) := by unfold inZ; infer_instance

def ModN.may (m : ModN) : Prop := inZ m.kind 0 2 ∧ inZ m.v 0 255
def WeightN.may (w : WeightN) : Prop := inZ w.s0 (-128) 127 ∧ inZ w.s1 (-128) 127 ∧ inZ w.s2 (-128) 127 ∧ inZ w.o0 (-128) 127 ∧ inZ w.o1 (-128) 127 ∧ inZ w.o2 (-128) 127
/-- An operation has an A; a B. -/
def hasAN (k : Int) : Bool := k != 5
def hasBN (k : Int) : Bool := k == 3
def OpN.may (o : OpN) : Prop := inZ o.kind 1 6 ∧ inZ o.a 0 255 ∧ inZ o.b 0 255 ∧ (hasAN o.kind = true ∨ o.a = 0) ∧ (hasBN o.kind = true ∨ o.b = 0)
instance (m : ModN) : Decidable m.may := by unfold ModN.may; infer_instance
instance (w : WeightN) : Decidable w.may := by unfold WeightN.may; infer_instance
instance (o : OpN) : Decidable o.may := by unfold OpN.may; infer_instance

/-- Has a header weights? -/
def weighsN (t : Int) (p : PpsN) : Bool := (p.weighted && t == 0) || (p.bipred == 1 && t == 1)

/-- A list of references is there or not. -/
def mayList (act : Int) (mods : List ModN) (there : Bool) : Prop :=
  if there then inZ act 1 8 ∧ mods.length ≤ 16 ∧ ∀ m ∈ mods, m.may else act = 0 ∧ mods = []
instance (act : Int) (mods : List ModN) (there : Bool) : Decidable (mayList act mods there) := by unfold mayList; infer_instance

/-- What is there of a header besides. -/
def mayWeights (h : HeadN) (is : Bool) : Prop :=
  if is then inZ h.log 0 7 ∧ inZ h.logc 0 7 ∧ (h.w0.length : Int) = h.act0 ∧ (h.w1.length : Int) = h.act1 ∧ (∀ w ∈ h.w0, w.may) ∧ ∀ w ∈ h.w1, w.may else h.log = 0 ∧ h.logc = 0 ∧ h.w0 = [] ∧ h.w1 = []
instance (h : HeadN) (is : Bool) : Decidable (mayWeights h is) := by unfold mayWeights; infer_instance

def mayMarks (h : HeadN) (ref : Int) (key : Bool) : Prop :=
  (h.longkey = true → key = true ∧ 0 < ref) ∧ (h.ops ≠ [] → key = false ∧ 0 < ref) ∧ h.ops.length ≤ 16 ∧ ∀ o ∈ h.ops, o.may
instance (h : HeadN) (ref : Int) (key : Bool) : Decidable (mayMarks h ref key) := by unfold mayMarks; infer_instance

def mayEdges (h : HeadN) (p : PpsN) : Prop :=
  inZ h.qp 0 51 ∧ (p.deblock = true ∨ h.off = false) ∧ inZ h.a (-6) 6 ∧ inZ h.b (-6) 6 ∧ ((p.deblock = true ∧ h.off = false) ∨ (h.a = 0 ∧ h.b = 0))
instance (h : HeadN) (p : PpsN) : Decidable (mayEdges h p) := by unfold mayEdges; infer_instance

def mayFirsts (h : HeadN) (s : SpsN) (key : Bool) : Prop :=
  0 ≤ h.first ∧ 1 ≤ h.count ∧ h.first + h.count ≤ s.wide * s.high ∧ inZ h.type 0 2 ∧ (key = true → h.type = 2) ∧
  inZ h.fnum 0 (2 ^ s.fbits.toNat - 1) ∧ (key = true → h.fnum = 0) ∧ inZ h.id 0 255 ∧ (key = false → h.id = 0) ∧
  inZ h.poc 0 (2 ^ s.pbits.toNat - 1) ∧ (s.ptype = 0 ∨ h.poc = 0) ∧ (h.spatial = true → h.type = 1)
instance (h : HeadN) (s : SpsN) (key : Bool) : Decidable (mayFirsts h s key) := by unfold mayFirsts; infer_instance

/-- Which there may be. -/
def headMay (h : HeadN) (s : SpsN) (p : PpsN) (ref : Int) (key : Bool) : Prop :=
  s.may ∧ p.may ∧ inZ ref 0 3 ∧ mayFirsts h s key ∧ mayList h.act0 h.mods0 (h.type != 2) ∧ mayList h.act1 h.mods1 (h.type == 1) ∧ mayWeights h (weighsN h.type p) ∧ mayMarks h ref key ∧ mayEdges h p
instance (h : HeadN) (s : SpsN) (p : PpsN) (ref : Int) (key : Bool) : Decidable (headMay h s p ref key) := by unfold headMay; infer_instance

/-! ### Its bits -/
def modB (m : ModN) : List Bool := ueB m.kind.toNat ++ ueB m.v.toNat
def modsB (l : List ModN) : List Bool := ueB l.length ++ l.flatMap modB
def weightB (w : WeightN) : List Bool := seB w.s0 ++ (seB w.o0 ++ (seB w.s1 ++ (seB w.o1 ++ (seB w.s2 ++ seB w.o2))))
def opB (o : OpN) : List Bool := ueB o.kind.toNat ++ ((if hasAN o.kind then ueB o.a.toNat else []) ++ (if hasBN o.kind then ueB o.b.toNat else []))
def opsB (l : List OpN) : List Bool := ueB l.length ++ l.flatMap opB

def beginB (h : HeadN) (s : SpsN) (key : Bool) : List Bool :=
  ueB h.first.toNat ++ (ueB (h.count - 1).toNat ++ (ueB h.type.toNat ++ (digs s.fbits.toNat h.fnum.toNat ++ ((if key then ueB h.id.toNat else []) ++ (if s.ptype == 0 then digs s.pbits.toNat h.poc.toNat else [])))))
def listsB (h : HeadN) : List Bool :=
  (if h.type == 1 then digs 1 h.spatial.toNat else []) ++ ((if h.type != 2 then ueB (h.act0 - 1).toNat else []) ++ ((if h.type == 1 then ueB (h.act1 - 1).toNat else []) ++
    ((if h.type != 2 then modsB h.mods0 else []) ++ (if h.type == 1 then modsB h.mods1 else []))))
def weighB (h : HeadN) (p : PpsN) : List Bool :=
  (if weighsN h.type p then ueB h.log.toNat else []) ++ ((if weighsN h.type p then ueB h.logc.toNat else []) ++ ((if weighsN h.type p then h.w0.flatMap weightB else []) ++ (if weighsN h.type p then h.w1.flatMap weightB else [])))
def marksB (h : HeadN) (ref : Int) (key : Bool) : List Bool := (if decide (0 < ref) && key then digs 1 h.longkey.toNat else []) ++ (if decide (0 < ref) && !key then opsB h.ops else [])
def edgesB (h : HeadN) (p : PpsN) : List Bool := ueB h.qp.toNat ++ ((if p.deblock then digs 1 h.off.toNat else []) ++ ((if p.deblock && !h.off then seB h.a else []) ++ (if p.deblock && !h.off then seB h.b else [])))

def headB (h : HeadN) (s : SpsN) (p : PpsN) (ref : Int) (key : Bool) : List Bool := beginB h s key ++ (listsB h ++ (weighB h p ++ (marksB h ref key ++ edgesB h p)))

/-! ### Bits read as one: a place, or the code of the first fault -/

/-- A reading: what was read and the place behind it, or a code. -/
abbrev Rd4 (α : Type) := Except Int (α × Nat)

def Rd4.then {α β : Type} (x : Rd4 α) (k : α → Nat → Rd4 β) : Rd4 β := match x with
  | .error c => .error c
  | .ok (v, q) => k v q

def formed {α : Type} : Option (α × Nat) → Rd4 α
  | none => .error 400
  | some x => .ok x

section
variable (f : Nat → Bool) (T : Nat)
def rUe (p : Nat) : Rd4 Int := (formed (pUe f T p)).then fun x q => .ok ((x : Int), q)
def rSe (p : Nat) : Rd4 Int := formed (pSe f T p)
def rBits (n p : Nat) : Rd4 Int := (formed (pBits f T p n)).then fun x q => .ok ((x : Int), q)
def rFlag (p : Nat) : Rd4 Bool := (rBits f T 1 p).then fun x q => .ok (x == 1, q)
/-- Only if it is there. -/
def rIf {α : Type} (is : Bool) (zero : α) (r : Nat → Rd4 α) (p : Nat) : Rd4 α := if is then r p else .ok (zero, p)
/-- A limit, told at once. -/
def rMay {α : Type} (may : Prop) [Decidable may] (k : Rd4 α) : Rd4 α := if may then k else .error 401

def rMany {α : Type} (one : Nat → Rd4 α) : Nat → Nat → Rd4 (List α)
  | 0, p => .ok ([], p)
  | n + 1, p => (one p).then fun x q => (rMany one n q).then fun l r => .ok (x :: l, r)

def rMod (p : Nat) : Rd4 ModN := (rUe f T p).then fun k q => (rUe f T q).then fun v r => .ok (⟨k, v⟩, r)
def rMods (p : Nat) : Rd4 (List ModN) := (rUe f T p).then fun n q => rMay (n ≤ 16) (rMany (rMod f T) n.toNat q)
def rWeight (p : Nat) : Rd4 WeightN := (rSe f T p).then fun s0 q => (rSe f T q).then fun o0 q => (rSe f T q).then fun s1 q => (rSe f T q).then fun o1 q => (rSe f T q).then fun s2 q => (rSe f T q).then fun o2 q => .ok (⟨s0, s1, s2, o0, o1, o2⟩, q)
def rOp (p : Nat) : Rd4 OpN := (rUe f T p).then fun k q => rMay (inZ k 1 6) ((rIf (hasAN k) 0 (rUe f T) q).then fun a r => (rIf (hasBN k) 0 (rUe f T) r).then fun b t => .ok (⟨k, a, b⟩, t))
def rOps (p : Nat) : Rd4 (List OpN) := (rUe f T p).then fun n q => rMay (n ≤ 16) (rMany (rOp f T) n.toNat q)

/-- A header, of a unit: all in its row. -/
def rHead (s : SpsN) (p : PpsN) (ref : Int) (key : Bool) (at' : Nat) : Rd4 HeadN :=
  (rUe f T at').then fun first q => (rUe f T q).then fun count q => (rUe f T q).then fun type q => rMay (type ≤ 2) <|
  (rBits f T s.fbits.toNat q).then fun fnum q => (rIf key 0 (rUe f T) q).then fun id q => (rIf (s.ptype == 0) 0 (rBits f T s.pbits.toNat) q).then fun poc q =>
  (rIf (type == 1) false (rFlag f T) q).then fun spatial q => (rIf (type != 2) 0 (fun q => (rUe f T q).then fun x q => .ok (x + 1, q)) q).then fun act0 q => (rIf (type == 1) 0 (fun q => (rUe f T q).then fun x q => .ok (x + 1, q)) q).then fun act1 q => rMay (act0 ≤ 8 ∧ act1 ≤ 8) <|
  (rIf (type != 2) [] (rMods f T) q).then fun mods0 q => (rIf (type == 1) [] (rMods f T) q).then fun mods1 q =>
  (rIf (weighsN type p) 0 (rUe f T) q).then fun log q => (rIf (weighsN type p) 0 (rUe f T) q).then fun logc q => (rIf (weighsN type p) [] (rMany (rWeight f T) act0.toNat) q).then fun w0 q => (rIf (weighsN type p) [] (rMany (rWeight f T) act1.toNat) q).then fun w1 q =>
  (rIf (decide (0 < ref) && key) false (rFlag f T) q).then fun longkey q => (rIf (decide (0 < ref) && !key) [] (rOps f T) q).then fun ops q =>
  (rUe f T q).then fun qp q => (rIf p.deblock false (rFlag f T) q).then fun off q => (rIf (p.deblock && !off) 0 (rSe f T) q).then fun a q => (rIf (p.deblock && !off) 0 (rSe f T) q).then fun b q =>
  .ok (⟨first, count + 1, type, fnum, id, poc, spatial, act0, act1, mods0, mods1, log, logc, w0, w1, longkey, ops, qp, off, a, b⟩, q)

/-- What Get answers: the header and OK, and the place behind it; nothing and a code, and the place where it began. -/
def gotHead (s : SpsN) (p : PpsN) (ref : Int) (key : Bool) (at' : Nat) : HeadN × Int × Nat :=
  if s.may ∧ p.may ∧ inZ ref 0 3 then
    match rHead f T s p ref key at' with
    | .error c => (.zero, c, at')
    | .ok (h, q) => if headMay h s p ref key then (h, 0, q) else (.zero, 401, at')
  else (.zero, 401, at')
end

/-! ### There and back -/
section
variable {f : Nat → Bool} {T : Nat}

theorem then_ok {α β : Type} (v : α) (q : Nat) (k : α → Nat → Rd4 β) : Rd4.then (.ok (v, q)) k = k v q := rfl

theorem rUe_back {p q : Nat} {x : Int} (h : Is f T p q (ueB x.toNat)) (h0 : 0 ≤ x) (h1 : x ≤ 2147483646) : rUe f T p = .ok (x, q) := by
  unfold rUe
  rw [pUe_back h (by omega)]
  simp only [formed, then_ok]
  rw [show ((x.toNat : Nat) : Int) = x from by omega]

theorem rSe_back {p q : Nat} {x : Int} (h : Is f T p q (seB x)) (h0 : -1073741823 ≤ x) (h1 : x ≤ 1073741823) : rSe f T p = .ok (x, q) := by
  unfold rSe
  rw [pSe_back h h0 h1]
  rfl

theorem rBits_back {p q n : Nat} {x : Int} (h : Is f T p q (digs n x.toNat)) (h0 : 0 ≤ x) (h1 : x < 2 ^ n) : rBits f T n p = .ok (x, q) := by
  unfold rBits
  have hx : x.toNat < 2 ^ n := by
    have e : ((2 ^ n : Nat) : Int) = 2 ^ n := by rw [Int.natCast_pow]; rfl
    omega
  rw [pBits_back h hx]
  simp only [formed, then_ok]
  rw [show ((x.toNat : Nat) : Int) = x from by omega]

theorem rFlag_back {p q : Nat} {b : Bool} (h : Is f T p q (digs 1 b.toNat)) : rFlag f T p = .ok (b, q) := by
  unfold rFlag
  have := rBits_back (f := f) (T := T) (p := p) (q := q) (n := 1) (x := (b.toNat : Int)) (by rw [Int.toNat_natCast]; exact h) (by omega) (by cases b <;> decide)
  rw [this]
  simp only [then_ok]
  cases b <;> rfl

theorem rIf_back {α : Type} {is : Bool} {zero x : α} {r : Nat → Rd4 α} {p q : Nat} {l : List Bool} (h : Is f T p q (if is then l else [])) (h1 : is = true → Is f T p q l → r p = .ok (x, q)) (h0 : is = false → x = zero) : rIf is zero r p = .ok (x, q) := by
  unfold rIf
  cases is with
  | true => simp only [if_true] at h ⊢; exact h1 rfl h
  | false =>
    simp only [Bool.false_eq_true, if_false] at h ⊢
    obtain ⟨e, _, _⟩ := h
    rw [h0 rfl, e]
    rfl

theorem or_no {b : Bool} {P : Prop} (h : b = true ∨ P) (e : b = false) : P := h.resolve_left (by rw [e]; simp)

theorem rMay_yes {α : Type} {may : Prop} [Decidable may] {k : Rd4 α} (h : may) : rMay may k = k := if_pos h

theorem rMany_back {α : Type} {one : Nat → Rd4 α} {bits : α → List Bool} (hone : ∀ (x : α) (p q : Nat), Is f T p q (bits x) → ∀ l : List α, x ∈ l → one p = .ok (x, q)) :
    ∀ (l : List α) (p q : Nat), Is f T p q (l.flatMap bits) → rMany one l.length p = .ok (l, q)
  | [], p, q, h => by
    obtain ⟨e, _, _⟩ := h
    simp only [List.flatMap_nil, List.length_nil, Nat.add_zero] at e
    rw [e]; rfl
  | x :: l, p, q, h => by
    rw [List.flatMap_cons] at h
    obtain ⟨h1, h2⟩ := h.split
    show (one p).then _ = _
    rw [hone x _ _ h1 (x :: l) (by simp)]
    simp only [then_ok]
    rw [rMany_back hone l _ _ h2]
    rfl

/-- The same, where what each must be is known of the list's own. -/
theorem rMany_of {α : Type} {one : Nat → Rd4 α} {bits : α → List Bool} : ∀ (l : List α), (∀ x ∈ l, ∀ p q, Is f T p q (bits x) → one p = .ok (x, q)) → ∀ (p q : Nat), Is f T p q (l.flatMap bits) → rMany one l.length p = .ok (l, q)
  | [], _, p, q, h => by
    obtain ⟨e, _, _⟩ := h
    simp only [List.flatMap_nil, List.length_nil, Nat.add_zero] at e
    rw [e]; rfl
  | x :: l, hone, p, q, h => by
    rw [List.flatMap_cons] at h
    obtain ⟨h1, h2⟩ := h.split
    show (one p).then _ = _
    rw [hone x (by simp) _ _ h1]
    simp only [then_ok]
    rw [rMany_of l (fun y hy => hone y (by simp [hy])) _ _ h2]
    rfl

theorem rMod_back {m : ModN} (hm : m.may) {p q : Nat} (h : Is f T p q (modB m)) : rMod f T p = .ok (m, q) := by
  obtain ⟨⟨a1, a2⟩, b1, b2⟩ := hm
  obtain ⟨h1, h2⟩ := h.split
  unfold rMod
  rw [rUe_back h1 a1 (by omega)]
  simp only [then_ok]
  rw [rUe_back h2 b1 (by omega)]
  rfl

theorem rMods_back {l : List ModN} (hl : l.length ≤ 16) (hm : ∀ m ∈ l, m.may) {p q : Nat} (h : Is f T p q (modsB l)) : rMods f T p = .ok (l, q) := by
  obtain ⟨h1, h2⟩ := h.split
  unfold rMods
  rw [rUe_back (x := (l.length : Int)) (by rw [Int.toNat_natCast]; exact h1) (by omega) (by omega)]
  simp only [then_ok]
  rw [rMay_yes (by omega), Int.toNat_natCast]
  exact rMany_of l (fun x hx p q => rMod_back (hm x hx)) _ _ h2

theorem rWeight_back {w : WeightN} (hw : w.may) {p q : Nat} (h : Is f T p q (weightB w)) : rWeight f T p = .ok (w, q) := by
  obtain ⟨⟨a1, a2⟩, ⟨b1, b2⟩, ⟨c1, c2⟩, ⟨d1, d2⟩, ⟨e1, e2⟩, g1, g2⟩ := hw
  obtain ⟨h1, h⟩ := h.split
  obtain ⟨h2, h⟩ := h.split
  obtain ⟨h3, h⟩ := h.split
  obtain ⟨h4, h⟩ := h.split
  obtain ⟨h5, h6⟩ := h.split
  unfold rWeight
  rw [rSe_back h1 (by omega) (by omega)]
  simp only [then_ok]
  rw [rSe_back h2 (by omega) (by omega)]
  simp only [then_ok]
  rw [rSe_back h3 (by omega) (by omega)]
  simp only [then_ok]
  rw [rSe_back h4 (by omega) (by omega)]
  simp only [then_ok]
  rw [rSe_back h5 (by omega) (by omega)]
  simp only [then_ok]
  rw [rSe_back h6 (by omega) (by omega)]
  rfl

theorem rOp_back {o : OpN} (ho : o.may) {p q : Nat} (h : Is f T p q (opB o)) : rOp f T p = .ok (o, q) := by
  obtain ⟨⟨a1, a2⟩, ⟨b1, b2⟩, ⟨c1, c2⟩, d1, d2⟩ := ho
  obtain ⟨h1, h⟩ := h.split
  obtain ⟨h2, h3⟩ := h.split
  unfold rOp
  rw [rUe_back h1 (by omega) (by omega)]
  simp only [then_ok]
  rw [rMay_yes ⟨a1, a2⟩, rIf_back h2 (fun _ i => rUe_back i (by omega) (by omega)) (fun e => or_no d1 e)]
  simp only [then_ok]
  rw [rIf_back h3 (fun _ i => rUe_back i (by omega) (by omega)) (fun e => or_no d2 e)]
  rfl

theorem rOps_back {l : List OpN} (hl : l.length ≤ 16) (hm : ∀ o ∈ l, o.may) {p q : Nat} (h : Is f T p q (opsB l)) : rOps f T p = .ok (l, q) := by
  obtain ⟨h1, h2⟩ := h.split
  unfold rOps
  rw [rUe_back (x := (l.length : Int)) (by rw [Int.toNat_natCast]; exact h1) (by omega) (by omega)]
  simp only [then_ok]
  rw [rMay_yes (by omega), Int.toNat_natCast]
  exact rMany_of l (fun x hx p q => rOp_back (hm x hx)) _ _ h2

theorem pow_le_256 {k : Int} (h : k ≤ 8) : (2 : Int) ^ k.toNat ≤ 256 := by
  have h1 : (2 : Nat) ^ k.toNat ≤ 2 ^ 8 := Nat.pow_le_pow_right (by omega) (by omega)
  have e : ((2 ^ k.toNat : Nat) : Int) = 2 ^ k.toNat := by rw [Int.natCast_pow]; rfl
  omega

theorem rHead_back {h : HeadN} {s : SpsN} {p : PpsN} {ref : Int} {key : Bool} {at' q : Nat} (hm : headMay h s p ref key) (hi : Is f T at' q (headB h s p ref key)) : rHead f T s p ref key at' = .ok (h, q) := by
  obtain ⟨ms, mp, mr, ⟨f1, f2, f3, ⟨f4, f5⟩, f6, ⟨f7, f8⟩, f9, ⟨f10, f11⟩, f12, ⟨f13, f14⟩, f15, f16⟩, ml0, ml1, mw, ⟨k1, k2, k3, k4⟩, ⟨⟨e1, e2⟩, e3, ⟨e4, e5⟩, ⟨e6, e7⟩, e8⟩⟩ := hm
  obtain ⟨first, count, type, fnum, id, poc, spatial, act0, act1, mods0, mods1, log, logc, w0, w1, longkey, ops, qp, off, a, b⟩ := h
  obtain ⟨u1, u2, u3, u4, u5, u6, u7, u8, _⟩ := ms
  simp only at f1 f2 f3 f4 f5 f6 f7 f8 f9 f10 f11 f12 f13 f14 f15 f16 ml0 ml1 mw k1 k2 k3 k4 e1 e2 e3 e4 e5 e6 e7 e8
  unfold headB beginB listsB weighB marksB edgesB at hi
  simp only [List.append_assoc] at hi
  have hroom : s.wide * s.high ≤ 64 := Int.mul_le_mul u2 u4 (by omega) (by omega)
  have hfb := pow_le_256 u6
  have hpb := pow_le_256 u8
  obtain ⟨i1, hi⟩ := hi.split
  obtain ⟨i2, hi⟩ := hi.split
  obtain ⟨i3, hi⟩ := hi.split
  obtain ⟨i4, hi⟩ := hi.split
  obtain ⟨i5, hi⟩ := hi.split
  obtain ⟨i6, hi⟩ := hi.split
  obtain ⟨i7, hi⟩ := hi.split
  obtain ⟨i8, hi⟩ := hi.split
  obtain ⟨i9, hi⟩ := hi.split
  obtain ⟨i10, hi⟩ := hi.split
  obtain ⟨i11, hi⟩ := hi.split
  obtain ⟨i12, hi⟩ := hi.split
  obtain ⟨i13, hi⟩ := hi.split
  obtain ⟨i14, hi⟩ := hi.split
  obtain ⟨i15, hi⟩ := hi.split
  obtain ⟨i16, hi⟩ := hi.split
  obtain ⟨i17, hi⟩ := hi.split
  obtain ⟨i18, hi⟩ := hi.split
  obtain ⟨i19, hi⟩ := hi.split
  obtain ⟨i20, i21⟩ := hi.split
  unfold rHead
  rw [rUe_back i1 f1 (by omega)]
  simp only [then_ok]
  rw [rUe_back i2 (by omega) (by omega)]
  simp only [then_ok]
  rw [rUe_back i3 f4 (by omega)]
  simp only [then_ok]
  rw [rMay_yes f5, rBits_back i4 f7 (by omega)]
  simp only [then_ok]
  rw [rIf_back i5 (fun _ i => rUe_back i f10 (by omega)) (fun e => f12 e)]
  simp only [then_ok]
  rw [rIf_back i6 (fun _ i => rBits_back i f13 (by omega)) (fun e => f15.resolve_left (by simpa using e))]
  simp only [then_ok]
  rw [rIf_back i7 (fun _ i => rFlag_back i) (fun e => Bool.eq_false_iff.2 (fun h => by have := f16 h; simp [this] at e))]
  simp only [then_ok]
  rw [rIf_back i8 (x := act0) (fun e i => by rw [rUe_back i (by rw [mayList, if_pos e] at ml0; have := ml0.1.1; omega) (by rw [mayList, if_pos e] at ml0; have := ml0.1.2; omega)]; simp only [then_ok]; rw [show act0 - 1 + 1 = act0 from by omega])
    (fun e => by rw [mayList, e] at ml0; simpa using ml0.1)]
  simp only [then_ok]
  rw [rIf_back i9 (x := act1) (fun e i => by rw [rUe_back i (by rw [mayList, if_pos e] at ml1; have := ml1.1.1; omega) (by rw [mayList, if_pos e] at ml1; have := ml1.1.2; omega)]; simp only [then_ok]; rw [show act1 - 1 + 1 = act1 from by omega])
    (fun e => by rw [mayList, e] at ml1; simpa using ml1.1)]
  simp only [then_ok]
  have ha0 : act0 ≤ 8 := by
    unfold mayList at ml0
    split at ml0
    · exact ml0.1.2
    · rw [ml0.1]; omega
  have ha1 : act1 ≤ 8 := by
    unfold mayList at ml1
    split at ml1
    · exact ml1.1.2
    · rw [ml1.1]; omega
  rw [rMay_yes ⟨ha0, ha1⟩]
  rw [rIf_back i10 (x := mods0) (fun e i => by rw [mayList, if_pos e] at ml0; exact rMods_back ml0.2.1 ml0.2.2 i) (fun e => by rw [mayList, e] at ml0; simpa using ml0.2)]
  simp only [then_ok]
  rw [rIf_back i11 (x := mods1) (fun e i => by rw [mayList, if_pos e] at ml1; exact rMods_back ml1.2.1 ml1.2.2 i) (fun e => by rw [mayList, e] at ml1; simpa using ml1.2)]
  simp only [then_ok]
  unfold mayWeights at mw
  rw [rIf_back i12 (x := log) (fun e i => by rw [if_pos e] at mw; exact rUe_back i mw.1.1 (by have := mw.1.2; simp only at this; omega)) (fun e => by rw [e] at mw; simpa using mw.1)]
  simp only [then_ok]
  rw [rIf_back i13 (x := logc) (fun e i => by rw [if_pos e] at mw; exact rUe_back i mw.2.1.1 (by have := mw.2.1.2; simp only at this; omega)) (fun e => by rw [e] at mw; simpa using mw.2.1)]
  simp only [then_ok]
  rw [rIf_back i14 (x := w0) (fun e i => by
    rw [if_pos e] at mw
    rw [show act0.toNat = w0.length from by have := mw.2.2.1; simp only at this; omega]
    exact rMany_of w0 (fun x hx p q => rWeight_back (mw.2.2.2.2.1 x hx)) _ _ i) (fun e => by rw [e] at mw; simpa using mw.2.2.1)]
  simp only [then_ok]
  rw [rIf_back i15 (x := w1) (fun e i => by
    rw [if_pos e] at mw
    rw [show act1.toNat = w1.length from by have := mw.2.2.2.1; simp only at this; omega]
    exact rMany_of w1 (fun x hx p q => rWeight_back (mw.2.2.2.2.2 x hx)) _ _ i) (fun e => by rw [e] at mw; simpa using mw.2.2.2)]
  simp only [then_ok]
  rw [rIf_back i16 (x := longkey) (fun _ i => rFlag_back i) (fun e => by
    cases longkey
    · rfl
    · have := k1 rfl
      simp [this.1, this.2] at e)]
  simp only [then_ok]
  rw [rIf_back i17 (x := ops) (fun _ i => rOps_back k3 k4 i) (fun e => by
    cases ops with
    | nil => rfl
    | cons o l =>
      have := k2 (by simp)
      simp [this.1, this.2] at e)]
  simp only [then_ok]
  rw [rUe_back i18 e1 (by omega)]
  simp only [then_ok]
  rw [rIf_back i19 (x := off) (fun _ i => rFlag_back i) (fun e => or_no e3 e)]
  simp only [then_ok]
  rw [rIf_back i20 (x := a) (fun _ i => rSe_back i (by omega) (by omega)) (fun e => (e8.resolve_left (fun d => by simp [d.1, d.2] at e)).1)]
  simp only [then_ok]
  rw [rIf_back i21 (x := b) (fun _ i => rSe_back i (by omega) (by omega)) (fun e => (e8.resolve_left (fun d => by simp [d.1, d.2] at e)).2)]
  simp only [then_ok]
  rw [show count - 1 + 1 = count from by omega]

theorem gotHead_back {h : HeadN} {s : SpsN} {p : PpsN} {ref : Int} {key : Bool} {at' q : Nat} (hm : headMay h s p ref key) (hi : Is f T at' q (headB h s p ref key)) : gotHead f T s p ref key at' = (h, 0, q) := by
  unfold gotHead
  rw [if_pos ⟨hm.1, hm.2.1, hm.2.2.1⟩, rHead_back hm hi]
  simp only
  rw [if_pos hm]
end
end Zp
