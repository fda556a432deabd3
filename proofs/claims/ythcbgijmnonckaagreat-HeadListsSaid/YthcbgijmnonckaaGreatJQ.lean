/- Layer 4: the walk from bits to fields, as plain mathematics: what it reads is what the document's bits say. -/
import Derived.Test.YthcbgijmnonckaaGreatJP
import Derived.Test.YthcbgijmnonckaaGreatJLb
namespace Go.Proofs.YthcbgijmnonckaaGreat
open Go.RowKit Zo Zp
set_option linter.unusedVariables false
set_option linter.unusedSimpArgs false

/-- A piece of the walk, and the reading that it is. -/
def Sim {α : Type} (r : α × Ws Nat) (x : Rd4 α) : Prop := match x with
  | .ok (v, p) => r = (v, ⟨0, p⟩)
  | .error c => r.2.c = c ∧ c ≠ 0

theorem Sim.cases {α : Type} {r : α × Ws Nat} {x : Rd4 α} (h : Sim r x) : (∃ v p, x = .ok (v, p) ∧ r = (v, ⟨0, p⟩)) ∨ (∃ c, x = .error c ∧ r.2.c = c ∧ c ≠ 0 ∧ r.2.c ≠ 0) := by
  cases x with
  | error c => exact .inr ⟨c, rfl, h.1, h.2, by rw [h.1]; exact h.2⟩
  | ok v => obtain ⟨v, p⟩ := v; exact .inl ⟨v, p, rfl, h⟩

theorem err_then {α β : Type} (c : Int) (k : α → Nat → Rd4 β) : Rd4.then (.error c) k = .error c := rfl

theorem sim_err {α : Type} {r : α × Ws Nat} {c : Int} (h : r.2.c = c) (hc : c ≠ 0) : Sim r (.error c) := ⟨h, hc⟩

section
variable (f : Nat → Bool) (T : Nat)

theorem sim_ue (x : Int) (p : Nat) : Sim (fUe (readF f T) x 0 ⟨0, p⟩) (rUe f T p) := by
  show Sim (((rdUe f T p 2147483646).1 : Int) + 0, ⟨if decide ((rdUe f T p 2147483646).2.1 = 0) = true then 0 else 400, (rdUe f T p 2147483646).2.2⟩) (Rd4.then (formed (if (rdUe f T p 2147483646).2.1 = 0 then some ((rdUe f T p 2147483646).1, (rdUe f T p 2147483646).2.2) else none)) fun x q => .ok ((x : Int), q))
  generalize rdUe f T p 2147483646 = r
  obtain ⟨v, c, q⟩ := r
  by_cases h : c = 0
  · subst h
    simp [Sim, formed, Rd4.then]
  · simp [Sim, formed, Rd4.then, h]

theorem sim_ue1 (x : Int) (p : Nat) : Sim (fUe (readF f T) x 1 ⟨0, p⟩) ((rUe f T p).then fun v q => .ok (v + 1, q)) := by
  show Sim (((rdUe f T p 2147483646).1 : Int) + 1, ⟨if decide ((rdUe f T p 2147483646).2.1 = 0) = true then 0 else 400, (rdUe f T p 2147483646).2.2⟩) (Rd4.then (Rd4.then (formed (if (rdUe f T p 2147483646).2.1 = 0 then some ((rdUe f T p 2147483646).1, (rdUe f T p 2147483646).2.2) else none)) fun x q => .ok ((x : Int), q)) fun v q => .ok (v + 1, q))
  generalize rdUe f T p 2147483646 = r
  obtain ⟨v, c, q⟩ := r
  by_cases h : c = 0
  · subst h
    simp [Sim, formed, Rd4.then]
  · simp [Sim, formed, Rd4.then, h]

theorem sim_se (x : Int) (p : Nat) : Sim (fSe (readF f T) x ⟨0, p⟩) (rSe f T p) := by
  show Sim (unfoldedZ (rdUe f T p 2147483646).1, ⟨if decide ((rdUe f T p 2147483646).2.1 = 0) = true then 0 else 400, (rdUe f T p 2147483646).2.2⟩) (formed ((if (rdUe f T p 2147483646).2.1 = 0 then some ((rdUe f T p 2147483646).1, (rdUe f T p 2147483646).2.2) else none).map fun x => (unfoldedZ x.1, x.2)))
  generalize rdUe f T p 2147483646 = r
  obtain ⟨v, c, q⟩ := r
  by_cases h : c = 0
  · subst h
    simp [Sim, formed]
  · simp [Sim, formed, h]

theorem sim_plain (x : Int) (n : Int) (p : Nat) (h0 : 0 ≤ n) (h1 : n ≤ 32) : Sim (fPlain (readF f T) x n ⟨0, p⟩) (rBits f T n.toNat p) := by
  obtain ⟨k, rfl⟩ : ∃ k : Nat, n = (k : Int) := ⟨n.toNat, by omega⟩
  rw [Int.toNat_natCast]
  show Sim (((rdBits f T p (k : Int)).1 : Int), ⟨if decide ((rdBits f T p (k : Int)).2.1 = 0) = true then 0 else 400, (rdBits f T p (k : Int)).2.2⟩) (Rd4.then (formed (if T - p < k then none else some (val (win f p k), p + k))) fun x q => .ok ((x : Int), q))
  have e := rdBits_nat f T p k (by omega)
  generalize rdBits f T p (k : Int) = r at *
  subst e
  by_cases h : T - p < k
  · simp [Sim, formed, Rd4.then, h]
  · simp [Sim, formed, Rd4.then, h]

theorem sim_flag (x : Bool) (p : Nat) : Sim (fFlag (readF f T) x ⟨0, p⟩) (rFlag f T p) := by
  show Sim ((((rdBits f T p 1).1 : Int) == 1), ⟨if decide ((rdBits f T p 1).2.1 = 0) = true then 0 else 400, (rdBits f T p 1).2.2⟩) (Rd4.then (Rd4.then (formed (if T - p < 1 then none else some (val (win f p 1), p + 1))) fun x q => .ok ((x : Int), q)) fun x q => .ok (x == 1, q))
  have e := rdBits_nat f T p 1 (by omega)
  rw [show ((1 : Nat) : Int) = 1 from rfl] at e
  generalize rdBits f T p 1 = r at *
  subst e
  by_cases h : T - p < 1
  · simp [Sim, formed, Rd4.then, h]
  · simp [Sim, formed, Rd4.then, h]

theorem sim_if {α : Type} {b : Bool} {r : α × Ws Nat} {x : α} {p : Nat} {R : Nat → Rd4 α} (h : b = true → Sim r (R p)) : Sim (if b = true then r else (x, ⟨0, p⟩)) (rIf b x R p) := by
  cases b
  · exact rfl
  · exact h rfl

theorem ask_no (q : Nat) : fAsk false (⟨0, q⟩ : Ws Nat) = ⟨401, q⟩ := if_pos ⟨rfl, rfl⟩
theorem ask_yes' (s : Ws Nat) : fAsk true s = s := if_neg (fun e => by cases e.2)
theorem rMay_no {α : Type} {may : Prop} [Decidable may] {k : Rd4 α} (h : ¬ may) : rMay may k = .error 401 := if_neg h

theorem sim_many {α : Type} {zero : α} {item : α → Ws Nat → α × Ws Nat} {one : Nat → Rd4 α} (hi : ∀ x (s : Ws Nat), s.c ≠ 0 → (item x s).2 = s) (h : ∀ p, Sim (item zero ⟨0, p⟩) (one p)) : ∀ (n : Nat) (p : Nat), Sim (fMany item (List.replicate n zero) ⟨0, p⟩) (rMany one n p)
  | 0, p => rfl
  | n + 1, p => by
    rw [List.replicate_succ]
    show Sim ((item zero ⟨0, p⟩).1 :: (fMany item (List.replicate n zero) (item zero ⟨0, p⟩).2).1, (fMany item (List.replicate n zero) (item zero ⟨0, p⟩).2).2) _
    simp only [rMany]
    rcases (h p).cases with ⟨v, q, a, b⟩ | ⟨c, a, b, hc, hn⟩
    · rw [a, b]
      simp only [Zp.then_ok]
      rcases (sim_many hi h n q).cases with ⟨l, r, a2, b2⟩ | ⟨c, a2, b2, hc, hn⟩
      · simp only [Zp.then_ok, a2, b2]
        rfl
      · simp only [Zp.then_ok, a2, err_then]
        exact ⟨b2, hc⟩
    · rw [a, fMany_idle hi _ _ hn]
      exact ⟨b, hc⟩

theorem enough_nil {α : Type} (zero : α) (n : Int) : enough zero n ([] : List α) = List.replicate n.toNat zero := by
  unfold enough
  split
  · rfl
  · rename_i h
    simp only [List.length_nil] at h
    rw [show n.toNat = 0 from by omega]
    rfl

theorem sim_list {α : Type} {zero : α} {item : α → Ws Nat → α × Ws Nat} {one : Nat → Rd4 α} (hi : ∀ x (s : Ws Nat), s.c ≠ 0 → (item x s).2 = s) (h : ∀ p, Sim (item zero ⟨0, p⟩) (one p)) (n : Int) (p : Nat) : Sim (fList zero item n [] ⟨0, p⟩) (rMany one n.toNat p) := by
  unfold fList
  rw [if_pos rfl, enough_nil]
  exact sim_many hi h _ p

theorem sim_counted {α : Type} {zero : α} {item : α → Ws Nat → α × Ws Nat} {one : Nat → Rd4 α} (hi : ∀ x (s : Ws Nat), s.c ≠ 0 → (item x s).2 = s) (h : ∀ p, Sim (item zero ⟨0, p⟩) (one p)) (p : Nat) : Sim (fCounted (readF f T) zero item 16 [] ⟨0, p⟩) ((rUe f T p).then fun n q => rMay (n ≤ 16) (rMany one n.toNat q)) := by
  unfold fCounted
  simp only [List.length_nil]
  have hs := sim_ue f T ((0 : Nat) : Int) p
  generalize fUe (readF f T) ((0 : Nat) : Int) 0 ⟨0, p⟩ = r at *
  rcases hs.cases with ⟨v, q, a, b⟩ | ⟨c, a, b, hc, hn⟩
  · subst b
    simp only [a, Zp.then_ok]
    by_cases hv : v ≤ 16
    · rw [rMay_yes hv, decide_eq_true hv, ask_yes']
      exact sim_list hi h v q
    · rw [rMay_no hv, decide_eq_false hv, ask_no, fList_idle (show (401 : Int) ≠ 0 by decide)]
      exact ⟨rfl, by decide⟩
  · rw [a, err_then, fAsk_idle hn, fList_idle hn]
    exact ⟨b, hc⟩

theorem sim_mod (p : Nat) : Sim (fMod (readF f T) ModN.zero ⟨0, p⟩) (rMod f T p) := by
  unfold fMod rMod
  rcases (sim_ue f T ModN.zero.kind p).cases with ⟨v1, q1, a1, b1⟩ | ⟨c, a, b, hc, hn⟩
  rotate_left
  · simp only [a, err_then, fUe_idle hn, fSe_idle hn, fPlain_idle hn, fFlag_idle hn, fAsk_idle hn, fList_idle hn, fCounted_idle hn, ite_self]
    exact sim_err b hc
  simp only [a1, b1, Zp.then_ok]
  rcases (sim_ue f T ModN.zero.v q1).cases with ⟨v2, q2, a2, b2⟩ | ⟨c, a, b, hc, hn⟩
  rotate_left
  · simp only [a, err_then, fUe_idle hn, fSe_idle hn, fPlain_idle hn, fFlag_idle hn, fAsk_idle hn, fList_idle hn, fCounted_idle hn, ite_self]
    exact sim_err b hc
  simp only [a2, b2, Zp.then_ok]
  exact rfl

theorem sim_weight (p : Nat) : Sim (fWeight (readF f T) WeightN.zero ⟨0, p⟩) (rWeight f T p) := by
  unfold fWeight rWeight
  rcases (sim_se f T WeightN.zero.s0 p).cases with ⟨v1, q1, a1, b1⟩ | ⟨c, a, b, hc, hn⟩
  rotate_left
  · simp only [a, err_then, fUe_idle hn, fSe_idle hn, fPlain_idle hn, fFlag_idle hn, fAsk_idle hn, fList_idle hn, fCounted_idle hn, ite_self]
    exact sim_err b hc
  simp only [a1, b1, Zp.then_ok]
  rcases (sim_se f T WeightN.zero.o0 q1).cases with ⟨v2, q2, a2, b2⟩ | ⟨c, a, b, hc, hn⟩
  rotate_left
  · simp only [a, err_then, fUe_idle hn, fSe_idle hn, fPlain_idle hn, fFlag_idle hn, fAsk_idle hn, fList_idle hn, fCounted_idle hn, ite_self]
    exact sim_err b hc
  simp only [a2, b2, Zp.then_ok]
  rcases (sim_se f T WeightN.zero.s1 q2).cases with ⟨v3, q3, a3, b3⟩ | ⟨c, a, b, hc, hn⟩
  rotate_left
  · simp only [a, err_then, fUe_idle hn, fSe_idle hn, fPlain_idle hn, fFlag_idle hn, fAsk_idle hn, fList_idle hn, fCounted_idle hn, ite_self]
    exact sim_err b hc
  simp only [a3, b3, Zp.then_ok]
  rcases (sim_se f T WeightN.zero.o1 q3).cases with ⟨v4, q4, a4, b4⟩ | ⟨c, a, b, hc, hn⟩
  rotate_left
  · simp only [a, err_then, fUe_idle hn, fSe_idle hn, fPlain_idle hn, fFlag_idle hn, fAsk_idle hn, fList_idle hn, fCounted_idle hn, ite_self]
    exact sim_err b hc
  simp only [a4, b4, Zp.then_ok]
  rcases (sim_se f T WeightN.zero.s2 q4).cases with ⟨v5, q5, a5, b5⟩ | ⟨c, a, b, hc, hn⟩
  rotate_left
  · simp only [a, err_then, fUe_idle hn, fSe_idle hn, fPlain_idle hn, fFlag_idle hn, fAsk_idle hn, fList_idle hn, fCounted_idle hn, ite_self]
    exact sim_err b hc
  simp only [a5, b5, Zp.then_ok]
  rcases (sim_se f T WeightN.zero.o2 q5).cases with ⟨v6, q6, a6, b6⟩ | ⟨c, a, b, hc, hn⟩
  rotate_left
  · simp only [a, err_then, fUe_idle hn, fSe_idle hn, fPlain_idle hn, fFlag_idle hn, fAsk_idle hn, fList_idle hn, fCounted_idle hn, ite_self]
    exact sim_err b hc
  simp only [a6, b6, Zp.then_ok]
  exact rfl

theorem sim_op (p : Nat) : Sim (fOp (readF f T) OpN.zero ⟨0, p⟩) (rOp f T p) := by
  unfold fOp rOp
  rcases (sim_ue f T OpN.zero.kind p).cases with ⟨v1, q1, a1, b1⟩ | ⟨c, a, b, hc, hn⟩
  rotate_left
  · simp only [a, err_then, fUe_idle hn, fAsk_idle hn, ite_self]
    exact sim_err b hc
  simp only [a1, b1, Zp.then_ok]
  by_cases hk : inZ v1 1 6
  rotate_left
  · have ka : anyKind v1 = false := decide_eq_false hk
    simp only [rMay_no hk, ka, ask_no, fUe_idle (s := (⟨401, q1⟩ : Ws Nat)) (show (401 : Int) ≠ 0 by decide), ite_self]
    exact sim_err rfl (by decide)
  have ka : anyKind v1 = true := decide_eq_true hk
  have kb : anyA v1 = hasAN v1 := by simp [anyA, ka, hasAN]
  have kc : anyB v1 = hasBN v1 := rfl
  simp only [ka, ask_yes', kb, kc, rMay_yes hk]
  rcases (sim_if (b := hasAN v1) (x := OpN.zero.a) (R := rUe f T) (fun _ => sim_ue f T OpN.zero.a q1)).cases with ⟨v2, q2, a2, b2⟩ | ⟨c, a, b, hc, hn⟩
  rotate_left
  · simp only [show rIf (hasAN v1) 0 (rUe f T) q1 = _ from a, err_then, fUe_idle hn, ite_self]
    exact sim_err b hc
  simp only [show rIf (hasAN v1) 0 (rUe f T) q1 = _ from a2, b2, Zp.then_ok]
  rcases (sim_if (b := hasBN v1) (x := OpN.zero.b) (R := rUe f T) (fun _ => sim_ue f T OpN.zero.b q2)).cases with ⟨v3, q3, a3, b3⟩ | ⟨c, a, b, hc, hn⟩
  rotate_left
  · simp only [show rIf (hasBN v1) 0 (rUe f T) q2 = _ from a, err_then]
    exact sim_err b hc
  simp only [show rIf (hasBN v1) 0 (rUe f T) q2 = _ from a3, b3, Zp.then_ok]
  exact rfl

theorem rIf_true {α : Type} (x : α) (R : Nat → Rd4 α) (p : Nat) : rIf true x R p = R p := rfl
theorem rIf_false {α : Type} (x : α) (R : Nat → Rd4 α) (p : Nat) : rIf false x R p = .ok (x, p) := rfl

theorem mod_idle (x : ModN) (s : Ws Nat) (h : s.c ≠ 0) : (fMod (readF f T) x s).2 = s := by simp only [fMod, fUe_idle h]
theorem weight_idle (x : WeightN) (s : Ws Nat) (h : s.c ≠ 0) : (fWeight (readF f T) x s).2 = s := by simp only [fWeight, fSe_idle h]
theorem op_idle (x : OpN) (s : Ws Nat) (h : s.c ≠ 0) : (fOp (readF f T) x s).2 = s := by simp only [fOp, fUe_idle h, fAsk_idle h, ite_self]

def cBegin (u : SpsN) (key : Bool) (p : Nat) (k : Int → Int → Int → Int → Int → Int → Nat → Rd4 HeadN) : Rd4 HeadN :=
  (rUe f T p).then fun first q => (rUe f T q).then fun count q => (rUe f T q).then fun type q => rMay (type ≤ 2) <|
  (rBits f T u.fbits.toNat q).then fun fnum q => (rIf key 0 (rUe f T) q).then fun id q => (rIf (u.ptype == 0) 0 (rBits f T u.pbits.toNat) q).then fun poc q => k first count type fnum id poc q
def cLists (type : Int) (p : Nat) (k : Bool → Int → Int → List ModN → List ModN → Nat → Rd4 HeadN) : Rd4 HeadN :=
  (rIf (type == 1) false (rFlag f T) p).then fun spatial q => (rIf (type != 2) 0 (fun q => (rUe f T q).then fun x q => .ok (x + 1, q)) q).then fun act0 q => (rIf (type == 1) 0 (fun q => (rUe f T q).then fun x q => .ok (x + 1, q)) q).then fun act1 q => rMay (act0 ≤ 8 ∧ act1 ≤ 8) <|
  (rIf (type != 2) [] (rMods f T) q).then fun mods0 q => (rIf (type == 1) [] (rMods f T) q).then fun mods1 q => k spatial act0 act1 mods0 mods1 q
def cWeigh (is : Bool) (act0 act1 : Int) (p : Nat) (k : Int → Int → List WeightN → List WeightN → Nat → Rd4 HeadN) : Rd4 HeadN :=
  (rIf is 0 (rUe f T) p).then fun log q => (rIf is 0 (rUe f T) q).then fun logc q => (rIf is [] (rMany (rWeight f T) act0.toNat) q).then fun w0 q => (rIf is [] (rMany (rWeight f T) act1.toNat) q).then fun w1 q => k log logc w0 w1 q
def cMarks (ref : Int) (key : Bool) (p : Nat) (k : Bool → List OpN → Nat → Rd4 HeadN) : Rd4 HeadN :=
  (rIf (decide (0 < ref) && key) false (rFlag f T) p).then fun longkey q => (rIf (decide (0 < ref) && !key) [] (rOps f T) q).then fun ops q => k longkey ops q
def cEnd (P : PpsN) (p : Nat) (k : Int → Bool → Int → Int → Nat → Rd4 HeadN) : Rd4 HeadN :=
  (rUe f T p).then fun qp q => (rIf P.deblock false (rFlag f T) q).then fun off q => (rIf (P.deblock && !off) 0 (rSe f T) q).then fun a q => (rIf (P.deblock && !off) 0 (rSe f T) q).then fun b q => k qp off a b q

theorem rHead_is (u : SpsN) (P : PpsN) (ref : Int) (key : Bool) (p : Nat) : rHead f T u P ref key p =
    cBegin f T u key p fun first count type fnum id poc q => cLists f T type q fun sp a0 a1 m0 m1 q => cWeigh f T (weighsN type P) a0 a1 q fun lg lc w0 w1 q => cMarks f T ref key q fun lk os q => cEnd f T P q fun qp off a b q =>
      .ok (⟨first, count + 1, type, fnum, id, poc, sp, a0, a1, m0, m1, lg, lc, w0, w1, lk, os, qp, off, a, b⟩, q) := rfl

theorem rUe_nat {p : Nat} {v : Int} {q : Nat} (h : rUe f T p = .ok (v, q)) : 0 ≤ v := by
  unfold rUe at h
  cases e : pUe f T p with
  | none => rw [e] at h; simp [formed, Rd4.then] at h
  | some x =>
    rw [e] at h
    simp only [formed, Zp.then_ok] at h
    cases h
    exact Int.natCast_nonneg _

theorem begin_sim (u : SpsN) (key : Bool) (p : Nat) (hu : (0 ≤ u.fbits ∧ u.fbits ≤ 32) ∧ 0 ≤ u.pbits ∧ u.pbits ≤ 32) :
    (∃ v1 v2 v3 v4 v5 v6 q, fBegin (readF f T) u key HeadN.zero ⟨0, p⟩ = (⟨v1, v2 + 1, v3, v4, v5, v6, false, 0, 0, [], [], 0, 0, [], [], false, [], 0, false, 0, 0⟩, ⟨0, q⟩) ∧ (0 ≤ v3 ∧ v3 ≤ 2) ∧ ∀ k, cBegin f T u key p k = k v1 v2 v3 v4 v5 v6 q) ∨ ∃ c, (fBegin (readF f T) u key HeadN.zero ⟨0, p⟩).2.c = c ∧ c ≠ 0 ∧ ∀ k, cBegin f T u key p k = .error c := by
  rcases (sim_ue f T 0 p).cases with ⟨v1, q1, a1, b1⟩ | ⟨c, a, b, hc, hn⟩
  rotate_left
  · refine .inr ⟨c, ?_, hc, fun k => ?_⟩
    · simp only [fBegin, HeadN.zero, fUe_idle hn, fSe_idle hn, fPlain_idle hn, fFlag_idle hn, fAsk_idle hn, fList_idle hn, fCounted_idle hn, ite_self]
      exact b
    · simp only [cBegin, a, err_then]
  have h2 := sim_ue1 f T 0 q1
  cases r2 : rUe f T q1 with
  | error c =>
    rw [r2, err_then] at h2
    obtain ⟨b, hc⟩ := h2
    have hn : (fUe (readF f T) 0 1 ⟨0, q1⟩).2.c ≠ 0 := by rw [b]; exact hc
    refine .inr ⟨c, ?_, hc, fun k => ?_⟩
    · simp only [fBegin, HeadN.zero, b1, fUe_idle hn, fSe_idle hn, fPlain_idle hn, fFlag_idle hn, fAsk_idle hn, fList_idle hn, fCounted_idle hn, ite_self]
      exact b
    · simp only [cBegin, a1, r2, err_then, Zp.then_ok]
  | ok vq =>
  obtain ⟨v2, q2⟩ := vq
  rw [r2, Zp.then_ok] at h2
  have b2 : fUe (readF f T) 0 1 ⟨0, q1⟩ = (v2 + 1, ⟨0, q2⟩) := h2
  rcases (sim_ue f T 0 q2).cases with ⟨v3, q3, a3, b3⟩ | ⟨c, a, b, hc, hn⟩
  rotate_left
  · refine .inr ⟨c, ?_, hc, fun k => ?_⟩
    · simp only [fBegin, HeadN.zero, b1, b2, fUe_idle hn, fSe_idle hn, fPlain_idle hn, fFlag_idle hn, fAsk_idle hn, fList_idle hn, fCounted_idle hn, ite_self]
      exact b
    · simp only [cBegin, a1, r2, a, err_then, Zp.then_ok]
  have h3 := rUe_nat f T a3
  by_cases hm : v3 ≤ 2
  rotate_left
  · have hd : decide (v3 ≤ 2) = false := decide_eq_false hm
    refine .inr ⟨401, ?_, by decide, fun k => ?_⟩
    · have hn : (⟨401, q3⟩ : Ws Nat).c ≠ 0 := show (401 : Int) ≠ 0 by decide
      simp only [fBegin, HeadN.zero, b1, b2, b3, hd, ask_no, fUe_idle hn, fSe_idle hn, fPlain_idle hn, fFlag_idle hn, fAsk_idle hn, fList_idle hn, fCounted_idle hn, ite_self]
    · simp only [cBegin, a1, r2, a3, rMay_no hm, Zp.then_ok]
  have hd : decide (v3 ≤ 2) = true := decide_eq_true hm
  rcases (sim_plain f T 0 u.fbits q3 hu.1.1 hu.1.2).cases with ⟨v4, q4, a4, b4⟩ | ⟨c, a, b, hc, hn⟩
  rotate_left
  · refine .inr ⟨c, ?_, hc, fun k => ?_⟩
    · simp only [fBegin, HeadN.zero, b1, b2, b3, hd, ask_yes', fUe_idle hn, fSe_idle hn, fPlain_idle hn, fFlag_idle hn, fAsk_idle hn, fList_idle hn, fCounted_idle hn, ite_self]
      exact b
    · simp only [cBegin, a1, r2, a3, rMay_yes hm, a, err_then, Zp.then_ok]
  rcases (sim_if (b := key) (x := (0 : Int)) (R := rUe f T) (fun _ => sim_ue f T 0 q4)).cases with ⟨v5, q5, a5, b5⟩ | ⟨c, a, b, hc, hn⟩
  rotate_left
  · refine .inr ⟨c, ?_, hc, fun k => ?_⟩
    · simp only [fBegin, HeadN.zero, b1, b2, b3, b4, hd, ask_yes', fUe_idle hn, fSe_idle hn, fPlain_idle hn, fFlag_idle hn, fAsk_idle hn, fList_idle hn, fCounted_idle hn, ite_self]
      exact b
    · simp only [cBegin, a1, r2, a3, a4, rMay_yes hm, a, err_then, Zp.then_ok]
  rcases (sim_if (b := u.ptype == 0) (x := (0 : Int)) (R := rBits f T u.pbits.toNat) (fun _ => sim_plain f T 0 u.pbits q5 hu.2.1 hu.2.2)).cases with ⟨v6, q6, a6, b6⟩ | ⟨c, a, b, hc, hn⟩
  rotate_left
  · refine .inr ⟨c, ?_, hc, fun k => ?_⟩
    · simp only [fBegin, HeadN.zero, b1, b2, b3, b4, b5, hd, ask_yes', fUe_idle hn, fSe_idle hn, fPlain_idle hn, fFlag_idle hn, fAsk_idle hn, fList_idle hn, fCounted_idle hn, ite_self]
      exact b
    · simp only [cBegin, a1, r2, a3, a4, a5, rMay_yes hm, a, err_then, Zp.then_ok]
  refine .inl ⟨v1, v2, v3, v4, v5, v6, q6, ?_, ⟨h3, hm⟩, fun k => ?_⟩
  · simp only [fBegin, HeadN.zero, b1, b2, b3, b4, b5, b6, hd, ask_yes']
  · simp only [cBegin, a1, r2, a3, a4, a5, a6, rMay_yes hm, Zp.then_ok]

theorem lists_sim (x1 x2 type x4 x5 x6 : Int) (p : Nat) (h0 : 0 ≤ type) (h2 : type ≤ 2) :
    (∃ v1 v2 v3 v4 v5 q, fLists (readF f T) ⟨x1, x2, type, x4, x5, x6, false, 0, 0, [], [], 0, 0, [], [], false, [], 0, false, 0, 0⟩ ⟨0, p⟩ = (⟨x1, x2, type, x4, x5, x6, v1, v2, v3, v4, v5, 0, 0, [], [], false, [], 0, false, 0, 0⟩, ⟨0, q⟩) ∧ ∀ k, cLists f T type p k = k v1 v2 v3 v4 v5 q) ∨ ∃ c, (fLists (readF f T) ⟨x1, x2, type, x4, x5, x6, false, 0, 0, [], [], 0, 0, [], [], false, [], 0, false, 0, 0⟩ ⟨0, p⟩).2.c = c ∧ c ≠ 0 ∧ ∀ k, cLists f T type p k = .error c := by
  have hf : oneFirst type = (type != 2) := by
    unfold oneFirst
    rcases (show type = 0 ∨ type = 1 ∨ type = 2 by omega) with e | e | e <;> rw [e] <;> rfl
  rcases (sim_if (b := type == 1) (x := false) (R := rFlag f T) (fun _ => sim_flag f T false p)).cases with ⟨v1, q1, a1, b1⟩ | ⟨c, a, b, hc, hn⟩
  rotate_left
  · refine .inr ⟨c, ?_, hc, fun k => ?_⟩
    · simp only [fLists, hf, fUe_idle hn, fSe_idle hn, fPlain_idle hn, fFlag_idle hn, fAsk_idle hn, fList_idle hn, fCounted_idle hn, ite_self]
      exact b
    · simp only [cLists, a, err_then, Zp.then_ok]
  rcases (sim_if (b := type != 2) (x := (0 : Int)) (R := (fun q => (rUe f T q).then fun x q => .ok (x + 1, q))) (fun _ => sim_ue1 f T 0 q1)).cases with ⟨v2, q2, a2, b2⟩ | ⟨c, a, b, hc, hn⟩
  rotate_left
  · refine .inr ⟨c, ?_, hc, fun k => ?_⟩
    · simp only [fLists, hf, b1, fUe_idle hn, fSe_idle hn, fPlain_idle hn, fFlag_idle hn, fAsk_idle hn, fList_idle hn, fCounted_idle hn, ite_self]
      exact b
    · simp only [cLists, a1, a, err_then, Zp.then_ok]
  rcases (sim_if (b := type == 1) (x := (0 : Int)) (R := (fun q => (rUe f T q).then fun x q => .ok (x + 1, q))) (fun _ => sim_ue1 f T 0 q2)).cases with ⟨v3, q3, a3, b3⟩ | ⟨c, a, b, hc, hn⟩
  rotate_left
  · refine .inr ⟨c, ?_, hc, fun k => ?_⟩
    · simp only [fLists, hf, b1, b2, fUe_idle hn, fSe_idle hn, fPlain_idle hn, fFlag_idle hn, fAsk_idle hn, fList_idle hn, fCounted_idle hn, ite_self]
      exact b
    · simp only [cLists, a1, a2, a, err_then, Zp.then_ok]
  by_cases hm : v2 ≤ 8 ∧ v3 ≤ 8
  rotate_left
  · have hd : (decide (v2 ≤ 8) && decide (v3 ≤ 8)) = false := by simpa using hm
    refine .inr ⟨401, ?_, by decide, fun k => ?_⟩
    · have hn : (⟨401, q3⟩ : Ws Nat).c ≠ 0 := show (401 : Int) ≠ 0 by decide
      simp only [fLists, hf, b1, b2, b3, hd, ask_no, fUe_idle hn, fSe_idle hn, fPlain_idle hn, fFlag_idle hn, fAsk_idle hn, fList_idle hn, fCounted_idle hn, ite_self]
    · simp only [cLists, a1, a2, a3, rMay_no hm, Zp.then_ok]
  have hd : (decide (v2 ≤ 8) && decide (v3 ≤ 8)) = true := by simpa using hm
  rcases (sim_if (b := type != 2) (x := ([] : List ModN)) (R := rMods f T) (fun _ => sim_counted f T (zero := ModN.zero) (item := fMod (readF f T)) (one := rMod f T) (mod_idle f T) (sim_mod f T) q3)).cases with ⟨v4, q4, a4, b4⟩ | ⟨c, a, b, hc, hn⟩
  rotate_left
  · refine .inr ⟨c, ?_, hc, fun k => ?_⟩
    · simp only [fLists, hf, b1, b2, b3, hd, ask_yes', fUe_idle hn, fSe_idle hn, fPlain_idle hn, fFlag_idle hn, fAsk_idle hn, fList_idle hn, fCounted_idle hn, ite_self]
      exact b
    · simp only [cLists, a1, a2, a3, rMay_yes hm, a, err_then, Zp.then_ok]
  rcases (sim_if (b := type == 1) (x := ([] : List ModN)) (R := rMods f T) (fun _ => sim_counted f T (zero := ModN.zero) (item := fMod (readF f T)) (one := rMod f T) (mod_idle f T) (sim_mod f T) q4)).cases with ⟨v5, q5, a5, b5⟩ | ⟨c, a, b, hc, hn⟩
  rotate_left
  · refine .inr ⟨c, ?_, hc, fun k => ?_⟩
    · simp only [fLists, hf, b1, b2, b3, hd, ask_yes', b4, fUe_idle hn, fSe_idle hn, fPlain_idle hn, fFlag_idle hn, fAsk_idle hn, fList_idle hn, fCounted_idle hn, ite_self]
      exact b
    · simp only [cLists, a1, a2, a3, rMay_yes hm, a4, a, err_then, Zp.then_ok]
  refine .inl ⟨v1, v2, v3, v4, v5, q5, ?_, fun k => ?_⟩
  · simp only [fLists, hf, b1, b2, b3, hd, ask_yes', b4, b5]
  · simp only [cLists, a1, a2, a3, rMay_yes hm, a4, a5, Zp.then_ok]

theorem weigh_sim (h : HeadN) (p : Nat) (e0 : h.w0 = []) (e1 : h.w1 = []) :
    (∃ v1 v2 v3 v4 q, fWeights (readF f T) h ⟨0, p⟩ = ({ h with log := v1, logc := v2, w0 := v3, w1 := v4 }, ⟨0, q⟩) ∧ ∀ k, cWeigh f T true h.act0 h.act1 p k = k v1 v2 v3 v4 q) ∨ ∃ c, (fWeights (readF f T) h ⟨0, p⟩).2.c = c ∧ c ≠ 0 ∧ ∀ k, cWeigh f T true h.act0 h.act1 p k = .error c := by
  rcases (sim_ue f T h.log p).cases with ⟨v1, q1, a1, b1⟩ | ⟨c, a, b, hc, hn⟩
  rotate_left
  · refine .inr ⟨c, ?_, hc, fun k => ?_⟩
    · simp only [fWeights, e0, e1, fUe_idle hn, fSe_idle hn, fPlain_idle hn, fFlag_idle hn, fAsk_idle hn, fList_idle hn, fCounted_idle hn, ite_self]
      exact b
    · simp only [cWeigh, rIf, if_true, a, err_then, Zp.then_ok]
  rcases (sim_ue f T h.logc q1).cases with ⟨v2, q2, a2, b2⟩ | ⟨c, a, b, hc, hn⟩
  rotate_left
  · refine .inr ⟨c, ?_, hc, fun k => ?_⟩
    · simp only [fWeights, e0, e1, b1, fUe_idle hn, fSe_idle hn, fPlain_idle hn, fFlag_idle hn, fAsk_idle hn, fList_idle hn, fCounted_idle hn, ite_self]
      exact b
    · simp only [cWeigh, rIf, if_true, a1, a, err_then, Zp.then_ok]
  rcases (sim_list (zero := WeightN.zero) (item := fWeight (readF f T)) (one := rWeight f T) (weight_idle f T) (sim_weight f T) h.act0 q2).cases with ⟨v3, q3, a3, b3⟩ | ⟨c, a, b, hc, hn⟩
  rotate_left
  · refine .inr ⟨c, ?_, hc, fun k => ?_⟩
    · simp only [fWeights, e0, e1, b1, b2, fUe_idle hn, fSe_idle hn, fPlain_idle hn, fFlag_idle hn, fAsk_idle hn, fList_idle hn, fCounted_idle hn, ite_self]
      exact b
    · simp only [cWeigh, rIf, if_true, a1, a2, a, err_then, Zp.then_ok]
  rcases (sim_list (zero := WeightN.zero) (item := fWeight (readF f T)) (one := rWeight f T) (weight_idle f T) (sim_weight f T) h.act1 q3).cases with ⟨v4, q4, a4, b4⟩ | ⟨c, a, b, hc, hn⟩
  rotate_left
  · refine .inr ⟨c, ?_, hc, fun k => ?_⟩
    · simp only [fWeights, e0, e1, b1, b2, b3, fUe_idle hn, fSe_idle hn, fPlain_idle hn, fFlag_idle hn, fAsk_idle hn, fList_idle hn, fCounted_idle hn, ite_self]
      exact b
    · simp only [cWeigh, rIf, if_true, a1, a2, a3, a, err_then, Zp.then_ok]
  refine .inl ⟨v1, v2, v3, v4, q4, ?_, fun k => ?_⟩
  · simp only [fWeights, e0, e1, b1, b2, b3, b4]
  · simp only [cWeigh, rIf, if_true, a1, a2, a3, a4, Zp.then_ok]

theorem marks_sim (ref : Int) (key : Bool) (h : HeadN) (p : Nat) (e0 : h.longkey = false) (e1 : h.ops = []) :
    (∃ v1 v2 q, fMarks (readF f T) ref key h ⟨0, p⟩ = ({ h with longkey := v1, ops := v2 }, ⟨0, q⟩) ∧ ∀ k, cMarks f T ref key p k = k v1 v2 q) ∨ ∃ c, (fMarks (readF f T) ref key h ⟨0, p⟩).2.c = c ∧ c ≠ 0 ∧ ∀ k, cMarks f T ref key p k = .error c := by
  rcases (sim_if (b := key && decide (0 < ref)) (x := false) (R := rFlag f T) (fun _ => sim_flag f T false p)).cases with ⟨v1, q1, a1, b1⟩ | ⟨c, a, b, hc, hn⟩
  rotate_left
  · refine .inr ⟨c, ?_, hc, fun k => ?_⟩
    · simp only [fMarks, e0, e1, fUe_idle hn, fSe_idle hn, fPlain_idle hn, fFlag_idle hn, fAsk_idle hn, fList_idle hn, fCounted_idle hn, ite_self]
      exact b
    · simp only [cMarks, Bool.and_comm (decide (0 < ref)), a, err_then, Zp.then_ok]
  rcases (sim_if (b := !key && decide (0 < ref)) (x := ([] : List OpN)) (R := rOps f T) (fun _ => sim_counted f T (zero := OpN.zero) (item := fOp (readF f T)) (one := rOp f T) (op_idle f T) (sim_op f T) q1)).cases with ⟨v2, q2, a2, b2⟩ | ⟨c, a, b, hc, hn⟩
  rotate_left
  · refine .inr ⟨c, ?_, hc, fun k => ?_⟩
    · simp only [fMarks, e0, e1, b1, fUe_idle hn, fSe_idle hn, fPlain_idle hn, fFlag_idle hn, fAsk_idle hn, fList_idle hn, fCounted_idle hn, ite_self]
      exact b
    · simp only [cMarks, Bool.and_comm (decide (0 < ref)), a1, a, err_then, Zp.then_ok]
  refine .inl ⟨v1, v2, q2, ?_, fun k => ?_⟩
  · simp only [fMarks, e0, e1, b1, b2]
  · simp only [cMarks, Bool.and_comm (decide (0 < ref)), a1, a2, Zp.then_ok]

theorem end_sim (P : PpsN) (h : HeadN) (p : Nat) (e0 : h.off = false) (e1 : h.a = 0) (e2 : h.b = 0) (hd0 : P.deblock = true) :
    (∃ v1 v2 v3 v4 q, fEnd (readF f T) P h ⟨0, p⟩ = ({ h with qp := v1, off := v2, a := v3, b := v4 }, ⟨0, q⟩) ∧ ∀ k, cEnd f T P p k = k v1 v2 v3 v4 q) ∨ ∃ c, (fEnd (readF f T) P h ⟨0, p⟩).2.c = c ∧ c ≠ 0 ∧ ∀ k, cEnd f T P p k = .error c := by
  rcases (sim_ue f T h.qp p).cases with ⟨v1, q1, a1, b1⟩ | ⟨c, a, b, hc, hn⟩
  rotate_left
  · refine .inr ⟨c, ?_, hc, fun k => ?_⟩
    · simp only [fEnd, fEdges, e0, e1, e2, hd0, if_true, fUe_idle hn, fSe_idle hn, fPlain_idle hn, fFlag_idle hn, fAsk_idle hn, fList_idle hn, fCounted_idle hn, ite_self]
      exact b
    · simp only [cEnd, hd0, Bool.true_and, rIf_true, a, err_then, Zp.then_ok]
  rcases (sim_flag f T false q1).cases with ⟨v2, q2, a2, b2⟩ | ⟨c, a, b, hc, hn⟩
  rotate_left
  · refine .inr ⟨c, ?_, hc, fun k => ?_⟩
    · simp only [fEnd, fEdges, e0, e1, e2, hd0, if_true, b1, fUe_idle hn, fSe_idle hn, fPlain_idle hn, fFlag_idle hn, fAsk_idle hn, fList_idle hn, fCounted_idle hn, ite_self]
      exact b
    · simp only [cEnd, hd0, Bool.true_and, rIf_true, a1, a, err_then, Zp.then_ok]
  rcases (sim_if (b := !v2) (x := (0 : Int)) (R := rSe f T) (fun _ => sim_se f T 0 q2)).cases with ⟨v3, q3, a3, b3⟩ | ⟨c, a, b, hc, hn⟩
  rotate_left
  · refine .inr ⟨c, ?_, hc, fun k => ?_⟩
    · simp only [fEnd, fEdges, e0, e1, e2, hd0, if_true, b1, b2, fUe_idle hn, fSe_idle hn, fPlain_idle hn, fFlag_idle hn, fAsk_idle hn, fList_idle hn, fCounted_idle hn, ite_self]
      exact b
    · simp only [cEnd, hd0, Bool.true_and, rIf_true, a1, a2, a, err_then, Zp.then_ok]
  rcases (sim_if (b := !v2) (x := (0 : Int)) (R := rSe f T) (fun _ => sim_se f T 0 q3)).cases with ⟨v4, q4, a4, b4⟩ | ⟨c, a, b, hc, hn⟩
  rotate_left
  · refine .inr ⟨c, ?_, hc, fun k => ?_⟩
    · simp only [fEnd, fEdges, e0, e1, e2, hd0, if_true, b1, b2, b3, fUe_idle hn, fSe_idle hn, fPlain_idle hn, fFlag_idle hn, fAsk_idle hn, fList_idle hn, fCounted_idle hn, ite_self]
      exact b
    · simp only [cEnd, hd0, Bool.true_and, rIf_true, a1, a2, a3, a, err_then, Zp.then_ok]
  refine .inl ⟨v1, v2, v3, v4, q4, ?_, fun k => ?_⟩
  · simp only [fEnd, fEdges, e0, e1, e2, hd0, if_true, b1, b2, b3, b4]
  · simp only [cEnd, hd0, Bool.true_and, rIf_true, a1, a2, a3, a4, Zp.then_ok]

end
end Go.Proofs.YthcbgijmnonckaaGreat
