/- Layer 4: the walk from fields to bits, as plain mathematics: what it leaves is a header's bits. -/
import Derived.Test.YthcbgijmnonckaaGreatJG
namespace Go.Proofs.YthcbgijmnonckaaGreat
open Go.RowKit Zo Zp
set_option linter.unusedVariables false
set_option linter.unusedSimpArgs false

/-- A piece of the walk writes these bits, and leaves what it walks. -/
def Puts {α : Type} (f : α → Ws Wbits → α × Ws Wbits) (x : α) (B : List Bool) : Prop := ∀ b q, ∃ q', f x ⟨0, b, q⟩ = (x, ⟨0, b ++ B, q'⟩)

theorem puts_ue {x least : Int} (h0 : 0 ≤ x - least) (h1 : x - least ≤ 2147483646) : Puts (fun x s => fUe writeF x least s) x (ueB (x - least).toNat) := fun b q => by
  refine ⟨q - 1, ?_⟩
  have e : IntKind.i64.wrap (x - least) = x - least := by rw [IntKind.wrap_i64]; omega
  have e2 : writeF.ue x least (b, q) = (x, wrote (ueAns (x - least)) (b, q)) := by rw [← congrArg ueAns e]; rfl
  simp only [fUe, if_true, e2, stepW, wrote, ueAns, if_pos (And.intro h0 h1), decide_true]

theorem puts_se {x : Int} (h0 : -1073741823 ≤ x) (h1 : x ≤ 1073741823) : Puts (fun x s => fSe writeF x s) x (seB x) := fun b q => by
  refine ⟨q - 1, ?_⟩
  have e2 : writeF.se x (b, q) = (x, wrote (seAns x) (b, q)) := rfl
  simp only [fSe, if_true, e2, stepW, wrote, seAns, if_pos (And.intro h0 h1), decide_true]

theorem puts_plain {x n : Int} (hn0 : 0 ≤ n) (hn : n ≤ 32) (h0 : 0 ≤ x) (h1 : x < 2 ^ n.toNat) : Puts (fun x s => fPlain writeF x n s) x (digs n.toNat x.toNat) := fun b q => by
  refine ⟨q - 1, ?_⟩
  have hx : x.toNat < 2 ^ n.toNat := by
    have e : ((2 ^ n.toNat : Nat) : Int) = 2 ^ n.toNat := by rw [Int.natCast_pow]; rfl
    omega
  have e2 : writeF.plain x n (b, q) = (x, wrote (bitsAns x n) (b, q)) := rfl
  have hc : 0 ≤ n ∧ n ≤ 32 ∧ 0 ≤ x ∧ x.toNat < 2 ^ n.toNat := ⟨hn0, hn, h0, hx⟩
  simp only [fPlain, if_true, e2, stepW, wrote, bitsAns, if_pos hc, decide_true]

theorem puts_flag (x : Bool) : Puts (fun x s => fFlag writeF x s) x (digs 1 x.toNat) := fun b q => ⟨q - 1, by cases x <;> rfl⟩

theorem puts_if {α : Type} {f : α → Ws Wbits → α × Ws Wbits} {x : α} {B : List Bool} {c : Bool} (h : c = true → Puts f x B) : Puts (fun x s => if c = true then f x s else (x, s)) x (if c = true then B else []) := fun b q => by
  cases c
  · exact ⟨q, by simp⟩
  · exact h rfl b q

theorem ask_yes {s : Ws Wbits} : fAsk true s = s := if_neg (fun e => by cases e.2)

theorem puts_many {α : Type} {item : α → Ws Wbits → α × Ws Wbits} {bits : α → List Bool} : ∀ (l : List α), (∀ x ∈ l, Puts item x (bits x)) → Puts (fMany item) l (l.flatMap bits)
  | [], _ => fun b q => ⟨q, by simp [fMany]⟩
  | x :: l, h => fun b q => by
    obtain ⟨q1, e1⟩ := h x (by simp) b q
    obtain ⟨q2, e2⟩ := puts_many l (fun y hy => h y (by simp [hy])) (b ++ bits x) q1
    refine ⟨q2, ?_⟩
    simp only [fMany]
    rw [e1]
    simp only
    rw [e2]
    simp

theorem puts_list {α : Type} {zero : α} {item : α → Ws Wbits → α × Ws Wbits} {bits : α → List Bool} {l : List α} {n : Int} (hn : n ≤ l.length) (h : ∀ x ∈ l, Puts item x (bits x)) : Puts (fun l s => fList zero item n l s) l (l.flatMap bits) := fun b q => by
  obtain ⟨q1, e1⟩ := puts_many l h b q
  refine ⟨q1, ?_⟩
  simp only [fList, if_true]
  rw [enough, if_neg (by omega), e1]

theorem puts_counted {α : Type} {zero : α} {item : α → Ws Wbits → α × Ws Wbits} {bits : α → List Bool} {l : List α} (hl : l.length ≤ 16) (h : ∀ x ∈ l, Puts item x (bits x)) : Puts (fun l s => fCounted writeF zero item 16 l s) l (ueB l.length ++ l.flatMap bits) := fun b q => by
  obtain ⟨q1, e1⟩ := puts_ue (x := (l.length : Int)) (least := 0) (by omega) (by omega) b q
  simp only [Int.sub_zero, Int.toNat_natCast] at e1
  obtain ⟨q2, e2⟩ := puts_list (zero := zero) (n := (l.length : Int)) (Int.le_refl _) h (b ++ ueB l.length) q1
  refine ⟨q2, ?_⟩
  simp only at e2
  simp only [fCounted, e1]
  rw [decide_eq_true (by omega), ask_yes, e2, List.append_assoc]

theorem puts_mod {m : ModN} (hm : m.may) : Puts (fMod writeF) m (modB m) := fun b q => by
  obtain ⟨⟨a1, a2⟩, b1, b2⟩ := hm
  obtain ⟨q1, e1⟩ := puts_ue (x := m.kind) (least := 0) (by omega) (by omega) b q
  obtain ⟨q2, e2⟩ := puts_ue (x := m.v) (least := 0) (by omega) (by omega) (b ++ ueB (m.kind - 0).toNat) q1
  simp only [Int.sub_zero] at e1 e2
  refine ⟨q2, ?_⟩
  simp only [fMod, e1, e2]
  simp only [modB, List.append_assoc]

theorem puts_weight {m : WeightN} (hm : m.may) : Puts (fWeight writeF) m (weightB m) := fun b q => by
  obtain ⟨⟨a1, a2⟩, ⟨b1, b2⟩, ⟨c1, c2⟩, ⟨d1, d2⟩, ⟨f1, f2⟩, g1, g2⟩ := hm
  obtain ⟨q1, e1⟩ := puts_se (x := m.s0) (by omega) (by omega) b q
  obtain ⟨q2, e2⟩ := puts_se (x := m.o0) (by omega) (by omega) (b ++ seB m.s0) q1
  obtain ⟨q3, e3⟩ := puts_se (x := m.s1) (by omega) (by omega) (b ++ seB m.s0 ++ seB m.o0) q2
  obtain ⟨q4, e4⟩ := puts_se (x := m.o1) (by omega) (by omega) (b ++ seB m.s0 ++ seB m.o0 ++ seB m.s1) q3
  obtain ⟨q5, e5⟩ := puts_se (x := m.s2) (by omega) (by omega) (b ++ seB m.s0 ++ seB m.o0 ++ seB m.s1 ++ seB m.o1) q4
  obtain ⟨q6, e6⟩ := puts_se (x := m.o2) (by omega) (by omega) (b ++ seB m.s0 ++ seB m.o0 ++ seB m.s1 ++ seB m.o1 ++ seB m.s2) q5
  refine ⟨q6, ?_⟩
  simp only at e1 e2 e3 e4 e5 e6
  simp only [fWeight, e1, e2, e3, e4, e5, e6]
  simp only [weightB, List.append_assoc]

theorem puts_op {m : OpN} (hm : m.may) : Puts (fOp writeF) m (opB m) := fun b q => by
  obtain ⟨⟨a1, a2⟩, ⟨b1, b2⟩, ⟨c1, c2⟩, d1, d2⟩ := hm
  obtain ⟨q1, e1⟩ := puts_ue (x := m.kind) (least := 0) (by omega) (by omega) b q
  have k1 : anyKind m.kind = true := by simp [anyKind, a1, a2]
  have k2 : anyA m.kind = hasAN m.kind := by simp [anyA, k1, hasAN]
  obtain ⟨q2, e2⟩ := puts_if (c := hasAN m.kind) (fun _ => puts_ue (x := m.a) (least := 0) (by omega) (by omega)) (b ++ ueB (m.kind - 0).toNat) q1
  obtain ⟨q3, e3⟩ := puts_if (c := hasBN m.kind) (fun _ => puts_ue (x := m.b) (least := 0) (by omega) (by omega)) (b ++ ueB (m.kind - 0).toNat ++ (if hasAN m.kind = true then ueB (m.a - 0).toNat else [])) q2
  simp only [Int.sub_zero] at e1 e2 e3
  refine ⟨q3, ?_⟩
  simp only [fOp, e1, k1, ask_yes, k2]
  rw [e2]
  simp only [show anyB m.kind = hasBN m.kind from rfl]
  rw [e3]
  simp only [opB, List.append_assoc]

theorem puts_begin {h : HeadN} {s : SpsN} {key : Bool} (hs : s.may) (hm : mayFirsts h s key) : Puts (fBegin writeF s key) h (beginB h s key) := fun b q => by
  obtain ⟨f1, f2, f3, ⟨f4, f5⟩, f6, ⟨f7, f8⟩, f9, ⟨f10, f11⟩, f12, ⟨f13, f14⟩, f15, f16⟩ := hm
  obtain ⟨u1, u2, u3, u4, u5, u6, u7, u8, _⟩ := hs
  have hroom : s.wide * s.high ≤ 64 := Int.mul_le_mul u2 u4 (by omega) (by omega)
  obtain ⟨q1, e1⟩ := puts_ue (x := h.first) (least := 0) (by omega) (by omega) b q
  obtain ⟨q2, e2⟩ := puts_ue (x := h.count) (least := 1) (by omega) (by omega) (b ++ ueB (h.first - 0).toNat) q1
  obtain ⟨q3, e3⟩ := puts_ue (x := h.type) (least := 0) (by omega) (by omega) (b ++ ueB (h.first - 0).toNat ++ ueB (h.count - 1).toNat) q2
  obtain ⟨q4, e4⟩ := puts_plain (x := h.fnum) (n := s.fbits) (by omega) (by omega) f7 (by omega) (b ++ ueB (h.first - 0).toNat ++ ueB (h.count - 1).toNat ++ ueB (h.type - 0).toNat) q3
  obtain ⟨q5, e5⟩ := puts_if (c := key) (fun _ => puts_ue (x := h.id) (least := 0) (by omega) (by omega)) (b ++ ueB (h.first - 0).toNat ++ ueB (h.count - 1).toNat ++ ueB (h.type - 0).toNat ++ digs s.fbits.toNat h.fnum.toNat) q4
  obtain ⟨q6, e6⟩ := puts_if (c := s.ptype == 0) (fun _ => puts_plain (x := h.poc) (n := s.pbits) (by omega) (by omega) f13 (by omega)) (b ++ ueB (h.first - 0).toNat ++ ueB (h.count - 1).toNat ++ ueB (h.type - 0).toNat ++ digs s.fbits.toNat h.fnum.toNat ++ (if key = true then ueB (h.id - 0).toNat else [])) q5
  simp only [Int.sub_zero] at e1 e2 e3 e4 e5 e6
  refine ⟨q6, ?_⟩
  simp only [fBegin, e1, e2, e3, decide_eq_true f5, ask_yes, e4]
  rw [e5]
  simp only
  rw [e6]
  simp only [beginB, List.append_assoc]

theorem first_is {h : HeadN} (h0 : 0 ≤ h.type) (h2 : h.type ≤ 2) : oneFirst h.type = (h.type != 2) := by
  unfold oneFirst
  rcases (show h.type = 0 ∨ h.type = 1 ∨ h.type = 2 by omega) with e | e | e <;> rw [e] <;> rfl

theorem puts_lists {h : HeadN} (h0 : 0 ≤ h.type) (h2 : h.type ≤ 2) (hm0 : mayList h.act0 h.mods0 (h.type != 2)) (hm1 : mayList h.act1 h.mods1 (h.type == 1)) : Puts (fLists writeF) h (listsB h) := fun b q => by
  have ha0 : h.act0 ≤ 8 := by
    unfold mayList at hm0
    split at hm0
    · exact hm0.1.2
    · rw [hm0.1]; omega
  have ha1 : h.act1 ≤ 8 := by
    unfold mayList at hm1
    split at hm1
    · exact hm1.1.2
    · rw [hm1.1]; omega
  obtain ⟨q1, e1⟩ := puts_if (c := h.type == 1) (fun _ => puts_flag h.spatial) b q
  obtain ⟨B1, hB1⟩ : ∃ B, b ++ (if (h.type == 1) = true then digs 1 h.spatial.toNat else []) = B := ⟨_, rfl⟩
  obtain ⟨q2, e2⟩ := puts_if (c := h.type != 2) (fun e => puts_ue (x := h.act0) (least := 1) (by rw [mayList, if_pos e] at hm0; have := hm0.1.1; omega) (by omega)) B1 q1
  obtain ⟨B2, hB2⟩ : ∃ B, B1 ++ (if (h.type != 2) = true then ueB (h.act0 - 1).toNat else []) = B := ⟨_, rfl⟩
  obtain ⟨q3, e3⟩ := puts_if (c := h.type == 1) (fun e => puts_ue (x := h.act1) (least := 1) (by rw [mayList, if_pos e] at hm1; have := hm1.1.1; omega) (by omega)) B2 q2
  obtain ⟨B3, hB3⟩ : ∃ B, B2 ++ (if (h.type == 1) = true then ueB (h.act1 - 1).toNat else []) = B := ⟨_, rfl⟩
  obtain ⟨q4, e4⟩ := puts_if (c := h.type != 2) (fun e => by rw [mayList, if_pos e] at hm0; exact puts_counted (zero := ModN.zero) hm0.2.1 (fun x hx => puts_mod (hm0.2.2 x hx))) B3 q3
  obtain ⟨B4, hB4⟩ : ∃ B, B3 ++ (if (h.type != 2) = true then ueB h.mods0.length ++ h.mods0.flatMap modB else []) = B := ⟨_, rfl⟩
  obtain ⟨q5, e5⟩ := puts_if (c := h.type == 1) (fun e => by rw [mayList, if_pos e] at hm1; exact puts_counted (zero := ModN.zero) hm1.2.1 (fun x hx => puts_mod (hm1.2.2 x hx))) B4 q4
  rw [hB1] at e1
  rw [hB2] at e2
  rw [hB3] at e3
  rw [hB4] at e4
  refine ⟨q5, ?_⟩
  simp only at e1 e2 e3 e4 e5
  simp only [fLists, first_is h0 h2]
  rw [e1]
  simp only
  rw [e2]
  simp only
  rw [e3]
  simp only [decide_eq_true ha0, decide_eq_true ha1, Bool.and_self, ask_yes]
  rw [e4]
  simp only
  rw [e5]
  simp only [← hB4, ← hB3, ← hB2, ← hB1, listsB, modsB, List.append_assoc]

theorem puts_weights {h : HeadN} (hm : mayWeights h true) : Puts (fWeights writeF) h (ueB h.log.toNat ++ (ueB h.logc.toNat ++ (h.w0.flatMap weightB ++ h.w1.flatMap weightB))) := fun b q => by
  rw [mayWeights, if_pos rfl] at hm
  obtain ⟨⟨a1, a2⟩, ⟨b1, b2⟩, c, d, f, g⟩ := hm
  obtain ⟨q1, e1⟩ := puts_ue (x := h.log) (least := 0) (by omega) (by omega) b q
  obtain ⟨q2, e2⟩ := puts_ue (x := h.logc) (least := 0) (by omega) (by omega) (b ++ ueB (h.log - 0).toNat) q1
  obtain ⟨q3, e3⟩ := puts_list (zero := WeightN.zero) (n := h.act0) (l := h.w0) (by omega) (fun x hx => puts_weight (f x hx)) (b ++ ueB (h.log - 0).toNat ++ ueB (h.logc - 0).toNat) q2
  obtain ⟨q4, e4⟩ := puts_list (zero := WeightN.zero) (n := h.act1) (l := h.w1) (by omega) (fun x hx => puts_weight (g x hx)) (b ++ ueB (h.log - 0).toNat ++ ueB (h.logc - 0).toNat ++ h.w0.flatMap weightB) q3
  simp only [Int.sub_zero] at e1 e2 e3 e4
  refine ⟨q4, ?_⟩
  simp only [fWeights, e1, e2, e3, e4]
  simp only [List.append_assoc]

theorem puts_marks {h : HeadN} {ref : Int} {key : Bool} (hm : mayMarks h ref key) : Puts (fMarks writeF ref key) h (marksB h ref key) := fun b q => by
  obtain ⟨_, _, k3, k4⟩ := hm
  obtain ⟨q1, e1⟩ := puts_if (c := key && decide (0 < ref)) (fun _ => puts_flag h.longkey) b q
  obtain ⟨q2, e2⟩ := puts_if (c := !key && decide (0 < ref)) (fun _ => puts_counted (zero := OpN.zero) k3 (fun x hx => puts_op (k4 x hx))) (b ++ (if (key && decide (0 < ref)) = true then digs 1 h.longkey.toNat else [])) q1
  refine ⟨q2, ?_⟩
  simp only at e1 e2
  simp only [fMarks]
  rw [e1]
  simp only
  rw [e2]
  simp only [marksB, opsB, Bool.and_comm, List.append_assoc]

theorem puts_end {h : HeadN} {p : PpsN} (hm : mayEdges h p) : Puts (fEnd writeF p) h (edgesB h p) := fun b q => by
  obtain ⟨⟨a1, a2⟩, a3, ⟨a4, a5⟩, ⟨a6, a7⟩, _⟩ := hm
  obtain ⟨q1, e1⟩ := puts_ue (x := h.qp) (least := 0) (by omega) (by omega) b q
  simp only [Int.sub_zero] at e1
  simp only [fEnd, e1, edgesB]
  cases hd : p.deblock
  · exact ⟨q1, by simp⟩
  · obtain ⟨q2, e2⟩ := puts_flag h.off (b ++ ueB h.qp.toNat) q1
    obtain ⟨q3, e3⟩ := puts_if (c := !h.off) (fun _ => puts_se (x := h.a) (by omega) (by omega)) (b ++ ueB h.qp.toNat ++ digs 1 h.off.toNat) q2
    obtain ⟨q4, e4⟩ := puts_if (c := !h.off) (fun _ => puts_se (x := h.b) (by omega) (by omega)) (b ++ ueB h.qp.toNat ++ digs 1 h.off.toNat ++ (if (!h.off) = true then seB h.a else [])) q3
    refine ⟨q4, ?_⟩
    simp only at e2 e3 e4
    simp only [if_true, fEdges, e2]
    rw [e3]
    simp only
    rw [e4]
    simp only [Bool.true_and, List.append_assoc]

/-- The walk writes a header's bits. -/
theorem puts_head {h : HeadN} {s : SpsN} {p : PpsN} {ref : Int} {key : Bool} (hm : headMay h s p ref key) : Puts (fHead writeF s p ref key) h (headB h s p ref key) := fun b q => by
  obtain ⟨ms, mp, mr, mf, ml0, ml1, mw, mk, me⟩ := hm
  obtain ⟨_, _, _, ⟨f4, f5⟩, _⟩ := id mf
  obtain ⟨q1, e1⟩ := puts_begin ms mf b q
  obtain ⟨q2, e2⟩ := puts_lists f4 f5 ml0 ml1 (b ++ beginB h s key) q1
  have hw : ∃ q3, (if weighsN h.type p = true then fWeights writeF h ⟨0, b ++ beginB h s key ++ listsB h, q2⟩ else (h, ⟨0, b ++ beginB h s key ++ listsB h, q2⟩)) = (h, ⟨0, b ++ beginB h s key ++ listsB h ++ weighB h p, q3⟩) := by
    cases hv : weighsN h.type p
    · exact ⟨q2, by simp [weighB, hv]⟩
    · rw [hv] at mw
      obtain ⟨q3, e3⟩ := puts_weights mw (b ++ beginB h s key ++ listsB h) q2
      exact ⟨q3, by simp only [if_true, e3, weighB, hv]⟩
  obtain ⟨q3, e3⟩ := hw
  obtain ⟨q4, e4⟩ := puts_marks mk (b ++ beginB h s key ++ listsB h ++ weighB h p) q3
  obtain ⟨q5, e5⟩ := puts_end me (b ++ beginB h s key ++ listsB h ++ weighB h p ++ marksB h ref key) q4
  refine ⟨q5, ?_⟩
  simp only [fHead, e1, e2]
  rw [e3]
  simp only [e4, e5]
  simp only [headB, List.append_assoc]
end Go.Proofs.YthcbgijmnonckaaGreat
