/- Layer 4: a header's bits are few. -/
import Derived.Test.YthcbgijmnonckaaGreatHB
namespace Go.Proofs.YthcbgijmnonckaaGreat
open Go.RowKit Zo Zp
set_option linter.unusedVariables false

theorem ue61B {x : Nat} (h : x ≤ 2147483646) : (ueB x).length ≤ 61 := (ueB_length x h).2
theorem se61B {x : Int} (h : -1000 ≤ x ∧ x ≤ 1000) : (seB x).length ≤ 61 := by
  unfold seB foldedN
  repeat' split
  all_goals exact ue61B (by omega)
theorem if_lenB {c : Bool} {a : List Bool} {n : Nat} (h : c = true → a.length ≤ n) : (if c = true then a else []).length ≤ n := by
  cases c
  · simp
  · exact h rfl
theorem flat_lenB {α : Type} {f : α → List Bool} {c : Nat} : ∀ (l : List α), (∀ x ∈ l, (f x).length ≤ c) → (l.flatMap f).length ≤ l.length * c
  | [], _ => by simp
  | x :: r, h => by
    have h1 := h x (by simp)
    have h2 := flat_lenB r (fun y hy => h y (by simp [hy]))
    simp only [List.flatMap_cons, List.length_append, List.length_cons, Nat.add_mul]
    omega
theorem mods_lenB {l : List ModN} (h : ∀ m ∈ l, m.may) (hl : l.length ≤ 16) : (modsB l).length ≤ 4000 := by
  have h1 := flat_lenB (f := modB) (c := 122) l (fun m hm => by
    obtain ⟨a, b⟩ := h m hm
    simp only [inZ] at a b
    simp only [modB, List.length_append]
    have := ue61B (x := m.kind.toNat) (by omega)
    have := ue61B (x := m.v.toNat) (by omega)
    omega)
  have := ue61B (x := l.length) (by omega)
  simp only [modsB, List.length_append]
  omega
theorem weights_lenB {l : List WeightN} (h : ∀ m ∈ l, m.may) (hl : l.length ≤ 16) : (l.flatMap weightB).length ≤ 8000 := by
  have h1 := flat_lenB (f := weightB) (c := 366) l (fun m hm => by
    obtain ⟨a, b, c, d, e, f⟩ := h m hm
    simp only [inZ] at a b c d e f
    simp only [weightB, List.length_append]
    have := se61B (x := m.s0) (by omega)
    have := se61B (x := m.s1) (by omega)
    have := se61B (x := m.s2) (by omega)
    have := se61B (x := m.o0) (by omega)
    have := se61B (x := m.o1) (by omega)
    have := se61B (x := m.o2) (by omega)
    omega)
  omega
theorem ops_lenB {l : List OpN} (h : ∀ m ∈ l, m.may) (hl : l.length ≤ 16) : (opsB l).length ≤ 4000 := by
  have h1 := flat_lenB (f := opB) (c := 183) l (fun m hm => by
    obtain ⟨a, b, c, _, _⟩ := h m hm
    simp only [inZ] at a b c
    simp only [opB, List.length_append]
    have := ue61B (x := m.kind.toNat) (by omega)
    have := if_lenB (c := hasAN m.kind) (fun _ => ue61B (x := m.a.toNat) (by omega))
    have := if_lenB (c := hasBN m.kind) (fun _ => ue61B (x := m.b.toNat) (by omega))
    omega)
  have := ue61B (x := l.length) (by omega)
  simp only [opsB, List.length_append]
  omega

set_option maxHeartbeats 1000000 in
theorem head_len {h : HeadN} {s : SpsN} {p : PpsN} {ref : Int} {key : Bool} (hm : headMay h s p ref key) : (headB h s p ref key).length ≤ 50000 := by
  obtain ⟨hs, hp, hr, hf, h0, h1, hw, hk, he⟩ := hm
  have B : (beginB h s key).length ≤ 1000 := by
    obtain ⟨w1, w2, g1, g2, fb1, fb2, pb1, pb2, _⟩ := hs
    obtain ⟨f0, f1, f2, ty, _, _, _, id, _, _, _, _⟩ := hf
    have hr : s.wide * s.high ≤ 8 * 8 := Int.mul_le_mul w2 g2 (by omega) (by omega)
    simp only [inZ] at ty id
    have := ue61B (x := h.first.toNat) (by omega)
    have := ue61B (x := (h.count - 1).toNat) (by omega)
    have := ue61B (x := h.type.toNat) (by omega)
    have := if_lenB (c := key) (fun _ => ue61B (x := h.id.toNat) (by omega))
    have := if_lenB (c := (s.ptype == 0)) (a := digs s.pbits.toNat h.poc.toNat) (n := 8) (fun _ => by rw [digs_length]; omega)
    simp only [beginB, List.length_append, digs_length]
    omega
  have L : (listsB h).length ≤ 10000 := by
    have a0 : h.act0 ≤ 8 := by
      unfold mayList at h0
      split at h0
      · exact h0.1.2
      · rw [h0.1]; decide
    have a1 : h.act1 ≤ 8 := by
      unfold mayList at h1
      split at h1
      · exact h1.1.2
      · rw [h1.1]; decide
    have := if_lenB (c := (h.type == 1)) (a := digs 1 h.spatial.toNat) (n := 8) (fun _ => by rw [digs_length]; omega)
    have := if_lenB (c := (h.type != 2)) (fun _ => ue61B (x := (h.act0 - 1).toNat) (by omega))
    have := if_lenB (c := (h.type == 1)) (fun _ => ue61B (x := (h.act1 - 1).toNat) (by omega))
    have := if_lenB (c := (h.type != 2)) (a := modsB h.mods0) (n := 4000) (fun e => by rw [e] at h0; exact mods_lenB h0.2.2 h0.2.1)
    have := if_lenB (c := (h.type == 1)) (a := modsB h.mods1) (n := 4000) (fun e => by rw [e] at h1; exact mods_lenB h1.2.2 h1.2.1)
    simp only [listsB, List.length_append]
    omega
  have W : (weighB h p).length ≤ 20000 := by
    have a0 : h.act0 ≤ 8 := by
      unfold mayList at h0
      split at h0
      · exact h0.1.2
      · rw [h0.1]; decide
    have a1 : h.act1 ≤ 8 := by
      unfold mayList at h1
      split at h1
      · exact h1.1.2
      · rw [h1.1]; decide
    cases e : weighsN h.type p
    · simp [weighB, e]
    · rw [e] at hw
      obtain ⟨l0, l1, n0, n1, m0, m1⟩ := hw
      simp only [inZ] at l0 l1
      have := ue61B (x := h.log.toNat) (by omega)
      have := ue61B (x := h.logc.toNat) (by omega)
      have := weights_lenB m0 (by omega)
      have := weights_lenB m1 (by omega)
      simp only [weighB, e, if_true, List.length_append]
      omega
  have M : (marksB h ref key).length ≤ 5000 := by
    obtain ⟨_, _, k3, k4⟩ := hk
    have := if_lenB (c := (decide (0 < ref) && key)) (a := digs 1 h.longkey.toNat) (n := 8) (fun _ => by rw [digs_length]; omega)
    have := if_lenB (c := (decide (0 < ref) && !key)) (fun _ => ops_lenB k4 k3)
    simp only [marksB, List.length_append]
    omega
  have E : (edgesB h p).length ≤ 1000 := by
    obtain ⟨e1, _, e3, e4, _⟩ := he
    simp only [inZ] at e1 e3 e4
    have := ue61B (x := h.qp.toNat) (by omega)
    have := if_lenB (c := p.deblock) (a := digs 1 h.off.toNat) (n := 8) (fun _ => by rw [digs_length]; omega)
    have := if_lenB (c := (p.deblock && !h.off)) (fun _ => se61B (x := h.a) (by omega))
    have := if_lenB (c := (p.deblock && !h.off)) (fun _ => se61B (x := h.b) (by omega))
    simp only [edgesB, List.length_append]
    omega
  simp only [headB, List.length_append]
  omega
end Go.Proofs.YthcbgijmnonckaaGreat
