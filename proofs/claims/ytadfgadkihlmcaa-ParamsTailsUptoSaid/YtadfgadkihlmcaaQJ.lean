/- Layer 3: the document's own GetSps. -/
import Derived.Test.YtadfgadkihlmcaaQI
namespace Go.Proofs.Ytadfgadkihlmcaa
open Go.RowKit Zo Zp

/-- Integers that the call has collected. -/
def Own3 (w : World) (base : Nat) (v : Value) (l : List Int) : Prop := w.ownsRow base 3 1 v l.length (iv l)

theorem Own3.shape {w : World} {base : Nat} {v : Value} {l : List Int} (h : Own3 w base v l) : ∃ a cap, v = .slice a l.length cap ∧ IntRow w a l ∧ (a = none → l = [] ∧ cap = 0) ∧ ∀ x, a = some x → base ≤ x.block ∧ ∃ cs, w.heap[x.block]? = some (.cells cs 3 (0, 0)) := by
  rcases h.2 with ⟨hv, h0⟩ | ⟨g, cap, cur, hv, hb, hg, _⟩
  · have e : l = [] := List.eq_nil_of_length_eq_zero h0
    subst e
    exact ⟨none, 0, hv, IntRow.nil _ _, (fun _ => ⟨rfl, rfl⟩), (fun x hx => by cases hx)⟩
  · subst hv
    exact ⟨_, cap, rfl, IntRow.of_own h, (fun e => by cases e), fun x hx => by cases hx; exact ⟨hb, _, hg⟩⟩

theorem Own3.block {w : World} {base : Nat} {v : Value} {l : List Int} (h : Own3 w base v l) : ∀ k, v.ownBlock = some k → base ≤ k ∧ ∃ cs, w.heap[k]? = some (.cells cs 3 (0, 0)) := by
  intro k hk
  rcases h.2 with ⟨rfl, _⟩ | ⟨g, cap, cur, rfl, hb, hg, _⟩
  · simp [Value.ownBlock] at hk
  · obtain rfl : g = k := by simpa [Value.ownBlock] using hk
    exact ⟨hb, _, hg⟩

theorem Own3.keep {S : Nat → Prop} {w w' : World} {base : Nat} {v : Value} {l : List Int} (h : Own3 w base v l) (f : Fr S w w') (hS : ∀ k cs, w.heap[k]? = some (.cells cs 3 (0, 0)) → ¬ S k) : Own3 w' base v l :=
  ownsRow_fr h f (fun k e => by obtain ⟨_, cs, hc⟩ := h.block k e; exact hS k cs hc)

section
variable {W wr w' : World} {T : TypeId} {ob b rb sb : Nat} {l : List Bool} {st : Option Nat} {zs cs : Array Value}

theorem Gt.other {S : Nat → Prop} (h : Gt W wr T ob b rb sb l st zs cs) (f : Fr S wr w') (hT : T ≠ 3) (hS : ∀ k, S k → k < wr.heap.size → W.heap.size ≤ k ∧ ∃ cs, wr.heap[k]? = some (.cells cs 3 (0, 0))) : Gt W w' T ob b rb sb l st zs cs := by
  obtain ⟨h1, h2, h3, h4, h5, h6⟩ := h
  have no : ∀ k a t, wr.heap[k]? = some (.cells a t (0, 0)) → t ≠ 3 → ¬ S k := fun k a t hk hne hs => by
    obtain ⟨_, cs, hc⟩ := hS k hs (row_lt hk)
    exact ne_of_type hk hc hne rfl
  refine ⟨h1.keep f (fun _ _ hk => no _ _ _ hk (by decide)) (fun _ _ hk => no _ _ _ hk (by decide)) (fun _ _ hk => no _ _ _ hk (by decide)), (f.block sb (row_lt h2) (no _ _ _ h2 hT)).trans h2, (f.block ob (row_lt h3) (no _ _ _ h3 hT)).trans h3, h4, ?_, h6⟩
  refine ⟨f.os.trans h5.os, f.tape.trans h5.tape, f.output.trans h5.output, Nat.le_trans h5.size f.size, fun i hi => (f.block i (Nat.lt_of_lt_of_le hi h5.size) (fun hs => ?_)).trans (h5.block i hi)⟩
  have := (hS i hs (Nat.lt_of_lt_of_le hi h5.size)).1
  omega

theorem Gt.own_call {st' : Option Nat} {v cv : Value} {cy : List Int} {e : Ending} (h : Gt W wr T ob b rb sb l st zs cs) (p : SPost wr W.heap.size b rb l v st' e w') (o : Own3 wr W.heap.size cv cy) : Own3 w' W.heap.size cv cy := by
  obtain ⟨⟨rc, hrc⟩, _⟩ := h.1.reader
  refine o.keep p.2.2 (fun _ _ hk => ?_)
  rintro (e | e)
  · exact ne_of_type hk h.1.1 (by decide) e
  · exact ne_of_type hk hrc (by decide) e

theorem Gt.own_set {cv : Value} {cy : List Int} (h : Gt W wr T ob b rb sb l st zs cs) (hT : T ≠ 3) (i : Nat) (u : Value) (o : Own3 wr W.heap.size cv cy) : Own3 (wr.setCell ⟨sb, i, none⟩ u) W.heap.size cv cy :=
  o.keep (S := fun k => k = sb) (Fr.setCell (S := fun k => k = sb) (Fr.refl _ _) (fun _ => rfl) u) (fun _ _ hk e => ne_of_type h.2.1 hk hT e.symm)
end

/-- append of an integer onto those that are collected. -/
theorem wpList_append_int {ops : Array Oper} {rest : List Oper} {o : Oper} {a : Act} {Q : Exit → Act → World → Prop} (hgd : o.guard = none) (s x : Operand)
    (ho : o.op = .call { callee := .builtin .append, args := #[s, x], argTypes := #[22, 22] })
    (base : Nat) (v : Value) (l : List Int) (hs : a.eval s = v) {w0 : World} {z : Int} (hown : Own3 w0 base v l) (hb : base ≤ w0.heap.size) (hl : l.length ≤ 1000000)
    (hx : a.eval x = .slice (some ⟨w0.heap.size, 0, none⟩) 1 1)
    (h : ∀ g cap w', Own3 w' base (.slice (some ⟨g, 0, none⟩) (l.length + 1) cap) (l ++ [z]) → Fr (fun k => v.ownBlock = some k) w0 w' → wpList Try.prog ops Q rest (a.put o.dst (.slice (some ⟨g, 0, none⟩) (l.length + 1) cap)) w') : wpList Try.prog ops Q (o :: rest) a (w0.alloc (.cells #[.int .i64 z] 3)) := by
  obtain ⟨i0, hi, hz0, hz1, hz2⟩ := info_parts info3
  refine wpList_append_lies _ hgd s x 22 ho base 3 i0 (.int .i64 0) 1 8 Try.underlying22 hi hz0 hz1 hz2 rfl (by decide) v l.length (iv l) hs (World.ownsRow.alloc hown _) ⟨w0.heap.size, 0, none⟩ 1 1 [.int .i64 z] hx rfl (cell_one_new _ _ _) (by simp [Value.oneCell']) (by decide) (by unfold maxLen; omega) (by omega) (by simp; omega) _ rfl ?_
  intro g' cap' w' hown' hgrow' hat' hlt'
  refine h _ _ w' ?_ (((Fr.refl _ _).alloc _).grown hgrow' (fun k _ e => e))
  unfold Own3
  rw [iv_append, List.length_append]
  exact hown'

theorem sUe_bad_zero {f : Nat → Bool} {T x : Nat} {st : Option Nat} (h : sUe f T st = (x, none)) : x = 0 := by
  cases st with
  | none => rw [sUe_none] at h; exact (congrArg Prod.fst h).symm
  | some p => cases hp : pUe f T p with
    | none => rw [sUe_bad hp] at h; exact (congrArg Prod.fst h).symm
    | some y => rw [sUe_good hp] at h; exact absurd (congrArg Prod.snd h) (by simp)

/-- What GetSps answers: the parameters, their Cycle in memory that the call made. -/
def GPost (t : SpsN × Int) (w : World) (e : Ending) (w' : World) : Prop :=
  ∃ a cap, e = .returned (.tuple #[spsV t.1 a cap, .int .i64 t.2]) ∧ IntRow w' a t.1.cycle ∧ (a = none → t.1.cycle = [] ∧ cap = 0) ∧ (∀ x, a = some x → w.heap.size ≤ x.block ∧ ∃ cs t, w'.heap[x.block]? = some (.cells cs t (0, 0))) ∧ Below w.heap.size w w'

set_option maxRecDepth 100000 in
set_option maxHeartbeats 8000000 in
theorem refGetSps_any (s : ByteArray) (w : World) (hs : s.size ≤ 1048576) : Calls Try.prog 14 #[.string s] w (GPost (gotSps (bitAt s) (8 * s.size)) w) := by
  obtain ⟨l, hl⟩ : ∃ l, win (bitAt s) 0 (8 * s.size) = l := ⟨_, rfl⟩
  have hF : bitAt s = fl l := by rw [← hl, fl_win]
  have hT : 8 * s.size = l.length := by rw [← hl, win_length]
  obtain ⟨q, hq⟩ := past_exists s
  have HO : ∀ o, Calls Try.prog 45 #[.string s] (w.alloc o) fun e w' => ∃ v, e = .returned v ∧ NewBits (w.alloc o) w' v l := fun o => by
    have := openRef_any s (w.alloc o) hs
    rwa [hl] at this
  have HOO := Lib.hid HO
  rw [hF, hT] at hq
  rw [gotSps_run, hF, hT]
  have hll : l.length ≤ 1000000000 := by omega
  have hT8 := Lib.hid (show l.length % 8 = 0 by omega)
  have HQ := Lib.hid hq
  clear hF hT hl HO hq
  obtain ⟨⟨x1, t1⟩, h1⟩ : ∃ X, sUe (fl l) l.length (some 0) = X := ⟨_, rfl⟩
  have B1 : x1 ≤ 2147483646 := by have := sUe_le (fl l) l.length (some 0); rw [h1] at this; exact this
  obtain ⟨⟨x2, t2⟩, h2⟩ : ∃ X, sUe (fl l) l.length t1 = X := ⟨_, rfl⟩
  have B2 : x2 ≤ 2147483646 := by have := sUe_le (fl l) l.length t1; rw [h2] at this; exact this
  obtain ⟨⟨x3, t3⟩, h3⟩ : ∃ X, sUe (fl l) l.length t2 = X := ⟨_, rfl⟩
  have B3 : x3 ≤ 2147483646 := by have := sUe_le (fl l) l.length t2; rw [h3] at this; exact this
  obtain ⟨⟨x4, t4⟩, h4⟩ : ∃ X, sUe (fl l) l.length t3 = X := ⟨_, rfl⟩
  have B4 : x4 ≤ 2147483646 := by have := sUe_le (fl l) l.length t3; rw [h4] at this; exact this
  have hrun : runSps (fl l) l.length = sRest (fl l) l.length ((x1 : Int) + 1) ((x2 : Int) + 1) ((x3 : Int) + 4) x4 t4 := by
    simp only [runSps, s4, s3, s2, s1, h1, h2, h3, h4]
  have H1 := Lib.hid h1
  have H2 := Lib.hid h2
  have H3 := Lib.hid h3
  have H4 := Lib.hid h4
  have HR := Lib.hid hrun
  clear hrun h1 h2 h3 h4
  rw [HR.out]
  clear HR
  go_enter Try.func14, Try.ntmps14
  go_wp2_with fail
  refine (HOO.out _).mono ?_
  rintro e w1 ⟨v, rfl, hn⟩
  have K0 := Lib.hid (Gt.start (by decide) hn)
  obtain ⟨g0, cap0, hv, _⟩ := hn
  subst hv
  go_wp2_with fail
  refine (refUe3e _ w.heap.size _ _ l _ K0.out.rd hll H1.out).mono ?_
  rintro e v1 p1
  obtain ⟨d1, g1⟩ := (K0.out.call p1).cell 0 (.int .i64 0) rfl
  have L1 := Lib.hid (K0.out.call p1)
  have K1 : Hid (Gt w (v1.setCell ⟨w1.heap.size + 2, 0, none⟩ (.int .i64 ((x1 : Int) + 1))) 24 w.heap.size (w1.heap.size + 1) w1.heap.size (w1.heap.size + 2) l t1 #[.int .i64 0, .int .i64 0, .int .i64 0, .int .i64 0, .int .i64 0, .int .i64 0, .slice none 0 0, .int .i64 0, .int .i64 0] #[.int .i64 ((x1 : Int) + 1), .int .i64 0, .int .i64 0, .int .i64 0, .int .i64 0, .int .i64 0, .slice none 0 0, .int .i64 0, .int .i64 0]) := L1.out.set 0 (.int .i64 ((x1 : Int) + 1))
  obtain ⟨rfl, _⟩ := p1
  clear K0
  go_wp2_with fail
  refine (refUe3e _ w.heap.size _ _ l _ K1.out.rd hll H2.out).mono ?_
  rintro e v2 p2
  obtain ⟨d2, g2⟩ := (K1.out.call p2).cell 1 (.int .i64 0) rfl
  have L2 := Lib.hid (K1.out.call p2)
  have K2 : Hid (Gt w (v2.setCell ⟨w1.heap.size + 2, 1, none⟩ (.int .i64 ((x2 : Int) + 1))) 24 w.heap.size (w1.heap.size + 1) w1.heap.size (w1.heap.size + 2) l t2 #[.int .i64 0, .int .i64 0, .int .i64 0, .int .i64 0, .int .i64 0, .int .i64 0, .slice none 0 0, .int .i64 0, .int .i64 0] #[.int .i64 ((x1 : Int) + 1), .int .i64 ((x2 : Int) + 1), .int .i64 0, .int .i64 0, .int .i64 0, .int .i64 0, .slice none 0 0, .int .i64 0, .int .i64 0]) := L2.out.set 1 (.int .i64 ((x2 : Int) + 1))
  obtain ⟨rfl, _⟩ := p2
  clear K1
  go_wp2_with fail
  refine (refUe3e _ w.heap.size _ _ l _ K2.out.rd hll H3.out).mono ?_
  rintro e v3 p3
  obtain ⟨d3, g3⟩ := (K2.out.call p3).cell 2 (.int .i64 0) rfl
  have L3 := Lib.hid (K2.out.call p3)
  have K3 : Hid (Gt w (v3.setCell ⟨w1.heap.size + 2, 2, none⟩ (.int .i64 ((x3 : Int) + 4))) 24 w.heap.size (w1.heap.size + 1) w1.heap.size (w1.heap.size + 2) l t3 #[.int .i64 0, .int .i64 0, .int .i64 0, .int .i64 0, .int .i64 0, .int .i64 0, .slice none 0 0, .int .i64 0, .int .i64 0] #[.int .i64 ((x1 : Int) + 1), .int .i64 ((x2 : Int) + 1), .int .i64 ((x3 : Int) + 4), .int .i64 0, .int .i64 0, .int .i64 0, .slice none 0 0, .int .i64 0, .int .i64 0]) := L3.out.set 2 (.int .i64 ((x3 : Int) + 4))
  obtain ⟨rfl, _⟩ := p3
  clear K2
  go_wp2_with fail
  refine (refUe3e _ w.heap.size _ _ l _ K3.out.rd hll H4.out).mono ?_
  rintro e v4 p4
  obtain ⟨d4, g4⟩ := (K3.out.call p4).cell 3 (.int .i64 0) rfl
  have L4 := Lib.hid (K3.out.call p4)
  have K4 : Hid (Gt w (v4.setCell ⟨w1.heap.size + 2, 3, none⟩ (.int .i64 (x4 : Int))) 24 w.heap.size (w1.heap.size + 1) w1.heap.size (w1.heap.size + 2) l t4 #[.int .i64 0, .int .i64 0, .int .i64 0, .int .i64 0, .int .i64 0, .int .i64 0, .slice none 0 0, .int .i64 0, .int .i64 0] #[.int .i64 ((x1 : Int) + 1), .int .i64 ((x2 : Int) + 1), .int .i64 ((x3 : Int) + 4), .int .i64 (x4 : Int), .int .i64 0, .int .i64 0, .slice none 0 0, .int .i64 0, .int .i64 0]) := L4.out.set 3 (.int .i64 (x4 : Int))
  obtain ⟨rfl, _⟩ := p4
  clear K3
  obtain ⟨d41, g41⟩ := K4.out.cell 4 (.int .i64 0) rfl
  obtain ⟨d42, _⟩ := K4.out.cell 3 (.int .i64 (x4 : Int)) rfl
  have KA : Hid (Gt w ((v4.setCell ⟨w1.heap.size + 2, 3, none⟩ (.int .i64 (x4 : Int))).setCell ⟨w1.heap.size + 2, 4, none⟩ (.int .i64 4)) 24 w.heap.size (w1.heap.size + 1) w1.heap.size (w1.heap.size + 2) l t4 #[.int .i64 0, .int .i64 0, .int .i64 0, .int .i64 0, .int .i64 0, .int .i64 0, .slice none 0 0, .int .i64 0, .int .i64 0] #[.int .i64 ((x1 : Int) + 1), .int .i64 ((x2 : Int) + 1), .int .i64 ((x3 : Int) + 4), .int .i64 (x4 : Int), .int .i64 4, .int .i64 0, .slice none 0 0, .int .i64 0, .int .i64 0]) := K4.out.set 4 (.int .i64 4)
  obtain ⟨d43, _⟩ := KA.out.cell 3 (.int .i64 (x4 : Int)) rfl
  have OA := Lib.hid (show Own3 ((v4.setCell ⟨w1.heap.size + 2, 3, none⟩ (.int .i64 (x4 : Int))).setCell ⟨w1.heap.size + 2, 4, none⟩ (.int .i64 4)) w.heap.size (.slice none 0 0) [] from World.ownsRow_nil _ _ _ _)
  clear K4
  go_upto_if 34 with fail
  go_cut [4] (fun r wx => ∃ (st : Option Nat) (pb : Int), r = .pointer (some ⟨w1.heap.size + 1, 0, none⟩) ∧ Aside ((x4 = 0 → sRest (fl l) l.length ((x1 : Int) + 1) ((x2 : Int) + 1) ((x3 : Int) + 4) x4 t4 = sTail (fl l) l.length ((x1 : Int) + 1) ((x2 : Int) + 1) ((x3 : Int) + 4) (x4 : Int) pb 0 [] st) ∧ (x4 ≠ 0 → pb = 4 ∧ st = t4)) ∧ Hid (Gt w (wx) 24 w.heap.size (w1.heap.size + 1) w1.heap.size (w1.heap.size + 2) l st #[.int .i64 0, .int .i64 0, .int .i64 0, .int .i64 0, .int .i64 0, .int .i64 0, .slice none 0 0, .int .i64 0, .int .i64 0] #[.int .i64 ((x1 : Int) + 1), .int .i64 ((x2 : Int) + 1), .int .i64 ((x3 : Int) + 4), .int .i64 (x4 : Int), .int .i64 pb, .int .i64 0, .slice none 0 0, .int .i64 0, .int .i64 0]) ∧ Hid (Own3 wx w.heap.size (.slice none 0 0) []))
  case first =>
    by_cases hx0 : x4 = 0
    · have e0 : ((x4 : Int) == 0) = true := by simp; omega
      obtain ⟨⟨x5, t5⟩, h5⟩ : ∃ X, sUe (fl l) l.length t4 = X := ⟨_, rfl⟩
      have B5 : x5 ≤ 2147483646 := by have := sUe_le (fl l) l.length t4; rw [h5] at this; exact this
      have HS : Hid (sRest (fl l) l.length ((x1 : Int) + 1) ((x2 : Int) + 1) ((x3 : Int) + 4) x4 t4 = sTail (fl l) l.length ((x1 : Int) + 1) ((x2 : Int) + 1) ((x3 : Int) + 4) (x4 : Int) ((x5 : Int) + 4) 0 [] t5) := by
        show _ = _
        rw [hx0]; simp only [sRest, if_true, h5]; rfl
      have H5 := Lib.hid h5
      have HX := Lib.hid hx0
      clear h5 hx0
      go_wp2_with fail
      refine (refUe3e _ w.heap.size _ _ l _ KA.out.rd hll H5.out).mono ?_
      rintro e v5 p5
      obtain ⟨d5, g5⟩ := (KA.out.call p5).cell 4 (.int .i64 4) rfl
      have L5 := Lib.hid (KA.out.call p5)
      have O5 := Lib.hid (L5.out.own_set (by decide) 4 (.int .i64 ((x5 : Int) + 4)) (KA.out.own_call p5 OA.out))
      have K5 : Hid (Gt w (v5.setCell ⟨w1.heap.size + 2, 4, none⟩ (.int .i64 ((x5 : Int) + 4))) 24 w.heap.size (w1.heap.size + 1) w1.heap.size (w1.heap.size + 2) l t5 #[.int .i64 0, .int .i64 0, .int .i64 0, .int .i64 0, .int .i64 0, .int .i64 0, .slice none 0 0, .int .i64 0, .int .i64 0] #[.int .i64 ((x1 : Int) + 1), .int .i64 ((x2 : Int) + 1), .int .i64 ((x3 : Int) + 4), .int .i64 (x4 : Int), .int .i64 ((x5 : Int) + 4), .int .i64 0, .slice none 0 0, .int .i64 0, .int .i64 0]) := L5.out.set 4 (.int .i64 ((x5 : Int) + 4))
      obtain ⟨rfl, _⟩ := p5
      clear KA OA
      go_wp2_with fail
      go_meet
      exact ⟨_, _, rfl, ⟨fun _ => HS.out, fun h => absurd HX.out h⟩, K5, O5⟩
    · have e0 : ((x4 : Int) == 0) = false := by simp; omega
      have HX := Lib.hid hx0
      clear hx0
      go_wp2_with fail
      go_meet
      exact ⟨t4, 4, rfl, ⟨fun h => absurd h HX.out, fun _ => ⟨rfl, rfl⟩⟩, KA, OA⟩
  case rest =>
    obtain ⟨st, pb, rfl, HP, KB, OB⟩ := hcut
    obtain ⟨db, _⟩ := KB.out.cell 3 (.int .i64 (x4 : Int)) rfl
    clear KA OA d1 d2 d3 d4 g1 g2 g3 g4 d41 g41 d42 d43 L1 L2 L3 L4 H1 H2 H3 H4 HOO
    go_upto_if 41 with fail
    go_cut [6] (fun ov wx => ∃ (over : Bool) (st : Option Nat) (pb nr : Int) (cv : Value) (cy : List Int), ov = .bool over ∧ Aside ((over = true → sRest (fl l) l.length ((x1 : Int) + 1) ((x2 : Int) + 1) ((x3 : Int) + 4) x4 t4 = (SpsN.zero, 301) ∧ st ≠ none) ∧ (over = false → sRest (fl l) l.length ((x1 : Int) + 1) ((x2 : Int) + 1) ((x3 : Int) + 4) x4 t4 = sTail (fl l) l.length ((x1 : Int) + 1) ((x2 : Int) + 1) ((x3 : Int) + 4) (x4 : Int) pb nr cy st ∧ cy.length ≤ 4)) ∧ Hid (Gt w (wx) 24 w.heap.size (w1.heap.size + 1) w1.heap.size (w1.heap.size + 2) l st #[.int .i64 0, .int .i64 0, .int .i64 0, .int .i64 0, .int .i64 0, .int .i64 0, .slice none 0 0, .int .i64 0, .int .i64 0] #[.int .i64 ((x1 : Int) + 1), .int .i64 ((x2 : Int) + 1), .int .i64 ((x3 : Int) + 4), .int .i64 (x4 : Int), .int .i64 pb, .int .i64 nr, cv, .int .i64 0, .int .i64 0]) ∧ Hid (Own3 wx w.heap.size cv cy))
    case first =>
      by_cases hx1 : x4 = 1
      · have e1 : ((x4 : Int) == 1) = true := by simp; omega
        have hx0 : x4 ≠ 0 := by omega
        obtain ⟨rfl, rfl⟩ := HP.2 hx0
        obtain ⟨⟨x5, t5⟩, h5⟩ : ∃ X, sSe (fl l) l.length st = X := ⟨_, rfl⟩
        have B5 := sSe_le (fl l) l.length st
        rw [h5] at B5
        have B5a := B5.1
        have B5b := B5.2
        clear B5
        simp only at B5a B5b
        obtain ⟨⟨x6, t6⟩, h6⟩ : ∃ X, sUe (fl l) l.length t5 = X := ⟨_, rfl⟩
        have B6 : x6 ≤ 2147483646 := by have := sUe_le (fl l) l.length t5; rw [h6] at this; exact this
        by_cases hk : 4 < x6
        · have HS : Hid (sRest (fl l) l.length ((x1 : Int) + 1) ((x2 : Int) + 1) ((x3 : Int) + 4) x4 st = (SpsN.zero, 301) ∧ t6 ≠ none) := by
            refine ⟨?_, fun e => ?_⟩
            · rw [sRest, if_neg hx0, if_pos hx1, h5]
              simp only [h6]
              rw [if_pos hk]
            · subst e
              have := sUe_bad_zero h6
              omega
          have H5 := Lib.hid h5
          have H6 := Lib.hid h6
          have hki : (4 : Int) < (x6 : Int) := by omega
          clear h5 h6 hx0 hx1 hk HP
          go_wp2_with fail
          refine (refSe3e _ w.heap.size _ _ l _ KB.out.rd hll H5.out).mono ?_
          rintro e v5 p5
          obtain ⟨d5, g5⟩ := (KB.out.call p5).cell 5 (.int .i64 0) rfl
          have L5 := Lib.hid (KB.out.call p5)
          have O5 := Lib.hid (L5.out.own_set (by decide) 5 (.int .i64 x5) (KB.out.own_call p5 OB.out))
          have K5 : Hid (Gt w (v5.setCell ⟨w1.heap.size + 2, 5, none⟩ (.int .i64 x5)) 24 w.heap.size (w1.heap.size + 1) w1.heap.size (w1.heap.size + 2) l t5 #[.int .i64 0, .int .i64 0, .int .i64 0, .int .i64 0, .int .i64 0, .int .i64 0, .slice none 0 0, .int .i64 0, .int .i64 0] #[.int .i64 ((x1 : Int) + 1), .int .i64 ((x2 : Int) + 1), .int .i64 ((x3 : Int) + 4), .int .i64 (x4 : Int), .int .i64 4, .int .i64 x5, .slice none 0 0, .int .i64 0, .int .i64 0]) := L5.out.set 5 (.int .i64 x5)
          obtain ⟨rfl, _⟩ := p5
          clear KB OB
          go_wp2_with fail
          refine (refUe3e _ w.heap.size _ _ l _ K5.out.rd hll H6.out).mono ?_
          rintro e v6 p7
          have K6 := Lib.hid (K5.out.call p7)
          have O6 := Lib.hid (K5.out.own_call p7 O5.out)
          obtain ⟨rfl, _⟩ := p7
          clear K5 O5
          go_wp2_with fail
          refine wp_loop_rounds 1 ?_
          rw [rounds_succ]
          go_wp2_with fail
          go_meet
          exact ⟨true, _, _, _, _, _, rfl, ⟨fun _ => HS.out, fun h => (by cases h)⟩, K6, O6⟩
        · have HSS : Hid (∀ cy tc, sCycle (fl l) l.length x6 t6 = (cy, tc) → sRest (fl l) l.length ((x1 : Int) + 1) ((x2 : Int) + 1) ((x3 : Int) + 4) x4 st = sTail (fl l) l.length ((x1 : Int) + 1) ((x2 : Int) + 1) ((x3 : Int) + 4) (x4 : Int) 4 x5 cy tc ∧ cy.length ≤ 4) := by
            intro cy tc hc
            refine ⟨?_, ?_⟩
            · rw [sRest, if_neg hx0, if_pos hx1, h5]
              simp only [h6]
              rw [if_neg hk, hc, hx1]
              rfl
            · have := sCycle_length (fl l) l.length t6 x6
              rw [hc] at this
              simp only at this
              omega
          have H5 := Lib.hid h5
          have H6 := Lib.hid h6
          have hki : decide ((4 : Int) < (x6 : Int)) = false := by simp; omega
          have hk4 : x6 ≤ 4 := by omega
          clear h5 h6 hx0 hx1 hk HP
          go_wp2_with fail
          refine (refSe3e _ w.heap.size _ _ l _ KB.out.rd hll H5.out).mono ?_
          rintro e v5 p5
          obtain ⟨d5, g5⟩ := (KB.out.call p5).cell 5 (.int .i64 0) rfl
          have L5 := Lib.hid (KB.out.call p5)
          have O5 := Lib.hid (L5.out.own_set (by decide) 5 (.int .i64 x5) (KB.out.own_call p5 OB.out))
          have K5 : Hid (Gt w (v5.setCell ⟨w1.heap.size + 2, 5, none⟩ (.int .i64 x5)) 24 w.heap.size (w1.heap.size + 1) w1.heap.size (w1.heap.size + 2) l t5 #[.int .i64 0, .int .i64 0, .int .i64 0, .int .i64 0, .int .i64 0, .int .i64 0, .slice none 0 0, .int .i64 0, .int .i64 0] #[.int .i64 ((x1 : Int) + 1), .int .i64 ((x2 : Int) + 1), .int .i64 ((x3 : Int) + 4), .int .i64 (x4 : Int), .int .i64 4, .int .i64 x5, .slice none 0 0, .int .i64 0, .int .i64 0]) := L5.out.set 5 (.int .i64 x5)
          obtain ⟨rfl, _⟩ := p5
          clear KB OB
          go_wp2_with fail
          refine (refUe3e _ w.heap.size _ _ l _ K5.out.rd hll H6.out).mono ?_
          rintro e v6 p7
          have K6 := Lib.hid (K5.out.call p7)
          have O6 := Lib.hid (K5.out.own_call p7 O5.out)
          obtain ⟨rfl, _⟩ := p7
          clear K5 O5
          go_wp2_with fail
          go_loopg [8, 9] x6 (fun q i c wr => ∃ (oc : Value) (j : Nat) (cv : Value) (cy : List Int) (tc : Option Nat), oc = c ∧ j + q = x6 ∧ i = .int .i64 (j : Int) ∧ Aside (sCycle (fl l) l.length j t6 = (cy, tc)) ∧ Hid (Gt w (wr) 24 w.heap.size (w1.heap.size + 1) w1.heap.size (w1.heap.size + 2) l tc #[.int .i64 0, .int .i64 0, .int .i64 0, .int .i64 0, .int .i64 0, .int .i64 0, .slice none 0 0, .int .i64 0, .int .i64 0] #[.int .i64 ((x1 : Int) + 1), .int .i64 ((x2 : Int) + 1), .int .i64 ((x3 : Int) + 4), .int .i64 (x4 : Int), .int .i64 4, .int .i64 x5, cv, .int .i64 0, .int .i64 0]) ∧ Hid (Own3 wr w.heap.size cv cy))
          case atStart => exact ⟨_, 0, _, _, _, rfl, by omega, rfl, (rfl : sCycle (fl l) l.length 0 t6 = ([], t6)), K6, O6⟩
          case round =>
            clear K6 O6
            obtain ⟨oc, j, cv, cy, tc, rfl, hq, rfl, hcy, K7, O7⟩ := hrel
            by_cases hlt : j < x6
            · obtain ⟨⟨xs, ts⟩, hs⟩ : ∃ X, sSe (fl l) l.length tc = X := ⟨_, rfl⟩
              have HN : Aside (sCycle (fl l) l.length (j + 1) t6 = (cy ++ [xs], ts)) := by
                show _ = _
                rw [sCycle, hcy]
                simp only [hs]
              have HL : Hid (cy.length ≤ 1000000) := by
                have := sCycle_length (fl l) l.length t6 j
                rw [hcy] at this
                simp only at this
                show _ ≤ _
                omega
              have Hs := Lib.hid hs
              clear hs hcy
              go_wp2_with fail
              refine (refSe3e _ w.heap.size _ _ l _ K7.out.rd hll Hs.out).mono ?_
              rintro e v8 p8
              have K8 := Lib.hid (K7.out.call p8)
              have O8 := Lib.hid (K7.out.own_call p8 O7.out)
              obtain ⟨d8, _⟩ := K8.out.cell 6 cv rfl
              obtain ⟨rfl, _⟩ := p8
              clear K7 O7
              go_wp2_with (refine wpList_append_int rfl (.tmp 61) (.tmp 63) rfl w.heap.size cv cy ?_ O8.out K8.out.down.size ?_ ?_ ?_; rfl; exact HL.out; rfl; intro gg9 cc9 w9 o9 f9; have K9 := Lib.hid (K8.out.other f9 (by decide) (fun k e _ => O8.out.block k e)); obtain ⟨d9, g9⟩ := K9.out.cell 6 cv rfl)
              have O9 := Lib.hid (K9.out.own_set (by decide) 6 (.slice (some ⟨gg9, 0, none⟩) (cy.length + 1) cc9) o9)
              have K10 : Hid (Gt w (w9.setCell ⟨w1.heap.size + 2, 6, none⟩ (.slice (some ⟨gg9, 0, none⟩) (cy.length + 1) cc9)) 24 w.heap.size (w1.heap.size + 1) w1.heap.size (w1.heap.size + 2) l ts #[.int .i64 0, .int .i64 0, .int .i64 0, .int .i64 0, .int .i64 0, .int .i64 0, .slice none 0 0, .int .i64 0, .int .i64 0] #[.int .i64 ((x1 : Int) + 1), .int .i64 ((x2 : Int) + 1), .int .i64 ((x3 : Int) + 4), .int .i64 (x4 : Int), .int .i64 4, .int .i64 x5, .slice (some ⟨gg9, 0, none⟩) (cy.length + 1) cc9, .int .i64 0, .int .i64 0]) := K9.out.set 6 (.slice (some ⟨gg9, 0, none⟩) (cy.length + 1) cc9)
              go_roundg (gk - 1)
              case measure => omega
              case rel => exact ⟨_, j + 1, _, _, _, rfl, by omega, by go_num, HN, K10, O9⟩
            · obtain rfl : j = x6 := by omega
              have HS := Lib.hid (HSS.out cy tc hcy)
              clear hcy HSS
              go_wp2_with fail
              go_meet
              exact ⟨false, _, _, _, _, _, rfl, ⟨fun h => (by cases h), fun _ => HS.out⟩, K7, O7⟩
      · have e1 : ((x4 : Int) == 1) = false := by simp; omega
        have HS : Hid (sRest (fl l) l.length ((x1 : Int) + 1) ((x2 : Int) + 1) ((x3 : Int) + 4) x4 t4 = sTail (fl l) l.length ((x1 : Int) + 1) ((x2 : Int) + 1) ((x3 : Int) + 4) (x4 : Int) pb 0 [] st) := by
          show _ = _
          by_cases hx0 : x4 = 0
          · exact HP.1 hx0
          · obtain ⟨rfl, rfl⟩ := HP.2 hx0
            rw [sRest, if_neg hx0, if_neg hx1]
        clear hx1 HP
        go_wp2_with fail
        go_meet
        exact ⟨false, _, _, _, _, _, rfl, ⟨fun h => (by cases h), fun _ => ⟨HS.out, by simp⟩⟩, KB, OB⟩
    case rest =>
      clear HP KB OB db
      obtain ⟨over, st, pb, nr, cv, cy, rfl, HP, KC, OC⟩ := hcut
      cases over with
      | true =>
        obtain ⟨HS, hst⟩ := HP.1 rfl
        obtain ⟨p6, rfl⟩ : ∃ p, st = some p := by
          cases st with
          | none => exact absurd rfl hst
          | some p => exact ⟨p, rfl⟩
        have HE := Lib.hid HS
        clear HS hst HP
        obtain ⟨r0, r1, _⟩ := srd_cells KC.out.rd
        simp only [Option.isNone_some] at r1
        have R9 := Lib.hid KC.out.2.2.1
        go_wp2_with (refine wpList_store_whole rfl 24 (.tmp 2) (.tmp 74) rfl w.heap.size #[.int .i64 0, .int .i64 0, .int .i64 0, .int .i64 0, .int .i64 0, .int .i64 0, .slice none 0 0, .int .i64 0, .int .i64 0] ?_ ?_ 24 _ R9.out ?_ ?_ ?_ ?_; rfl; rfl; kernel_rfl; rfl; (simp [Value.oneCell']); intro wz hz fz)
        have z0 := cell_of_row _ w.heap.size 0 _ _ _ hz
        have z1 := cell_of_row _ w.heap.size 1 _ _ _ hz
        have z2 := cell_of_row _ w.heap.size 2 _ _ _ hz
        have z3 := cell_of_row _ w.heap.size 3 _ _ _ hz
        have z4 := cell_of_row _ w.heap.size 4 _ _ _ hz
        have z5 := cell_of_row _ w.heap.size 5 _ _ _ hz
        have z6 := cell_of_row _ w.heap.size 6 _ _ _ hz
        have z7 := cell_of_row _ w.heap.size 7 _ _ _ hz
        have z8 := cell_of_row _ w.heap.size 8 _ _ _ hz
        simp at z0 z1 z2 z3 z4 z5 z6 z7 z8
        have HZ := Lib.hid hz
        clear hz
        refine bodyPost_ret (v := .tuple #[.agg #[.int .i64 0, .int .i64 0, .int .i64 0, .int .i64 0, .int .i64 0, .int .i64 0, .slice none 0 0, .int .i64 0, .int .i64 0], .int .i64 301]) (by simp [results, Try.results14, go_sem, z0, z1, z2, z3, z4, z5, z6, z7, z8]) rfl ?_
        rw [HE.out]
        exact ⟨none, 0, rfl, IntRow.nil _ _, fun _ => ⟨rfl, rfl⟩, fun x hx => (by cases hx), below_fr KC.out.down (Nat.le_refl _) fz (fun k e => Nat.le_of_eq e.symm)⟩
      | false =>
        obtain ⟨HS, hlen⟩ := HP.2 rfl
        have HS := Lib.hid HS
        clear HP
        obtain ⟨⟨xr, tr⟩, hr⟩ : ∃ X, sUe (fl l) l.length st = X := ⟨_, rfl⟩
        have Br : xr ≤ 2147483646 := by have := sUe_le (fl l) l.length st; rw [hr] at this; exact this
        obtain ⟨⟨xd, td⟩, hd⟩ : ∃ X, sUe (fl l) l.length tr = X := ⟨_, rfl⟩
        have Bd : xd ≤ 2147483646 := by have := sUe_le (fl l) l.length tr; rw [hd] at this; exact this
        have hend : sRest (fl l) l.length ((x1 : Int) + 1) ((x2 : Int) + 1) ((x3 : Int) + 4) x4 t4 = sEnd SpsN.zero (fl l) l.length ⟨(x1 : Int) + 1, (x2 : Int) + 1, (x3 : Int) + 4, (x4 : Int), pb, nr, cy, (xr : Int), (xd : Int)⟩ (decide (SpsN.may ⟨(x1 : Int) + 1, (x2 : Int) + 1, (x3 : Int) + 4, (x4 : Int), pb, nr, cy, (xr : Int), (xd : Int)⟩)) td := by
          rw [HS.out]
          simp only [sTail, hr, hd]
        have HE := Lib.hid hend
        have Hr := Lib.hid hr
        have Hd := Lib.hid hd
        clear hend hr hd
        go_wp2_with fail
        refine (refUe3e _ w.heap.size _ _ l _ KC.out.rd hll Hr.out).mono ?_
        rintro e vr pr
        obtain ⟨dr, gr⟩ := (KC.out.call pr).cell 7 (.int .i64 0) rfl
        have Lr := Lib.hid (KC.out.call pr)
        have Or := Lib.hid (Lr.out.own_set (by decide) 7 (.int .i64 (xr : Int)) (KC.out.own_call pr OC.out))
        have Kr : Hid (Gt w (vr.setCell ⟨w1.heap.size + 2, 7, none⟩ (.int .i64 (xr : Int))) 24 w.heap.size (w1.heap.size + 1) w1.heap.size (w1.heap.size + 2) l tr #[.int .i64 0, .int .i64 0, .int .i64 0, .int .i64 0, .int .i64 0, .int .i64 0, .slice none 0 0, .int .i64 0, .int .i64 0] #[.int .i64 ((x1 : Int) + 1), .int .i64 ((x2 : Int) + 1), .int .i64 ((x3 : Int) + 4), .int .i64 (x4 : Int), .int .i64 pb, .int .i64 nr, cv, .int .i64 (xr : Int), .int .i64 0]) := Lr.out.set 7 (.int .i64 (xr : Int))
        obtain ⟨rfl, _⟩ := pr
        clear KC OC
        go_wp2_with fail
        refine (refUe3e _ w.heap.size _ _ l _ Kr.out.rd hll Hd.out).mono ?_
        rintro e vd pd
        obtain ⟨dd, gd⟩ := (Kr.out.call pd).cell 8 (.int .i64 0) rfl
        have Ld := Lib.hid (Kr.out.call pd)
        have Od := Lib.hid (Ld.out.own_set (by decide) 8 (.int .i64 (xd : Int)) (Kr.out.own_call pd Or.out))
        have Kd : Hid (Gt w (vd.setCell ⟨w1.heap.size + 2, 8, none⟩ (.int .i64 (xd : Int))) 24 w.heap.size (w1.heap.size + 1) w1.heap.size (w1.heap.size + 2) l td #[.int .i64 0, .int .i64 0, .int .i64 0, .int .i64 0, .int .i64 0, .int .i64 0, .slice none 0 0, .int .i64 0, .int .i64 0] #[.int .i64 ((x1 : Int) + 1), .int .i64 ((x2 : Int) + 1), .int .i64 ((x3 : Int) + 4), .int .i64 (x4 : Int), .int .i64 pb, .int .i64 nr, cv, .int .i64 (xr : Int), .int .i64 (xd : Int)]) := Ld.out.set 8 (.int .i64 (xd : Int))
        obtain ⟨rfl, _⟩ := pd
        clear Kr Or
        clear dr gr Lr Ld Hr Hd
        obtain ⟨r0, r1, _⟩ := srd_cells Kd.out.rd
        have R9 := Lib.hid Kd.out.2.2.1
        cases td with
        | none =>
          simp only [Option.isNone_none] at r1
          go_wp2_with (refine wpList_store_whole rfl 24 (.tmp 2) (.tmp 93) rfl w.heap.size #[.int .i64 0, .int .i64 0, .int .i64 0, .int .i64 0, .int .i64 0, .int .i64 0, .slice none 0 0, .int .i64 0, .int .i64 0] ?_ ?_ 24 _ R9.out ?_ ?_ ?_ ?_; rfl; rfl; kernel_rfl; rfl; (simp [Value.oneCell']); intro wz hz fz)
          have z0 := cell_of_row _ w.heap.size 0 _ _ _ hz
          have z1 := cell_of_row _ w.heap.size 1 _ _ _ hz
          have z2 := cell_of_row _ w.heap.size 2 _ _ _ hz
          have z3 := cell_of_row _ w.heap.size 3 _ _ _ hz
          have z4 := cell_of_row _ w.heap.size 4 _ _ _ hz
          have z5 := cell_of_row _ w.heap.size 5 _ _ _ hz
          have z6 := cell_of_row _ w.heap.size 6 _ _ _ hz
          have z7 := cell_of_row _ w.heap.size 7 _ _ _ hz
          have z8 := cell_of_row _ w.heap.size 8 _ _ _ hz
          simp at z0 z1 z2 z3 z4 z5 z6 z7 z8
          have HZ := Lib.hid hz
          clear hz
          refine bodyPost_ret (v := .tuple #[.agg #[.int .i64 0, .int .i64 0, .int .i64 0, .int .i64 0, .int .i64 0, .int .i64 0, .slice none 0 0, .int .i64 0, .int .i64 0], .int .i64 300]) (by simp [results, Try.results14, go_sem, z0, z1, z2, z3, z4, z5, z6, z7, z8]) rfl ?_
          rw [HE.out]
          exact ⟨none, 0, rfl, IntRow.nil _ _, fun _ => ⟨rfl, rfl⟩, fun x hx => (by cases hx), below_fr Kd.out.down (Nat.le_refl _) fz (fun k e => Nat.le_of_eq e.symm)⟩
        | some p =>
          simp only [Option.isNone_some] at r1
          have htr := refTrail3 _ w.heap.size _ _ l p Kd.out.rd hll hT8.out HQ.out
          by_cases ht : Trails (fl l) l.length p
          · rw [if_pos ht] at htr
            have HTR := Lib.hid htr
            have HT := Lib.hid ht
            clear htr ht
            go_wp2_with fail
            refine HTR.out.mono ?_
            rintro e wt ⟨rfl, ft⟩
            obtain ⟨k1, k2, k3⟩ := Kd.out.turn ft (fun _ h => h)
            have ot : Own3 wt w.heap.size (cv) cy := by
              obtain ⟨⟨rc, hrc⟩, _⟩ := Kd.out.1.reader
              exact Od.out.keep ft (fun k cs hk e => ne_of_type hk hrc (by decide) e)
            obtain ⟨ca, ccap, hcv, ci, cn, cb⟩ := ot.shape
            have y0 := cell_of_row _ (w1.heap.size + 2) 0 _ _ _ k1
            have y1 := cell_of_row _ (w1.heap.size + 2) 1 _ _ _ k1
            have y2 := cell_of_row _ (w1.heap.size + 2) 2 _ _ _ k1
            have y3 := cell_of_row _ (w1.heap.size + 2) 3 _ _ _ k1
            have y4 := cell_of_row _ (w1.heap.size + 2) 4 _ _ _ k1
            have y5 := cell_of_row _ (w1.heap.size + 2) 5 _ _ _ k1
            have y6 := cell_of_row _ (w1.heap.size + 2) 6 _ _ _ k1
            have y7 := cell_of_row _ (w1.heap.size + 2) 7 _ _ _ k1
            have y8 := cell_of_row _ (w1.heap.size + 2) 8 _ _ _ k1
            simp at y0 y1 y2 y3 y4 y5 y6 y7 y8
            subst hcv
            have Q1 := Lib.hid k1
            have Q2 := Lib.hid k2
            have Q3 := Lib.hid k3
            clear k1 k2 k3 ft r0 r1
            have CI := Lib.hid ci
            have CN := Lib.hid cn
            have CB := Lib.hid cb
            clear ci cn cb ot
            have hm := refMaySps_any wt ⟨(x1 : Int) + 1, (x2 : Int) + 1, (x3 : Int) + 4, (x4 : Int), pb, nr, cy, (xr : Int), (xd : Int)⟩ ca ccap CI.out (by simp only; omega)
            unfold spsV at hm
            by_cases hmay : SpsN.may ⟨(x1 : Int) + 1, (x2 : Int) + 1, (x3 : Int) + 4, (x4 : Int), pb, nr, cy, (xr : Int), (xd : Int)⟩
            · rw [decide_eq_true hmay] at hm
              have HM := Lib.hid hm
              have HMY := Lib.hid hmay
              clear hm hmay
              go_wp2_with fail
              refine HM.out.mono ?_
              rintro e w3 ⟨rfl, b3⟩
              have q1 := (b3.block _ (row_lt Q1.out)).trans Q1.out
              have q2 := (b3.block _ (row_lt Q2.out)).trans Q2.out
              have D3 := Lib.hid (Q3.out.trans (b3.mono Q3.out.size))
              have C3 := Lib.hid (CI.out.below b3 (Nat.le_refl _))
              have E3 : Hid (∀ x, ca = some x → w.heap.size ≤ x.block ∧ x.block ≠ w.heap.size ∧ ∃ cs, w3.heap[x.block]? = some (.cells cs 3 (0, 0))) := fun x hx => by
                obtain ⟨e1, cs, e2⟩ := CB.out x hx
                exact ⟨e1, ne_of_type e2 Q2.out (by decide), cs, (b3.block _ (row_lt e2)).trans e2⟩
              clear y0 y1 y2 y3 y4 y5 y6 y7 y8
              have y0 := cell_of_row _ (w1.heap.size + 2) 0 _ _ _ q1
              have y1 := cell_of_row _ (w1.heap.size + 2) 1 _ _ _ q1
              have y2 := cell_of_row _ (w1.heap.size + 2) 2 _ _ _ q1
              have y3 := cell_of_row _ (w1.heap.size + 2) 3 _ _ _ q1
              have y4 := cell_of_row _ (w1.heap.size + 2) 4 _ _ _ q1
              have y5 := cell_of_row _ (w1.heap.size + 2) 5 _ _ _ q1
              have y6 := cell_of_row _ (w1.heap.size + 2) 6 _ _ _ q1
              have y7 := cell_of_row _ (w1.heap.size + 2) 7 _ _ _ q1
              have y8 := cell_of_row _ (w1.heap.size + 2) 8 _ _ _ q1
              simp at y0 y1 y2 y3 y4 y5 y6 y7 y8
              have Q4 := Lib.hid q1
              have Q5 := Lib.hid q2
              clear q1 q2 b3
              go_wp2_with (refine wpList_store_whole rfl 24 (.tmp 2) (.tmp 98) rfl w.heap.size #[.int .i64 ((x1 : Int) + 1), .int .i64 ((x2 : Int) + 1), .int .i64 ((x3 : Int) + 4), .int .i64 (x4 : Int), .int .i64 pb, .int .i64 nr, .slice ca (cy).length ccap, .int .i64 (xr : Int), .int .i64 (xd : Int)] ?_ ?_ 24 _ Q5.out ?_ ?_ ?_ ?_; rfl; rfl; kernel_rfl; rfl; (simp [Value.oneCell']); intro wz hz fz)
              clear y0 y1 y2 y3 y4 y5 y6 y7 y8
              have z0 := cell_of_row _ w.heap.size 0 _ _ _ hz
              have z1 := cell_of_row _ w.heap.size 1 _ _ _ hz
              have z2 := cell_of_row _ w.heap.size 2 _ _ _ hz
              have z3 := cell_of_row _ w.heap.size 3 _ _ _ hz
              have z4 := cell_of_row _ w.heap.size 4 _ _ _ hz
              have z5 := cell_of_row _ w.heap.size 5 _ _ _ hz
              have z6 := cell_of_row _ w.heap.size 6 _ _ _ hz
              have z7 := cell_of_row _ w.heap.size 7 _ _ _ hz
              have z8 := cell_of_row _ w.heap.size 8 _ _ _ hz
              simp at z0 z1 z2 z3 z4 z5 z6 z7 z8
              have HZ := Lib.hid hz
              clear hz
              refine bodyPost_ret (v := .tuple #[.agg #[.int .i64 ((x1 : Int) + 1), .int .i64 ((x2 : Int) + 1), .int .i64 ((x3 : Int) + 4), .int .i64 (x4 : Int), .int .i64 pb, .int .i64 nr, .slice ca (cy).length ccap, .int .i64 (xr : Int), .int .i64 (xd : Int)], .int .i64 0]) (by simp [results, Try.results14, go_sem, z0, z1, z2, z3, z4, z5, z6, z7, z8]) rfl ?_
              rw [HE.out, sEnd, if_pos HT.out, decide_eq_true HMY.out]
              refine ⟨ca, ccap, rfl, C3.out.fr fz (fun x hx => (E3.out x hx).2.1), CN.out, ?_, below_fr D3.out (Nat.le_refl _) fz (fun k e => Nat.le_of_eq e.symm)⟩
              intro x hx
              obtain ⟨e1, e2, cs, e3⟩ := E3.out x hx
              exact ⟨e1, cs, _, (fz.block _ (row_lt e3) e2).trans e3⟩
            · rw [decide_eq_false hmay] at hm
              have HM := Lib.hid hm
              have HMY := Lib.hid hmay
              clear hm hmay
              go_wp2_with fail
              refine HM.out.mono ?_
              rintro e w3 ⟨rfl, b3⟩
              have q1 := (b3.block _ (row_lt Q1.out)).trans Q1.out
              have q2 := (b3.block _ (row_lt Q2.out)).trans Q2.out
              have D3 := Lib.hid (Q3.out.trans (b3.mono Q3.out.size))
              have C3 := Lib.hid (CI.out.below b3 (Nat.le_refl _))
              have E3 : Hid (∀ x, ca = some x → w.heap.size ≤ x.block ∧ x.block ≠ w.heap.size ∧ ∃ cs, w3.heap[x.block]? = some (.cells cs 3 (0, 0))) := fun x hx => by
                obtain ⟨e1, cs, e2⟩ := CB.out x hx
                exact ⟨e1, ne_of_type e2 Q2.out (by decide), cs, (b3.block _ (row_lt e2)).trans e2⟩
              have Q4 := Lib.hid q1
              have Q5 := Lib.hid q2
              clear q1 q2 b3
              go_wp2_with (refine wpList_store_whole rfl 24 (.tmp 2) (.tmp 97) rfl w.heap.size #[.int .i64 0, .int .i64 0, .int .i64 0, .int .i64 0, .int .i64 0, .int .i64 0, .slice none 0 0, .int .i64 0, .int .i64 0] ?_ ?_ 24 _ Q5.out ?_ ?_ ?_ ?_; rfl; rfl; kernel_rfl; rfl; (simp [Value.oneCell']); intro wz hz fz)
              have z0 := cell_of_row _ w.heap.size 0 _ _ _ hz
              have z1 := cell_of_row _ w.heap.size 1 _ _ _ hz
              have z2 := cell_of_row _ w.heap.size 2 _ _ _ hz
              have z3 := cell_of_row _ w.heap.size 3 _ _ _ hz
              have z4 := cell_of_row _ w.heap.size 4 _ _ _ hz
              have z5 := cell_of_row _ w.heap.size 5 _ _ _ hz
              have z6 := cell_of_row _ w.heap.size 6 _ _ _ hz
              have z7 := cell_of_row _ w.heap.size 7 _ _ _ hz
              have z8 := cell_of_row _ w.heap.size 8 _ _ _ hz
              simp at z0 z1 z2 z3 z4 z5 z6 z7 z8
              have HZ := Lib.hid hz
              clear hz
              refine bodyPost_ret (v := .tuple #[.agg #[.int .i64 0, .int .i64 0, .int .i64 0, .int .i64 0, .int .i64 0, .int .i64 0, .slice none 0 0, .int .i64 0, .int .i64 0], .int .i64 301]) (by simp [results, Try.results14, go_sem, z0, z1, z2, z3, z4, z5, z6, z7, z8]) rfl ?_
              rw [HE.out, sEnd, if_pos HT.out, decide_eq_false HMY.out]
              exact ⟨none, 0, rfl, IntRow.nil _ _, fun _ => ⟨rfl, rfl⟩, fun x hx => (by cases hx), below_fr D3.out (Nat.le_refl _) fz (fun k e => Nat.le_of_eq e.symm)⟩
          · rw [if_neg ht] at htr
            have HTR := Lib.hid htr
            have HT := Lib.hid ht
            clear htr ht
            go_wp2_with fail
            refine HTR.out.mono ?_
            rintro e wt ⟨rfl, ft⟩
            obtain ⟨k1, k2, k3⟩ := Kd.out.turn ft (fun _ h => h)
            have Q2 := Lib.hid k2
            have Q3 := Lib.hid k3
            clear k1 k2 k3 ft
            go_wp2_with (refine wpList_store_whole rfl 24 (.tmp 2) (.tmp 93) rfl w.heap.size #[.int .i64 0, .int .i64 0, .int .i64 0, .int .i64 0, .int .i64 0, .int .i64 0, .slice none 0 0, .int .i64 0, .int .i64 0] ?_ ?_ 24 _ Q2.out ?_ ?_ ?_ ?_; rfl; rfl; kernel_rfl; rfl; (simp [Value.oneCell']); intro wz hz fz)
            have z0 := cell_of_row _ w.heap.size 0 _ _ _ hz
            have z1 := cell_of_row _ w.heap.size 1 _ _ _ hz
            have z2 := cell_of_row _ w.heap.size 2 _ _ _ hz
            have z3 := cell_of_row _ w.heap.size 3 _ _ _ hz
            have z4 := cell_of_row _ w.heap.size 4 _ _ _ hz
            have z5 := cell_of_row _ w.heap.size 5 _ _ _ hz
            have z6 := cell_of_row _ w.heap.size 6 _ _ _ hz
            have z7 := cell_of_row _ w.heap.size 7 _ _ _ hz
            have z8 := cell_of_row _ w.heap.size 8 _ _ _ hz
            simp at z0 z1 z2 z3 z4 z5 z6 z7 z8
            have HZ := Lib.hid hz
            clear hz
            refine bodyPost_ret (v := .tuple #[.agg #[.int .i64 0, .int .i64 0, .int .i64 0, .int .i64 0, .int .i64 0, .int .i64 0, .slice none 0 0, .int .i64 0, .int .i64 0], .int .i64 300]) (by simp [results, Try.results14, go_sem, z0, z1, z2, z3, z4, z5, z6, z7, z8]) rfl ?_
            rw [HE.out, sEnd, if_neg HT.out]
            exact ⟨none, 0, rfl, IntRow.nil _ _, fun _ => ⟨rfl, rfl⟩, fun x hx => (by cases hx), below_fr Q3.out (Nat.le_refl _) fz (fun k e => Nat.le_of_eq e.symm)⟩
end Go.Proofs.Ytadfgadkihlmcaa
