/- Layer 4: the walk, whichever way, over a list that tells ahead how many it holds. -/
import Derived.Test.YthcbgijmnonckaaGreatJI
namespace Go.Proofs.YthcbgijmnonckaaGreat
open Go.RowKit Zo Zp
set_option linter.unusedVariables false

section
variable {σ : Type} {C : Ctx} {F : WayFns σ} {fuel : σ → Nat} {way : World → σ → Prop}

theorem RowOk.re {α : Type} {k : Nat} {cells : α → List Int} {W W' w : World} {a : Option Addr} {l : List α} (h : RowOk C k cells W w a l) (hm : C.moves = true → l = []) : RowOk C k cells W' w a l :=
  ⟨h.row, h.safe, fun e x hl _ => absurd (hm e) hl⟩

theorem Listed.from {α : Type} {k : Nat} {cells : α → List Int} {w w1 w' : World} {hb f : Nat} {cs : Array Value} {t : TypeId} {l' : List α} (h : Listed C k cells w1 hb f cs t l' w') (f1 : Fr (Un C w (fun _ => False)) w w1) : Listed C k cells w hb f cs t l' w' := by
  obtain ⟨⟨a', cap', h1, h2⟩, h3⟩ := h
  exact ⟨⟨a', cap', h1, h2.row, h2.safe, fun hm x hl hx => ⟨(h2.own hm x hl hx).1, Nat.le_trans f1.size (h2.own hm x hl hx).2⟩⟩, Un.trans (Un.mono f1 (fun _ _ e => e.elim)) h3 (fun _ _ e => e)⟩

theorem fUe_calm (ok : WayOk C F fuel way) (hm : C.moves = false) (x l : Int) (s : Ws σ) : (fUe F x l s).1 = x := by
  unfold fUe stepW
  split
  · exact ok.calm hm x l s.s
  · rfl

theorem fAsk_ok (may : Bool) (s : Ws σ) (h : (fAsk may s).c = 0) : may = true ∧ s.c = 0 := by
  unfold fAsk at h
  split at h
  · cases h
  · rename_i e
    refine ⟨?_, h⟩
    cases may with
    | true => rfl
    | false => exact absurd ⟨h, rfl⟩ e

/-- A box of a number, made by the call. -/
theorem box_cell (w : World) {n : Nat} {s : Ws σ} (hst : St C fuel way n w s) (x : Int) : Cell C (w.alloc (.cells #[.int .i64 x] 3)) w.heap.size 0 (.int .i64 x) := by
  have r := heap_alloc_last w (.cells #[.int .i64 x] 3)
  have h1 := row_lt hst.k.row
  have h2 := hst.k.base
  refine ⟨by rw [cell_of_row _ _ 0 _ _ _ r]; rfl, row_lt r, .inr (Prot.of r ⟨by decide, by decide, by decide⟩), fun _ => by omega, by omega⟩

set_option maxRecDepth 100000 in
theorem countedMod_any (ok : WayOk C F fuel way) (w : World) (n : Nat) (s : Ws σ) (hb f : Nat) (cs : Array Value) (t : TypeId) (l : List ModN) (a : Option Addr) (cap : Nat) (hst : St C fuel way (n + 101) w s)
    (hrow : w.heap[hb]? = some (.cells cs t (0, 0))) (ht : t ≠ 82 ∧ t ≠ 5 ∧ t ≠ 116) (hne : hb ≠ C.kb) (hf : cs[f]? = some (.slice a l.length cap)) (R : RowOk C 2 modI w w a l)
    (hm : C.moves = true → l = []) (hl16 : l.length ≤ 16) :
    Calls Tryz.prog 111 #[.pointer (some ⟨C.kb, 0, none⟩), .pointer (some ⟨hb, f, none⟩), .int .i64 16, .func (.func 112) #[.pointer (some ⟨C.kb, 0, none⟩)] #[]] w fun e w' =>
      e = .returned (.tuple #[]) ∧ St C fuel way n w' (fCounted F ModN.zero (fMod F) 16 l s).2 ∧ Listed C 2 modI w hb f cs t (fCounted F ModN.zero (fMod F) 16 l s).1 w' := by
  have OK := Lib.hid ok
  have hlt := row_lt hrow
  have cf : w.cell? ⟨hb, f, none⟩ = some (.slice a l.length cap) := by rw [cell_of_row w hb f _ _ _ hrow]; exact hf
  obtain ⟨r1, hr1⟩ : ∃ r, fUe F (l.length : Int) 0 s = r := ⟨_, rfl⟩
  obtain ⟨t2, ht2⟩ : ∃ r, fAsk (decide (r1.1 ≤ 16)) r1.2 = r := ⟨_, rfl⟩
  have E : fCounted F ModN.zero (fMod F) 16 l s = fList ModN.zero (fMod F) r1.1 l t2 := by
    unfold fCounted
    rw [hr1, ht2]
  rw [E]
  have S0 := Lib.hid (hst.alloc ok (.cells #[.int .i64 (l.length : Int)] 3))
  have B0 := Lib.hid (box_cell w hst (l.length : Int))
  have F0 := Lib.hid ((Fr.refl (Un C w (fun _ => False)) w).alloc (.cells #[.int .i64 (l.length : Int)] 3))
  have U1 := Lib.hid (OK.out.ue (w.alloc (.cells #[.int .i64 (l.length : Int)] 3)) (n + 100) s w.heap.size 0 (l.length : Int) 0 S0.out B0.out (by omega) (by omega))
  rw [hr1] at U1
  have hw : C.moves = false → t2.c = 0 → r1.1 ≤ l.length := fun e _ => by rw [← hr1, fUe_calm ok e]; omega
  have hn : t2.c = 0 → r1.1 ≤ 16 := fun e => by
    rw [← ht2] at e
    exact of_decide_eq_true (fAsk_ok _ _ e).1
  have LI := Lib.hid (fun w3 (s3 : St C fuel way (n + 100) w3 t2) (f3 : Fr (Un C w (fun _ => False)) w w3) => (by
    have nu : ¬ Un C w (fun _ => False) hb := not_un (.inr (Prot.of hrow ht)) hne (fun _ e => e)
    have R3 : RowOk C 2 modI w3 w3 a l := (R.fr f3 (fun _ _ _ _ e => e)).re hm
    refine (listMod_any ok w3 n t2 hb f cs t l a cap r1.1 s3 ((f3.block hb hlt nu).trans hrow) ht hne hf R3 hm hw hn hl16).mono ?_
    rintro e w4 ⟨he, s4, l4⟩
    exact ⟨he, s4, l4.from f3⟩ : Calls Tryz.prog 130 #[.pointer (some ⟨C.kb, 0, none⟩), .pointer (some ⟨hb, f, none⟩), .int .i64 r1.1, .func (.func 112) #[.pointer (some ⟨C.kb, 0, none⟩)] #[]] w3 fun e w' =>
      e = .returned (.tuple #[]) ∧ St C fuel way n w' (fList ModN.zero (fMod F) r1.1 l t2).2 ∧ Listed C 2 modI w hb f cs t (fList ModN.zero (fMod F) r1.1 l t2).1 w'))
  have HT2 := Lib.hid ht2
  clear ok hst hrow ht hf R hm E hr1 ht2 hw hn
  obtain ⟨m1, s1⟩ := r1
  simp only at U1 LI HT2
  go_enter Tryz.func111, Tryz.ntmps111
  go_wp2_with fail
  refine U1.out.mono ?_
  rintro e w1 ⟨rfl, s1, p1⟩
  have S1 := Lib.hid s1
  have P1 := Lib.hid p1
  have F1 := Lib.hid (Un.trans F0.out p1.did.fr (fun i hi e => by omega))
  have g1 := p1.cell.cell
  clear s1 p1
  go_wp2_with fail
  refine (ask_any OK.out _ (n + 100) _ (decide (m1 ≤ 16)) S1.out).mono ?_
  rintro e w2 ⟨rfl, s2, f2⟩
  rw [HT2.out] at s2
  have S2 := Lib.hid s2
  have F2 := Lib.hid (Un.trans F1.out f2 (fun _ _ e => e))
  have g2 := (P1.out.cell.stay f2).cell
  clear s2 f2 g1
  go_wp2_with fail
  refine (LI.out _ S2.out F2.out).mono ?_
  rintro e w3 ⟨rfl, p3⟩
  have P3 := Lib.hid p3
  clear p3
  go_wp2_with fail
  go_end0
  exact ⟨rfl, P3.out⟩

set_option maxRecDepth 100000 in
theorem countedOp_any (ok : WayOk C F fuel way) (w : World) (n : Nat) (s : Ws σ) (hb f : Nat) (cs : Array Value) (t : TypeId) (l : List OpN) (a : Option Addr) (cap : Nat) (hst : St C fuel way (n + 101) w s)
    (hrow : w.heap[hb]? = some (.cells cs t (0, 0))) (ht : t ≠ 82 ∧ t ≠ 5 ∧ t ≠ 116) (hne : hb ≠ C.kb) (hf : cs[f]? = some (.slice a l.length cap)) (R : RowOk C 3 opI w w a l)
    (hm : C.moves = true → l = []) (hl16 : l.length ≤ 16) :
    Calls Tryz.prog 115 #[.pointer (some ⟨C.kb, 0, none⟩), .pointer (some ⟨hb, f, none⟩), .int .i64 16, .func (.func 116) #[.pointer (some ⟨C.kb, 0, none⟩)] #[]] w fun e w' =>
      e = .returned (.tuple #[]) ∧ St C fuel way n w' (fCounted F OpN.zero (fOp F) 16 l s).2 ∧ Listed C 3 opI w hb f cs t (fCounted F OpN.zero (fOp F) 16 l s).1 w' := by
  have OK := Lib.hid ok
  have hlt := row_lt hrow
  have cf : w.cell? ⟨hb, f, none⟩ = some (.slice a l.length cap) := by rw [cell_of_row w hb f _ _ _ hrow]; exact hf
  obtain ⟨r1, hr1⟩ : ∃ r, fUe F (l.length : Int) 0 s = r := ⟨_, rfl⟩
  obtain ⟨t2, ht2⟩ : ∃ r, fAsk (decide (r1.1 ≤ 16)) r1.2 = r := ⟨_, rfl⟩
  have E : fCounted F OpN.zero (fOp F) 16 l s = fList OpN.zero (fOp F) r1.1 l t2 := by
    unfold fCounted
    rw [hr1, ht2]
  rw [E]
  have S0 := Lib.hid (hst.alloc ok (.cells #[.int .i64 (l.length : Int)] 3))
  have B0 := Lib.hid (box_cell w hst (l.length : Int))
  have F0 := Lib.hid ((Fr.refl (Un C w (fun _ => False)) w).alloc (.cells #[.int .i64 (l.length : Int)] 3))
  have U1 := Lib.hid (OK.out.ue (w.alloc (.cells #[.int .i64 (l.length : Int)] 3)) (n + 100) s w.heap.size 0 (l.length : Int) 0 S0.out B0.out (by omega) (by omega))
  rw [hr1] at U1
  have hw : C.moves = false → t2.c = 0 → r1.1 ≤ l.length := fun e _ => by rw [← hr1, fUe_calm ok e]; omega
  have hn : t2.c = 0 → r1.1 ≤ 16 := fun e => by
    rw [← ht2] at e
    exact of_decide_eq_true (fAsk_ok _ _ e).1
  have LI := Lib.hid (fun w3 (s3 : St C fuel way (n + 100) w3 t2) (f3 : Fr (Un C w (fun _ => False)) w w3) => (by
    have nu : ¬ Un C w (fun _ => False) hb := not_un (.inr (Prot.of hrow ht)) hne (fun _ e => e)
    have R3 : RowOk C 3 opI w3 w3 a l := (R.fr f3 (fun _ _ _ _ e => e)).re hm
    refine (listOp_any ok w3 n t2 hb f cs t l a cap r1.1 s3 ((f3.block hb hlt nu).trans hrow) ht hne hf R3 hm hw hn hl16).mono ?_
    rintro e w4 ⟨he, s4, l4⟩
    exact ⟨he, s4, l4.from f3⟩ : Calls Tryz.prog 131 #[.pointer (some ⟨C.kb, 0, none⟩), .pointer (some ⟨hb, f, none⟩), .int .i64 r1.1, .func (.func 116) #[.pointer (some ⟨C.kb, 0, none⟩)] #[]] w3 fun e w' =>
      e = .returned (.tuple #[]) ∧ St C fuel way n w' (fList OpN.zero (fOp F) r1.1 l t2).2 ∧ Listed C 3 opI w hb f cs t (fList OpN.zero (fOp F) r1.1 l t2).1 w'))
  have HT2 := Lib.hid ht2
  clear ok hst hrow ht hf R hm E hr1 ht2 hw hn
  obtain ⟨m1, s1⟩ := r1
  simp only at U1 LI HT2
  go_enter Tryz.func115, Tryz.ntmps115
  go_wp2_with fail
  refine U1.out.mono ?_
  rintro e w1 ⟨rfl, s1, p1⟩
  have S1 := Lib.hid s1
  have P1 := Lib.hid p1
  have F1 := Lib.hid (Un.trans F0.out p1.did.fr (fun i hi e => by omega))
  have g1 := p1.cell.cell
  clear s1 p1
  go_wp2_with fail
  refine (ask_any OK.out _ (n + 100) _ (decide (m1 ≤ 16)) S1.out).mono ?_
  rintro e w2 ⟨rfl, s2, f2⟩
  rw [HT2.out] at s2
  have S2 := Lib.hid s2
  have F2 := Lib.hid (Un.trans F1.out f2 (fun _ _ e => e))
  have g2 := (P1.out.cell.stay f2).cell
  clear s2 f2 g1
  go_wp2_with fail
  refine (LI.out _ S2.out F2.out).mono ?_
  rintro e w3 ⟨rfl, p3⟩
  have P3 := Lib.hid p3
  clear p3
  go_wp2_with fail
  go_end0
  exact ⟨rfl, P3.out⟩

end
end Go.Proofs.YthcbgijmnonckaaGreat
/- Layer 4: a header that is walked: its fields and its lists, what of them is turned. -/
namespace Go.Proofs.YthcbgijmnonckaaGreat
open Go.RowKit Zo Zp
set_option linter.unusedVariables false

/-- Where a header's lists lie. -/
structure Adr where
  m0 : Option Addr
  m1 : Option Addr
  q0 : Option Addr
  q1 : Option Addr
  os : Option Addr
  m0c : Nat
  m1c : Nat
  q0c : Nat
  q1c : Nat
  osc : Nat

def headCells (h : HeadN) (A : Adr) : Array Value := #[.int .i64 h.first, .int .i64 h.count, .int .i64 h.type, .int .i64 h.fnum, .int .i64 h.id, .int .i64 h.poc, .bool h.spatial, .int .i64 h.act0, .int .i64 h.act1, .slice A.m0 h.mods0.length A.m0c, .slice A.m1 h.mods1.length A.m1c, .int .i64 h.log, .int .i64 h.logc, .slice A.q0 h.w0.length A.q0c, .slice A.q1 h.w1.length A.q1c, .bool h.longkey, .slice A.os h.ops.length A.osc, .int .i64 h.qp, .bool h.off, .int .i64 h.a, .int .i64 h.b]

/-- Block hb is the header h in a walk that began at W. -/
structure At (C : Ctx) (W w : World) (hb : Nat) (h : HeadN) (A : Adr) : Prop where
  row : w.heap[hb]? = some (.cells (headCells h A) 26 (0, 0))
  ne : hb ≠ C.kb
  base : C.base ≤ hb
  lt : hb < W.heap.size
  fr : Fr (Un C W (fun k => k = hb)) W w
  r0 : RowOk C 2 modI W w A.m0 h.mods0
  r1 : RowOk C 2 modI W w A.m1 h.mods1
  r2 : RowOk C 6 weightI W w A.q0 h.w0
  r3 : RowOk C 6 weightI W w A.q1 h.w1
  r4 : RowOk C 3 opI W w A.os h.ops

section
variable {σ : Type} {C : Ctx} {F : WayFns σ} {fuel : σ → Nat} {way : World → σ → Prop} {W w w' : World} {hb : Nat} {h : HeadN} {A : Adr}

theorem At.cell (t : At C W w hb h A) (i : Nat) (v : Value) (hi : (headCells h A)[i]? = some v) : Cell C w hb i v :=
  ⟨by rw [cell_of_row w hb i _ _ _ t.row, hi], row_lt t.row, .inr (Prot.of t.row ⟨by decide, by decide, by decide⟩), fun _ => t.base, t.ne⟩

theorem At.not_hb {α : Type} {k : Nat} {cells : α → List Int} {a : Option Addr} {l : List α} (t : At C W w hb h A) (r : RowOk C k cells W w a l) : C.moves = true → ∀ x, l ≠ [] → a = some x → ¬ x.block = hb := fun hm x hl hx e => by
  have := (r.own hm x hl hx).2
  have := t.lt
  omega

theorem At.keep {α : Type} {k : Nat} {cells : α → List Int} {a : Option Addr} {l : List α} (t : At C W w hb h A) (r : RowOk C k cells W w a l) (f : Fr (Un C w (fun k => k = hb)) w w') : RowOk C k cells W w' a l :=
  r.fr f (t.not_hb r)

/-- A field was moved. -/
theorem At.set (t : At C W w hb h A) {i : Nat} {v : Value} (p : Post1 C w hb i v w') (h' : HeadN) (e : (headCells h A).setIfInBounds i v = headCells h' A) (e0 : h'.mods0 = h.mods0) (e1 : h'.mods1 = h.mods1) (e2 : h'.w0 = h.w0) (e3 : h'.w1 = h.w1) (e4 : h'.ops = h.ops) : At C W w' hb h' A :=
  ⟨by rw [← e]; exact p.row _ _ t.row, t.ne, t.base, t.lt, Un.trans t.fr p.did.fr (fun _ _ e => e), by rw [e0]; exact t.keep t.r0 p.did.fr, by rw [e1]; exact t.keep t.r1 p.did.fr, by rw [e2]; exact t.keep t.r2 p.did.fr, by rw [e3]; exact t.keep t.r3 p.did.fr, by rw [e4]; exact t.keep t.r4 p.did.fr⟩

/-- Nothing of it was moved. -/
theorem At.stay (t : At C W w hb h A) (f : Fr (Un C w (fun _ => False)) w w') : At C W w' hb h A := by
  have n : ¬ Un C w (fun _ => False) hb := not_un (.inr (Prot.of t.row ⟨by decide, by decide, by decide⟩)) t.ne (fun _ e => e)
  have g := Un.mono (Y := fun k => k = hb) f (fun _ _ e => e.elim)
  exact ⟨(f.block hb (row_lt t.row) n).trans t.row, t.ne, t.base, t.lt, Un.trans t.fr f (fun _ _ e => e.elim), t.keep t.r0 g, t.keep t.r1 g, t.keep t.r2 g, t.keep t.r3 g, t.keep t.r4 g⟩

theorem grown_fr (b : Below w.heap.size w w') : Fr (Un C w (fun _ => False)) w w' := Fr.of_below b

theorem At.grow (t : At C W w hb h A) (b : Below w.heap.size w w') : At C W w' hb h A := t.stay (grown_fr b)

theorem At.drewN (t : At C W w hb h A) (n : Nat) : At C W (w.drewN n) hb h A := t.stay (Fr.drewN (Fr.refl _ _) n)

theorem St.grow (ok : WayOk C F fuel way) {n : Nat} {s : Ws σ} (t : St C fuel way n w s) (b : Below w.heap.size w w') : St C fuel way n w' s :=
  ⟨⟨(b.block _ (row_lt t.k.row)).trans t.k.row, t.k.base⟩, ok.hold w w' s.s (fun _ => False) t.way (Fr.of_below b) (fun _ _ e => e.elim), t.fuel⟩

theorem St.drewN (ok : WayOk C F fuel way) {n : Nat} {s : Ws σ} (t : St C fuel way n w s) (k : Nat) : St C fuel way n (w.drewN k) s :=
  ⟨⟨t.k.row, t.k.base⟩, ok.hold w _ s.s (fun _ => False) t.way (Fr.drewN (Fr.refl _ _) k) (fun _ _ e => e.elim), t.fuel⟩

theorem At.to_mods0 (t : At C W w hb h A) {l' : List ModN} (L : Listed C 2 modI w hb 9 (headCells h A) 26 l' w') : ∃ A', At C W w' hb { h with mods0 := l' } A' := by
  obtain ⟨⟨a', cap', hr, hk⟩, hf⟩ := L
  have hk' : RowOk C 2 modI W w' a' l' := ⟨hk.row, hk.safe, fun hm x hl hx => ⟨(hk.own hm x hl hx).1, Nat.le_trans t.fr.size (hk.own hm x hl hx).2⟩⟩
  exact ⟨{ A with m0 := a', m0c := cap' }, hr, t.ne, t.base, t.lt, Un.trans t.fr hf (fun _ _ e => e), hk', t.keep t.r1 hf, t.keep t.r2 hf, t.keep t.r3 hf, t.keep t.r4 hf⟩

theorem At.to_mods1 (t : At C W w hb h A) {l' : List ModN} (L : Listed C 2 modI w hb 10 (headCells h A) 26 l' w') : ∃ A', At C W w' hb { h with mods1 := l' } A' := by
  obtain ⟨⟨a', cap', hr, hk⟩, hf⟩ := L
  have hk' : RowOk C 2 modI W w' a' l' := ⟨hk.row, hk.safe, fun hm x hl hx => ⟨(hk.own hm x hl hx).1, Nat.le_trans t.fr.size (hk.own hm x hl hx).2⟩⟩
  exact ⟨{ A with m1 := a', m1c := cap' }, hr, t.ne, t.base, t.lt, Un.trans t.fr hf (fun _ _ e => e), t.keep t.r0 hf, hk', t.keep t.r2 hf, t.keep t.r3 hf, t.keep t.r4 hf⟩

theorem At.to_w0 (t : At C W w hb h A) {l' : List WeightN} (L : Listed C 6 weightI w hb 13 (headCells h A) 26 l' w') : ∃ A', At C W w' hb { h with w0 := l' } A' := by
  obtain ⟨⟨a', cap', hr, hk⟩, hf⟩ := L
  have hk' : RowOk C 6 weightI W w' a' l' := ⟨hk.row, hk.safe, fun hm x hl hx => ⟨(hk.own hm x hl hx).1, Nat.le_trans t.fr.size (hk.own hm x hl hx).2⟩⟩
  exact ⟨{ A with q0 := a', q0c := cap' }, hr, t.ne, t.base, t.lt, Un.trans t.fr hf (fun _ _ e => e), t.keep t.r0 hf, t.keep t.r1 hf, hk', t.keep t.r3 hf, t.keep t.r4 hf⟩

theorem At.to_w1 (t : At C W w hb h A) {l' : List WeightN} (L : Listed C 6 weightI w hb 14 (headCells h A) 26 l' w') : ∃ A', At C W w' hb { h with w1 := l' } A' := by
  obtain ⟨⟨a', cap', hr, hk⟩, hf⟩ := L
  have hk' : RowOk C 6 weightI W w' a' l' := ⟨hk.row, hk.safe, fun hm x hl hx => ⟨(hk.own hm x hl hx).1, Nat.le_trans t.fr.size (hk.own hm x hl hx).2⟩⟩
  exact ⟨{ A with q1 := a', q1c := cap' }, hr, t.ne, t.base, t.lt, Un.trans t.fr hf (fun _ _ e => e), t.keep t.r0 hf, t.keep t.r1 hf, t.keep t.r2 hf, hk', t.keep t.r4 hf⟩

theorem At.to_ops (t : At C W w hb h A) {l' : List OpN} (L : Listed C 3 opI w hb 16 (headCells h A) 26 l' w') : ∃ A', At C W w' hb { h with ops := l' } A' := by
  obtain ⟨⟨a', cap', hr, hk⟩, hf⟩ := L
  have hk' : RowOk C 3 opI W w' a' l' := ⟨hk.row, hk.safe, fun hm x hl hx => ⟨(hk.own hm x hl hx).1, Nat.le_trans t.fr.size (hk.own hm x hl hx).2⟩⟩
  exact ⟨{ A with os := a', osc := cap' }, hr, t.ne, t.base, t.lt, Un.trans t.fr hf (fun _ _ e => e), t.keep t.r0 hf, t.keep t.r1 hf, t.keep t.r2 hf, t.keep t.r3 hf, hk'⟩

end
end Go.Proofs.YthcbgijmnonckaaGreat
