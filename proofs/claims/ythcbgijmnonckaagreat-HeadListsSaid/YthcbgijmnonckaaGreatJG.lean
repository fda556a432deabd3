/- Layer 4: the walk's four steps from fields to bits. -/
import Derived.Test.YthcbgijmnonckaaGreatJE
import Derived.Test.YthcbgijmnonckaaGreatJD
import Derived.Test.YthcbgijmnonckaaGreatJA
namespace Go.Proofs.YthcbgijmnonckaaGreat
open Go.RowKit Zo Zp
set_option linter.unusedVariables false

theorem Wk.writer {C : Ctx} {w : World} {c : Int} {base b : Nat} {o : Option Nat} {l : List Bool} (hw : C.own = wown) (k : Wk C w c) (h : Wr w base b o l) : ¬ wsel b o C.kb := by
  intro e
  exact h.not_prot hw C.kb e (Prot.of k.row ⟨by decide, by decide, by decide⟩)

/-- A step that could: what stands behind it. -/
theorem write_done {C : Ctx} (ho : C.own = wown) {w w' : World} {b : Nat} {l : List Bool} {m n : Nat} {f i : Nat} {v : Value} {a : Int × List Bool} (ha : a.2.length ≤ 64) (hn : n + 1 ≤ m) (k : Wk C w 0) (h : wway C.base b w (l, m)) (c : Cell C w f i v) (r : Wlaid C.base b w a l w') :
    St C (fun t : Wbits => t.2) (wway C.base b) n w' ⟨0, (wrote a (l, m)).2⟩ ∧ Post1 C w f i v w' := by
  obtain ⟨o, o', h1, h2, fr⟩ := r
  have f2 : Fr (Un C w (fun _ => False)) w w' := Fr.mono fr (fun j _ e => .inl (h1.not_safe ho j e))
  refine ⟨⟨⟨(fr.block C.kb (row_lt k.row) (k.writer ho h1)).trans k.row, k.base⟩, ⟨⟨o', h2⟩, ?_⟩, ?_⟩, Post1.still c f2⟩
  · have := h.2
    simp only [wrote, List.length_append] at this ⊢
    omega
  · simp only [wrote]
    omega

/-- A step that could not. -/
theorem write_fault {C : Ctx} (ho : C.own = wown) {w w' : World} {b : Nat} {l : List Bool} {m n : Nat} {f i : Nat} {v : Value} {a : Int × List Bool} (ha : a.2.length ≤ 64) (hn : n + 1 ≤ m) (k : Wk C w 0) (h : wway C.base b w (l, m)) (c : Cell C w f i v) (r : Wlaid C.base b w a l w') :
    (St C (fun t : Wbits => t.2) (wway C.base b) n (w'.setCell ⟨C.kb, 21, none⟩ (.int .i64 400)) ⟨400, (wrote a (l, m)).2⟩ ∧ Post1 C w f i v (w'.setCell ⟨C.kb, 21, none⟩ (.int .i64 400))) ∧ w'.cell? ⟨C.kb, 21, none⟩ = some (.int .i64 0) ∧ w'.frozen? ⟨C.kb, 21, none⟩ = false := by
  obtain ⟨st, po⟩ := write_done ho ha hn k h c r
  have hrow := st.k.row
  refine ⟨⟨⟨st.k.lay hrow 400, ?_, st.fuel⟩, po.fault 400⟩, st.k.cell 21 _ rfl, free_row hrow 21⟩
  refine wway_hold ho w' _ _ (fun j => j = C.kb) st.way (set_fr w' C.kb 21 _) (fun j _ e => ?_)
  rw [e]
  exact Prot.of hrow ⟨by decide, by decide, by decide⟩

set_option maxRecDepth 100000 in
theorem wwalk_ue (C : Ctx) (wb : Nat) (hwv : C.wv = wwv wb) (ho : C.own = wown) (w : World) (n : Nat) (t : Ws Wbits) (b i : Nat) (x : Int) (least : Int) (hst : St C (fun t : Wbits => t.2) (wway C.base wb) (n + 1) w t) (c : Cell C w b i (.int .i64 x)) :
    Calls Tryz.prog 83 #[.pointer (some ⟨C.kb, 0, none⟩), .pointer (some ⟨b, i, none⟩), .int .i64 least] w fun e w' =>
      e = .returned (.tuple #[]) ∧ St C (fun t : Wbits => t.2) (wway C.base wb) n w' (fUe writeF x least t).2 ∧ Post1 C w b i (.int .i64 (fUe writeF x least t).1) w' := by
  obtain ⟨tc, l, q⟩ := t
  have c21 : w.cell? ⟨C.kb, 21, none⟩ = some (.int .i64 tc) := hst.k.cell 21 _ rfl
  by_cases h0 : tc = 0
  · subst h0
    have c20 : w.cell? ⟨C.kb, 20, none⟩ = some (wwv wb) := by rw [← hwv]; exact hst.k.cell 20 _ rfl
    unfold wwv at c20
    obtain ⟨hk, hw, hfu⟩ := id hst
    have hlen : l.length ≤ 100000000000 := by have := hw.2; simp only at this; omega
    have HC := Lib.hid (writing_ue w C.base wb l b i x least hw.1 hlen c.cell c.lt)
    have e1 : fUe writeF x least ⟨0, l, q⟩ = (x, ⟨if decide ((ueAns (IntKind.i64.wrap (x - least))).1 = 0) = true then 0 else 400, (wrote (ueAns (IntKind.i64.wrap (x - least))) (l, q)).2⟩) := rfl
    rw [e1]
    have D := Lib.hid (fun w' (r : Wlaid C.base wb w (ueAns (IntKind.i64.wrap (x - least))) l w') => write_done ho (ueAns_len _) hfu hk hw c r)
    have G := Lib.hid (fun w' (r : Wlaid C.base wb w (ueAns (IntKind.i64.wrap (x - least))) l w') => write_fault ho (ueAns_len _) hfu hk hw c r)
    clear e1 hst hk hw c hfu hlen
    generalize (ueAns (IntKind.i64.wrap (x - least))) = res at *
    by_cases hc : res.1 = 0
    · rw [decide_eq_true hc] at HC ⊢
      go_enter Tryz.func83, Tryz.ntmps83
      go_wp2_with fail
      refine HC.out.mono ?_
      rintro e w2 ⟨rfl, r⟩
      have P := Lib.hid (D.out _ r)
      clear r D G HC hc
      go_wp2_with fail
      go_end0
      exact ⟨rfl, P.out⟩
    · rw [decide_eq_false hc] at HC ⊢
      go_enter Tryz.func83, Tryz.ntmps83
      go_wp2_with fail
      refine HC.out.mono ?_
      rintro e w2 ⟨rfl, r⟩
      obtain ⟨g1, g2, g3⟩ := G.out _ r
      have P := Lib.hid g1
      clear r D G HC g1 hc
      go_wp2_with fail
      go_end0
      exact ⟨rfl, P.out⟩
  · rw [fUe_idle (s := (⟨tc, l, q⟩ : Ws Wbits)) h0]
    have S1 := Lib.hid (hst.less (Nat.le_succ n))
    have P := Lib.hid (Post1.still c (Fr.refl _ _))
    have hb : (tc == 0) = false := by simp [h0]
    clear hst c
    go_enter Tryz.func83, Tryz.ntmps83
    go_wp2_with fail
    go_end0
    exact ⟨rfl, S1.out, P.out⟩

set_option maxRecDepth 100000 in
theorem wwalk_se (C : Ctx) (wb : Nat) (hwv : C.wv = wwv wb) (ho : C.own = wown) (w : World) (n : Nat) (t : Ws Wbits) (b i : Nat) (x : Int) (hst : St C (fun t : Wbits => t.2) (wway C.base wb) (n + 1) w t) (c : Cell C w b i (.int .i64 x)) :
    Calls Tryz.prog 117 #[.pointer (some ⟨C.kb, 0, none⟩), .pointer (some ⟨b, i, none⟩)] w fun e w' =>
      e = .returned (.tuple #[]) ∧ St C (fun t : Wbits => t.2) (wway C.base wb) n w' (fSe writeF x t).2 ∧ Post1 C w b i (.int .i64 (fSe writeF x t).1) w' := by
  obtain ⟨tc, l, q⟩ := t
  have c21 : w.cell? ⟨C.kb, 21, none⟩ = some (.int .i64 tc) := hst.k.cell 21 _ rfl
  by_cases h0 : tc = 0
  · subst h0
    have c20 : w.cell? ⟨C.kb, 20, none⟩ = some (wwv wb) := by rw [← hwv]; exact hst.k.cell 20 _ rfl
    unfold wwv at c20
    obtain ⟨hk, hw, hfu⟩ := id hst
    have hlen : l.length ≤ 100000000000 := by have := hw.2; simp only at this; omega
    have HC := Lib.hid (writing_se w C.base wb l b i x hw.1 hlen c.cell c.lt)
    have e1 : fSe writeF x ⟨0, l, q⟩ = (x, ⟨if decide ((seAns x).1 = 0) = true then 0 else 400, (wrote (seAns x) (l, q)).2⟩) := rfl
    rw [e1]
    have D := Lib.hid (fun w' (r : Wlaid C.base wb w (seAns x) l w') => write_done ho (seAns_len _) hfu hk hw c r)
    have G := Lib.hid (fun w' (r : Wlaid C.base wb w (seAns x) l w') => write_fault ho (seAns_len _) hfu hk hw c r)
    clear e1 hst hk hw c hfu hlen
    generalize (seAns x) = res at *
    by_cases hc : res.1 = 0
    · rw [decide_eq_true hc] at HC ⊢
      go_enter Tryz.func117, Tryz.ntmps117
      go_wp2_with fail
      refine HC.out.mono ?_
      rintro e w2 ⟨rfl, r⟩
      have P := Lib.hid (D.out _ r)
      clear r D G HC hc
      go_wp2_with fail
      go_end0
      exact ⟨rfl, P.out⟩
    · rw [decide_eq_false hc] at HC ⊢
      go_enter Tryz.func117, Tryz.ntmps117
      go_wp2_with fail
      refine HC.out.mono ?_
      rintro e w2 ⟨rfl, r⟩
      obtain ⟨g1, g2, g3⟩ := G.out _ r
      have P := Lib.hid g1
      clear r D G HC g1 hc
      go_wp2_with fail
      go_end0
      exact ⟨rfl, P.out⟩
  · rw [fSe_idle (s := (⟨tc, l, q⟩ : Ws Wbits)) h0]
    have S1 := Lib.hid (hst.less (Nat.le_succ n))
    have P := Lib.hid (Post1.still c (Fr.refl _ _))
    have hb : (tc == 0) = false := by simp [h0]
    clear hst c
    go_enter Tryz.func117, Tryz.ntmps117
    go_wp2_with fail
    go_end0
    exact ⟨rfl, S1.out, P.out⟩

set_option maxRecDepth 100000 in
theorem wwalk_plain (C : Ctx) (wb : Nat) (hwv : C.wv = wwv wb) (ho : C.own = wown) (w : World) (n : Nat) (t : Ws Wbits) (b i : Nat) (x : Int) (m : Int) (hst : St C (fun t : Wbits => t.2) (wway C.base wb) (n + 1) w t) (c : Cell C w b i (.int .i64 x)) :
    Calls Tryz.prog 84 #[.pointer (some ⟨C.kb, 0, none⟩), .pointer (some ⟨b, i, none⟩), .int .i64 m] w fun e w' =>
      e = .returned (.tuple #[]) ∧ St C (fun t : Wbits => t.2) (wway C.base wb) n w' (fPlain writeF x m t).2 ∧ Post1 C w b i (.int .i64 (fPlain writeF x m t).1) w' := by
  obtain ⟨tc, l, q⟩ := t
  have c21 : w.cell? ⟨C.kb, 21, none⟩ = some (.int .i64 tc) := hst.k.cell 21 _ rfl
  by_cases h0 : tc = 0
  · subst h0
    have c20 : w.cell? ⟨C.kb, 20, none⟩ = some (wwv wb) := by rw [← hwv]; exact hst.k.cell 20 _ rfl
    unfold wwv at c20
    obtain ⟨hk, hw, hfu⟩ := id hst
    have hlen : l.length ≤ 100000000000 := by have := hw.2; simp only at this; omega
    have HC := Lib.hid (writing_plain w C.base wb l b i x m hw.1 hlen c.cell c.lt)
    have e1 : fPlain writeF x m ⟨0, l, q⟩ = (x, ⟨if decide ((bitsAns x m).1 = 0) = true then 0 else 400, (wrote (bitsAns x m) (l, q)).2⟩) := rfl
    rw [e1]
    have D := Lib.hid (fun w' (r : Wlaid C.base wb w (bitsAns x m) l w') => write_done ho (bitsAns_len _ _) hfu hk hw c r)
    have G := Lib.hid (fun w' (r : Wlaid C.base wb w (bitsAns x m) l w') => write_fault ho (bitsAns_len _ _) hfu hk hw c r)
    clear e1 hst hk hw c hfu hlen
    generalize (bitsAns x m) = res at *
    by_cases hc : res.1 = 0
    · rw [decide_eq_true hc] at HC ⊢
      go_enter Tryz.func84, Tryz.ntmps84
      go_wp2_with fail
      refine HC.out.mono ?_
      rintro e w2 ⟨rfl, r⟩
      have P := Lib.hid (D.out _ r)
      clear r D G HC hc
      go_wp2_with fail
      go_end0
      exact ⟨rfl, P.out⟩
    · rw [decide_eq_false hc] at HC ⊢
      go_enter Tryz.func84, Tryz.ntmps84
      go_wp2_with fail
      refine HC.out.mono ?_
      rintro e w2 ⟨rfl, r⟩
      obtain ⟨g1, g2, g3⟩ := G.out _ r
      have P := Lib.hid g1
      clear r D G HC g1 hc
      go_wp2_with fail
      go_end0
      exact ⟨rfl, P.out⟩
  · rw [fPlain_idle (s := (⟨tc, l, q⟩ : Ws Wbits)) h0]
    have S1 := Lib.hid (hst.less (Nat.le_succ n))
    have P := Lib.hid (Post1.still c (Fr.refl _ _))
    have hb : (tc == 0) = false := by simp [h0]
    clear hst c
    go_enter Tryz.func84, Tryz.ntmps84
    go_wp2_with fail
    go_end0
    exact ⟨rfl, S1.out, P.out⟩

set_option maxRecDepth 100000 in
theorem wwalk_flag (C : Ctx) (wb : Nat) (hwv : C.wv = wwv wb) (ho : C.own = wown) (w : World) (n : Nat) (t : Ws Wbits) (b i : Nat) (x : Bool) (hst : St C (fun t : Wbits => t.2) (wway C.base wb) (n + 1) w t) (c : Cell C w b i (.bool x)) :
    Calls Tryz.prog 110 #[.pointer (some ⟨C.kb, 0, none⟩), .pointer (some ⟨b, i, none⟩)] w fun e w' =>
      e = .returned (.tuple #[]) ∧ St C (fun t : Wbits => t.2) (wway C.base wb) n w' (fFlag writeF x t).2 ∧ Post1 C w b i (.bool (fFlag writeF x t).1) w' := by
  obtain ⟨tc, l, q⟩ := t
  have c21 : w.cell? ⟨C.kb, 21, none⟩ = some (.int .i64 tc) := hst.k.cell 21 _ rfl
  by_cases h0 : tc = 0
  · subst h0
    have c20 : w.cell? ⟨C.kb, 20, none⟩ = some (wwv wb) := by rw [← hwv]; exact hst.k.cell 20 _ rfl
    unfold wwv at c20
    obtain ⟨hk, hw, hfu⟩ := id hst
    have hlen : l.length ≤ 100000000000 := by have := hw.2; simp only at this; omega
    have HC := Lib.hid (writing_flag w C.base wb l b i x hw.1 hlen c.cell c.lt)
    have e1 : fFlag writeF x ⟨0, l, q⟩ = (x, ⟨if decide ((bitsAns (if x then 1 else 0) 1).1 = 0) = true then 0 else 400, (wrote (bitsAns (if x then 1 else 0) 1) (l, q)).2⟩) := rfl
    rw [e1]
    have D := Lib.hid (fun w' (r : Wlaid C.base wb w (bitsAns (if x then 1 else 0) 1) l w') => write_done ho (bitsAns_len _ _) hfu hk hw c r)
    have G := Lib.hid (fun w' (r : Wlaid C.base wb w (bitsAns (if x then 1 else 0) 1) l w') => write_fault ho (bitsAns_len _ _) hfu hk hw c r)
    clear e1 hst hk hw c hfu hlen
    generalize (bitsAns (if x then 1 else 0) 1) = res at *
    by_cases hc : res.1 = 0
    · rw [decide_eq_true hc] at HC ⊢
      go_enter Tryz.func110, Tryz.ntmps110
      go_wp2_with fail
      refine HC.out.mono ?_
      rintro e w2 ⟨rfl, r⟩
      have P := Lib.hid (D.out _ r)
      clear r D G HC hc
      go_wp2_with fail
      go_end0
      exact ⟨rfl, P.out⟩
    · rw [decide_eq_false hc] at HC ⊢
      go_enter Tryz.func110, Tryz.ntmps110
      go_wp2_with fail
      refine HC.out.mono ?_
      rintro e w2 ⟨rfl, r⟩
      obtain ⟨g1, g2, g3⟩ := G.out _ r
      have P := Lib.hid g1
      clear r D G HC g1 hc
      go_wp2_with fail
      go_end0
      exact ⟨rfl, P.out⟩
  · rw [fFlag_idle (s := (⟨tc, l, q⟩ : Ws Wbits)) h0]
    have S1 := Lib.hid (hst.less (Nat.le_succ n))
    have P := Lib.hid (Post1.still c (Fr.refl _ _))
    have hb : (tc == 0) = false := by simp [h0]
    clear hst c
    go_enter Tryz.func110, Tryz.ntmps110
    go_wp2_with fail
    go_end0
    exact ⟨rfl, S1.out, P.out⟩

/-- Reading is a way. -/
theorem read_ok (C : Ctx) (hm : C.moves = true) (rb : Nat) (s : ByteArray) (hwv : C.wv = rwv rb) (ho : C.own = rown rb) (fuel : Nat → Nat) (hf : ∀ p, fuel p = 1000) : WayOk C (readF (bitAt s) (8 * s.size)) fuel (rway C.base rb s) where
  hold := fun w w' p S h f hS => rway_hold ho w w' p S h f hS
  calm := fun e => by rw [hm] at e; cases e
  ue := fun w n t b i x least h c h0 h1 => rwalk_ue C hm rb s hwv ho fuel hf w n t b i x least h0 h1 h c
  se := fun w n t b i x h c => rwalk_se C hm rb s hwv ho fuel hf w n t b i x h c
  plain := fun w n t b i x m h c h0 h1 => rwalk_plain C hm rb s hwv ho fuel hf w n t b i x m h0 h1 h c
  flag := fun w n t b i x h c => rwalk_flag C hm rb s hwv ho fuel hf w n t b i x h c

/-- Writing is one. -/
theorem write_ok (C : Ctx) (wb : Nat) (hwv : C.wv = wwv wb) (ho : C.own = wown) : WayOk C writeF (fun t : Wbits => t.2) (wway C.base wb) where
  hold := fun w w' p S h f hS => wway_hold ho w w' p S h f hS
  calm := fun _ _ _ _ => rfl
  ue := fun w n t b i x least h c h0 h1 => wwalk_ue C wb hwv ho w n t b i x least h c
  se := fun w n t b i x h c => wwalk_se C wb hwv ho w n t b i x h c
  plain := fun w n t b i x m h c h0 h1 => wwalk_plain C wb hwv ho w n t b i x m h c
  flag := fun w n t b i x h c => wwalk_flag C wb hwv ho w n t b i x h c

end Go.Proofs.YthcbgijmnonckaaGreat
/- Layer 4: the walk, whichever way: what ends it; an item of each list. -/
namespace Go.Proofs.YthcbgijmnonckaaGreat
open Go.RowKit Zo Zp
set_option linter.unusedVariables false

section
variable {σ : Type} {C : Ctx} {F : WayFns σ} {fuel : σ → Nat} {way : World → σ → Prop}

theorem St.lay (ok : WayOk C F fuel way) {n : Nat} {w : World} {s : Ws σ} (h : St C fuel way n w s) (c' : Int) : St C fuel way n (w.setCell ⟨C.kb, 21, none⟩ (.int .i64 c')) ⟨c', s.s⟩ :=
  ⟨h.k.lay h.k.row c', ok.hold w _ s.s (fun j => j = C.kb) h.way (set_fr w C.kb 21 _) (fun j _ e => by rw [e]; exact Prot.of h.k.row ⟨by decide, by decide, by decide⟩), h.fuel⟩

theorem lay_fr (C : Ctx) (w : World) (v : Value) : Fr (Un C w (fun _ => False)) w (w.setCell ⟨C.kb, 21, none⟩ v) :=
  Fr.mono (set_fr w C.kb 21 v) (fun _ _ e => .inr (.inl e))

theorem St.alloc (ok : WayOk C F fuel way) {n : Nat} {w : World} {s : Ws σ} (h : St C fuel way n w s) (o : Obj) : St C fuel way n (w.alloc o) s :=
  ⟨⟨(heap_alloc_other (row_lt h.k.row)).trans h.k.row, h.k.base⟩, ok.hold w _ s.s (fun _ => False) h.way ((Fr.refl _ _).alloc o) (fun _ _ e => e.elim), h.fuel⟩

set_option maxRecDepth 100000 in
theorem ask_any (ok : WayOk C F fuel way) (w : World) (n : Nat) (s : Ws σ) (may : Bool) (hst : St C fuel way n w s) :
    Calls Tryz.prog 61 #[.pointer (some ⟨C.kb, 0, none⟩), .bool may] w fun e w' => e = .returned (.tuple #[]) ∧ St C fuel way n w' (fAsk may s) ∧ Fr (Un C w (fun _ => False)) w w' := by
  have c21 : w.cell? ⟨C.kb, 21, none⟩ = some (.int .i64 s.c) := hst.k.cell 21 _ rfl
  have z21 : w.frozen? ⟨C.kb, 21, none⟩ = false := free_row hst.k.row 21
  have S1 := Lib.hid hst
  by_cases h0 : s.c = 0
  · cases may
    · have S2 := Lib.hid (hst.lay ok 401)
      have F2 := Lib.hid (lay_fr C w (.int .i64 401))
      have e1 : fAsk false s = ⟨401, s.s⟩ := if_pos ⟨h0, rfl⟩
      rw [e1]
      rw [h0] at c21
      clear hst h0 e1
      go_enter Tryz.func61, Tryz.ntmps61
      go_wp2_with fail
      go_end0
      exact ⟨rfl, S2.out, F2.out⟩
    · have e1 : fAsk true s = s := if_neg (fun e => by cases e.2)
      rw [e1]
      rw [h0] at c21
      clear hst h0 e1
      go_enter Tryz.func61, Tryz.ntmps61
      go_wp2_with fail
      go_end0
      exact ⟨rfl, S1.out, Fr.refl _ _⟩
  · rw [fAsk_idle h0]
    have hb : (s.c == 0) = false := by simp [h0]
    generalize s.c = sc at *
    clear hst h0
    go_enter Tryz.func61, Tryz.ntmps61
    go_wp2_with fail
    go_end0
    exact ⟨rfl, S1.out, Fr.refl _ _⟩

theorem Did.of1 {w w' : World} {b i : Nat} {v : Value} {K : Nat → Prop} (p : Post1 C w b i v w') (h : K i) : Did C w b K w' :=
  ⟨p.did.fr, fun q hq => p.did.other q (fun e => hq (e ▸ h)), p.did.safe⟩

theorem Did.fr1 {w w' w2 : World} {b : Nat} {K : Nat → Prop} (d : Did C w b K w') {i : Nat} {v : Value} (c : Cell C w' b i v) (f : Fr (Un C w' (fun _ => False)) w' w2) : Did C w b K w2 :=
  ⟨Un.trans d.fr f (fun _ _ e => e.elim), fun q hq => (Fr.cell f c.lt (not_un c.safe c.ne (fun _ e => e)) q).trans (d.other q hq), c.safe.eq (f.block b c.lt (not_un c.safe c.ne (fun _ e => e)))⟩

theorem Did.next {w w1 w2 : World} {b i : Nat} {v : Value} {K : Nat → Prop} (d : Did C w b K w1) (p : Post1 C w1 b i v w2) (h : K i) : Did C w b K w2 :=
  d.trans p.did (fun _ e => e) (fun q e => e ▸ h)

theorem Cell.step {w w' : World} {b i j : Nat} {v u : Value} (c : Cell C w b i v) (p : Post1 C w b j u w') (h : i ≠ j) : Cell C w' b i v := c.keep p.did h

theorem Cell.stay {w w' : World} {b i : Nat} {v : Value} (c : Cell C w b i v) (f : Fr (Un C w (fun _ => False)) w w') : Cell C w' b i v := c.fr f (fun _ e => e)

set_option maxRecDepth 100000 in
theorem mod_any (ok : WayOk C F fuel way) (w : World) (n : Nat) (s : Ws σ) (b o : Nat) (m : ModN) (hst : St C fuel way (n + 2) w s) (c0 : Cell C w b o (.int .i64 m.kind)) (c1 : Cell C w b (o + 1) (.int .i64 m.v)) :
    Calls Tryz.prog 112 #[.pointer (some ⟨C.kb, 0, none⟩), .pointer (some ⟨b, o, none⟩)] w fun e w' =>
      e = .returned (.tuple #[]) ∧ St C fuel way n w' (fMod F m s).2 ∧ Did C w b (fun q => o ≤ q ∧ q < o + 2) w' ∧ Cell C w' b o (.int .i64 (fMod F m s).1.kind) ∧ Cell C w' b (o + 1) (.int .i64 (fMod F m s).1.v) := by
  obtain ⟨kind, v⟩ := m
  have OK := Lib.hid ok
  have C0 := Lib.hid c0
  have C1 := Lib.hid c1
  have S0 := Lib.hid hst
  have E : fMod F ⟨kind, v⟩ s = (⟨(fUe F kind 0 s).1, (fUe F v 0 (fUe F kind 0 s).2).1⟩, (fUe F v 0 (fUe F kind 0 s).2).2) := rfl
  rw [E]
  clear ok c0 c1 hst E
  go_enter Tryz.func112, Tryz.ntmps112
  go_wp2_with fail
  refine (OK.out.ue _ (n + 1) s b o kind 0 S0.out C0.out (by omega) (by omega)).mono ?_
  rintro e w1 ⟨rfl, s1, p1⟩
  have S1 := Lib.hid s1
  have P1 := Lib.hid p1
  clear s1 p1
  go_wp2_with fail
  refine (OK.out.ue _ n _ b (o + 1) v 0 S1.out (C1.out.step P1.out (by omega)) (by omega) (by omega)).mono ?_
  rintro e w2 ⟨rfl, s2, p2⟩
  have P2 := Lib.hid p2
  have S2 := Lib.hid s2
  clear s2 p2
  go_wp2_with fail
  go_end0
  exact ⟨rfl, S2.out, (Did.of1 P1.out ⟨by omega, by omega⟩).next P2.out ⟨by omega, by omega⟩, P1.out.cell.step P2.out (by omega), P2.out.cell⟩
end
end Go.Proofs.YthcbgijmnonckaaGreat
