/- Layer 3: the document's own reader of fields, which tells 0 behind its first fault. -/
import Derived.Test.YtadfgadkihlmcaaQD
import Derived.Test.YtadfgadkihlmcaaQE
namespace Go.Proofs.Ytadfgadkihlmcaa
open Go.RowKit Zo Zp

/-- Block b is the document's reader of fields over the Reader rb of the bits l; it stands as st says. -/
def SRd (w : World) (base b rb : Nat) (l : List Bool) (st : Option Nat) : Prop :=
  w.heap[b]? = some (.cells #[.pointer (some ⟨rb, 0, none⟩), .bool st.isNone] 100 (0, 0)) ∧ base ≤ b ∧ ∃ p, RRd w base rb l p ∧ ∀ q, st = some q → p = q

theorem RRd.block {w : World} {base b : Nat} {l : List Bool} {p : Nat} (h : RRd w base b l p) : (∃ cs, w.heap[b]? = some (.cells cs 98 (0,0))) ∧ base ≤ b := by
  obtain ⟨g, cap, hr, hb, _⟩ := h
  exact ⟨⟨_, hr⟩, hb⟩

theorem RRd.keep {S : Nat → Prop} {w w' : World} {base b : Nat} {l : List Bool} {p : Nat} (h : RRd w base b l p) (f : Fr S w w') (hb : ¬ S b) (hr5 : ∀ k cs, w.heap[k]? = some (.cells cs 5 (0,0)) → ¬ S k) : RRd w' base b l p := by
  obtain ⟨g, cap, hr, hbb, ho, hp⟩ := h
  refine ⟨g, cap, (f.block b (row_lt hr) hb).trans hr, hbb, ho.fr f (fun k e => ?_), hp⟩
  rcases ho.2 with ⟨hv, _⟩ | ⟨g2, cap2, cur, hv, _, hg, _⟩
  · cases hv
  · simp only [Value.slice.injEq, Option.some.injEq, Addr.mk.injEq] at hv
    obtain ⟨⟨rfl, _⟩, _⟩ := hv
    obtain rfl : g = k := by simpa [Value.ownBlock] using e
    exact hr5 g _ hg

theorem SRd.keep {S : Nat → Prop} {w w' : World} {base b rb : Nat} {l : List Bool} {st : Option Nat} (h : SRd w base b rb l st) (f : Fr S w w')
    (h1 : ∀ k cs, w.heap[k]? = some (.cells cs 100 (0,0)) → ¬ S k) (h2 : ∀ k cs, w.heap[k]? = some (.cells cs 98 (0,0)) → ¬ S k) (h3 : ∀ k cs, w.heap[k]? = some (.cells cs 5 (0,0)) → ¬ S k) : SRd w' base b rb l st := by
  obtain ⟨hr, hb, p, hp, hq⟩ := h
  obtain ⟨⟨cs, hcs⟩, _⟩ := hp.block
  exact ⟨(f.block b (row_lt hr) (h1 b _ hr)).trans hr, hb, p, hp.keep f (h2 rb _ hcs) h3, hq⟩

def SPost (w : World) (base b rb : Nat) (l : List Bool) (v : Value) (st : Option Nat) (e : Ending) (w' : World) : Prop :=
  e = .returned v ∧ SRd w' base b rb l st ∧ Fr (fun k => k = b ∨ k = rb) w w'

theorem pUe_rd (f : Nat → Bool) (T p : Nat) : (sUe f T (some p)) = if (rdUe f T p 2147483646).2.1 = 0 then ((rdUe f T p 2147483646).1, some (rdUe f T p 2147483646).2.2) else (0, none) := by
  rw [sUe, pUe]
  split <;> rename_i h <;> split at h <;> simp_all

theorem pSe_rd (f : Nat → Bool) (T p : Nat) : (sSe f T (some p)) = if (rdUe f T p 2147483646).2.1 = 0 then (unfoldedZ (rdUe f T p 2147483646).1, some (rdUe f T p 2147483646).2.2) else (0, none) := by
  rw [sSe, pSe, pUe]
  split <;> rename_i h <;> split at h <;> simp_all

theorem srd_cells {w : World} {base b rb : Nat} {l : List Bool} {st : Option Nat} (h : SRd w base b rb l st) : w.cell? ⟨b, 0, none⟩ = some (.pointer (some ⟨rb, 0, none⟩)) ∧ w.cell? ⟨b, 1, none⟩ = some (.bool st.isNone) ∧ w.frozen? ⟨b, 1, none⟩ = false := by
  have c0 := cell_of_row w b 0 _ _ _ h.1
  have c1 := cell_of_row w b 1 _ _ _ h.1
  simp at c0 c1
  exact ⟨c0, c1, free_row h.1 1⟩

/-- Behind a call of the Reader beneath: the flag is laid anew. -/
theorem SRd.lay {w w1 : World} {base b rb : Nat} {l : List Bool} {p q : Nat} (h : SRd w base b rb l (some p)) (r : RRPost w base rb l q w1) (st : Option Nat) (hst : ∀ x, st = some x → x = q) :
    SRd (w1.setCell ⟨b, 1, none⟩ (.bool st.isNone)) base b rb l st ∧ Fr (fun k => k = b ∨ k = rb) w (w1.setCell ⟨b, 1, none⟩ (.bool st.isNone)) ∧ w1.cell? ⟨b, 1, none⟩ = some (.bool false) ∧ w1.frozen? ⟨b, 1, none⟩ = false := by
  obtain ⟨hr, hb, p0, hp, _⟩ := h
  obtain ⟨⟨cs, hcs⟩, _⟩ := hp.block
  have hne : b ≠ rb := fun e => by rw [e, hcs] at hr; simp at hr
  have hr1 := (r.2.block b (row_lt hr) hne).trans hr
  have c1 := cell_of_row w1 b 1 _ _ _ hr1
  simp at c1
  refine ⟨⟨(heap_setCell_row hr1 1 _).trans (by simp), hb, q, r.1.keep (S := fun k => k = b) (Fr.setCell (S := fun k => k = b) (Fr.refl _ _) (fun _ => rfl) _) (Ne.symm hne) (fun k cs hk e => by rw [e, hr1] at hk; simp at hk), fun x hx => (hst x hx).symm⟩, ?_, c1, free_row hr1 1⟩
  exact (r.2.mono (fun _ _ h => .inr h)).setCell (fun _ => .inl rfl) _

theorem rdBits_nat (f : Nat → Bool) (T p n : Nat) (hn : n ≤ 32) : rdBits f T p (n : Int) = if T - p < n then (0, 100, p) else (val (win f p n), 0, p + n) := by
  unfold rdBits
  rw [if_neg (show ¬ ((n : Int) < 0 ∨ 32 < (n : Int)) by omega)]
  by_cases h : T - p < n
  · rw [if_pos h, if_pos (by omega)]
  · rw [if_neg h, if_neg (by omega), Int.toNat_natCast]

theorem pBits_rd (f : Nat → Bool) (T p n : Nat) (hn : n ≤ 32) : (sBits f T n (some p)) = if (rdBits f T p (n : Int)).2.1 = 0 then ((rdBits f T p (n : Int)).1, some (rdBits f T p (n : Int)).2.2) else (0, none) := by
  rw [rdBits_nat f T p n hn, sBits, pBits]
  by_cases h : T - p < n
  · simp only [if_pos h]; rfl
  · simp only [if_neg h]; rfl

theorem rdBits_code (f : Nat → Bool) (T p n : Nat) (hn : n ≤ 32) : (rdBits f T p (n : Int)).2.1 = 0 ∨ (rdBits f T p (n : Int)).1 = 0 ∧ (rdBits f T p (n : Int)).2.2 = p ∧ ((rdBits f T p (n : Int)).2.1 = 100 ∨ (rdBits f T p (n : Int)).2.1 = 101) := by
  rw [rdBits_nat f T p n hn]
  by_cases h : T - p < n
  · rw [if_pos h]; exact .inr ⟨rfl, rfl, .inl rfl⟩
  · rw [if_neg h]; exact .inl rfl

theorem unfolded_zero : unfoldedZ 0 = 0 := rfl

set_option maxRecDepth 100000 in
theorem refUe3 (w : World) (base b rb : Nat) (l : List Bool) (st : Option Nat) (h : SRd w base b rb l st) (hl : l.length ≤ 1000000000) :
    Calls Try.prog 46 #[.pointer (some ⟨b, 0, none⟩)] w (SPost w base b rb l (.int .i64 ((sUe (fl l) l.length st).1 : Int)) (sUe (fl l) l.length st).2) := by
  obtain ⟨c0, c1, f1⟩ := srd_cells h
  cases st with
  | none =>
    rw [sUe_none]
    go_enter Try.func46, Try.ntmps46
    go_wp2
    go_ret
    exact ⟨rfl, h, Fr.refl _ _⟩
  | some p =>
    obtain ⟨_, _, p0, hp, hq⟩ := id h
    obtain rfl := hq p rfl
    have hcall := refUe_any w base rb l p0 hp hl
    have hs := pUe_rd (fl l) l.length p0
    have hc := rdUe_code (fl l) l.length p0 2147483646
    generalize rdUe (fl l) l.length p0 2147483646 = res at *
    generalize sUe (fl l) l.length (some p0) = out at *
    obtain ⟨x, c, q⟩ := res
    simp only at hc hcall hs
    have HC := Lib.hid hcall
    have H := Lib.hid h
    clear hcall hp h hq
    rcases hc with hc | ⟨hx, hq, hc⟩
    · subst hc
      rw [if_pos rfl] at hs
      subst hs
      go_enter Try.func46, Try.ntmps46
      go_wp2_with fail
      refine HC.out.mono ?_
      rintro e w1 ⟨rfl, p1⟩
      obtain ⟨k1, k2, d1, g1⟩ := H.out.lay p1 (some q) (fun x hx => by simpa using hx.symm)
      have K := Lib.hid (And.intro k1 k2)
      clear k1 k2 p1
      go_wp2_with fail
      go_ret
      exact ⟨rfl, K.out⟩
    · subst hx
      rw [if_neg (by omega)] at hs
      subst hs
      have hcb : (c != 0) = true := by simp; omega
      go_enter Try.func46, Try.ntmps46
      go_wp2_with fail
      refine HC.out.mono ?_
      rintro e w1 ⟨rfl, p1⟩
      obtain ⟨k1, k2, d1, g1⟩ := H.out.lay p1 none (fun x hx => by cases hx)
      have K := Lib.hid (And.intro k1 k2)
      clear k1 k2 p1
      go_wp2_with fail
      go_ret
      exact ⟨rfl, K.out⟩

set_option maxRecDepth 100000 in
theorem refSe3 (w : World) (base b rb : Nat) (l : List Bool) (st : Option Nat) (h : SRd w base b rb l st) (hl : l.length ≤ 1000000000) :
    Calls Try.prog 47 #[.pointer (some ⟨b, 0, none⟩)] w (SPost w base b rb l (.int .i64 (sSe (fl l) l.length st).1) (sSe (fl l) l.length st).2) := by
  obtain ⟨c0, c1, f1⟩ := srd_cells h
  cases st with
  | none =>
    rw [sSe_none]
    go_enter Try.func47, Try.ntmps47
    go_wp2
    go_ret
    exact ⟨rfl, h, Fr.refl _ _⟩
  | some p =>
    obtain ⟨_, _, p0, hp, hq⟩ := id h
    obtain rfl := hq p rfl
    have hcall := refSe_any w base rb l p0 hp hl
    have hs := pSe_rd (fl l) l.length p0
    have hc := rdUe_code (fl l) l.length p0 2147483646
    generalize rdUe (fl l) l.length p0 2147483646 = res at *
    generalize sSe (fl l) l.length (some p0) = out at *
    obtain ⟨x, c, q⟩ := res
    simp only at hc hcall hs
    have HC := Lib.hid hcall
    have H := Lib.hid h
    clear hcall hp h hq
    rcases hc with hc | ⟨hx, hq, hc⟩
    · subst hc
      rw [if_pos rfl] at hs
      subst hs
      go_enter Try.func47, Try.ntmps47
      go_wp2_with fail
      refine HC.out.mono ?_
      rintro e w1 ⟨rfl, p1⟩
      obtain ⟨k1, k2, d1, g1⟩ := H.out.lay p1 (some q) (fun x hx => by simpa using hx.symm)
      have K := Lib.hid (And.intro k1 k2)
      clear k1 k2 p1
      go_wp2_with fail
      go_ret
      exact ⟨rfl, K.out⟩
    · subst hx
      rw [unfolded_zero] at HC
      rw [if_neg (by omega)] at hs
      subst hs
      have hcb : (c != 0) = true := by simp; omega
      go_enter Try.func47, Try.ntmps47
      go_wp2_with fail
      refine HC.out.mono ?_
      rintro e w1 ⟨rfl, p1⟩
      obtain ⟨k1, k2, d1, g1⟩ := H.out.lay p1 none (fun x hx => by cases hx)
      have K := Lib.hid (And.intro k1 k2)
      clear k1 k2 p1
      go_wp2_with fail
      go_ret
      exact ⟨rfl, K.out⟩

set_option maxRecDepth 100000 in
theorem refBits3 (w : World) (base b rb : Nat) (l : List Bool) (st : Option Nat) (n : Nat) (hn : n ≤ 32) (h : SRd w base b rb l st) (hl : l.length ≤ 1000000000) :
    Calls Try.prog 58 #[.pointer (some ⟨b, 0, none⟩), .int .i64 (n : Int)] w (SPost w base b rb l (.int .i64 ((sBits (fl l) l.length n st).1 : Int)) (sBits (fl l) l.length n st).2) := by
  obtain ⟨c0, c1, f1⟩ := srd_cells h
  cases st with
  | none =>
    rw [sBits_none]
    go_enter Try.func58, Try.ntmps58
    go_wp2
    go_ret
    exact ⟨rfl, h, Fr.refl _ _⟩
  | some p =>
    obtain ⟨_, _, p0, hp, hq⟩ := id h
    obtain rfl := hq p rfl
    have hcall := refBits_any w base rb l p0 (n : Int) hp hl
    have hs := pBits_rd (fl l) l.length p0 n hn
    have hc := rdBits_code (fl l) l.length p0 n hn
    generalize rdBits (fl l) l.length p0 (n : Int) = res at *
    generalize sBits (fl l) l.length n (some p0) = out at *
    obtain ⟨x, c, q⟩ := res
    simp only at hc hcall hs
    have HC := Lib.hid hcall
    have H := Lib.hid h
    clear hcall hp h hq
    rcases hc with hc | ⟨hx, hq, hc⟩
    · subst hc
      rw [if_pos rfl] at hs
      subst hs
      go_enter Try.func58, Try.ntmps58
      go_wp2_with fail
      refine HC.out.mono ?_
      rintro e w1 ⟨rfl, p1⟩
      obtain ⟨k1, k2, d1, g1⟩ := H.out.lay p1 (some q) (fun x hx => by simpa using hx.symm)
      have K := Lib.hid (And.intro k1 k2)
      clear k1 k2 p1
      go_wp2_with fail
      go_ret
      exact ⟨rfl, K.out⟩
    · subst hx
      rw [if_neg (by omega)] at hs
      subst hs
      have hcb : (c != 0) = true := by simp; omega
      go_enter Try.func58, Try.ntmps58
      go_wp2_with fail
      refine HC.out.mono ?_
      rintro e w1 ⟨rfl, p1⟩
      obtain ⟨k1, k2, d1, g1⟩ := H.out.lay p1 none (fun x hx => by cases hx)
      have K := Lib.hid (And.intro k1 k2)
      clear k1 k2 p1
      go_wp2_with fail
      go_ret
      exact ⟨rfl, K.out⟩
end Go.Proofs.Ytadfgadkihlmcaa
