/- Layer 3: the program's reader of fields, which tells 0 behind its first fault. -/
import Derived.Test.YtadfgadkihlmcaaQJ
namespace Go.Proofs.Ytadfgadkihlmcaa
open Go.RowKit Zo Zp

/-- Block b is the program's reader of fields over the Reader rb of s; it stands as st says. -/
def PRd (w : World) (base b rb : Nat) (s : ByteArray) (st : Option Nat) : Prop :=
  w.heap[b]? = some (.cells #[.pointer (some ⟨rb, 0, none⟩), .bool st.isNone] 88 (0, 0)) ∧ base ≤ b ∧ ∃ p, Rd w base rb s p ∧ ∀ q, st = some q → p = q

theorem Rd.block {w : World} {base b : Nat} {s : ByteArray} {p : Nat} (h : Rd w base b s p) : (∃ cs, w.heap[b]? = some (.cells cs 116 (0,0))) ∧ base ≤ b ∧ p ≤ 8 * s.size := by
  obtain ⟨c, ones, hr, hb, _, hp⟩ := h
  exact ⟨⟨_, hr⟩, hb, hp⟩

def PSt (w : World) (base b rb : Nat) (s : ByteArray) (v : Value) (st : Option Nat) (e : Ending) (w' : World) : Prop :=
  e = .returned v ∧ PRd w' base b rb s st ∧ Fr (fun k => k = b ∨ k = rb) w w'

theorem prd_cells {w : World} {base b rb : Nat} {s : ByteArray} {st : Option Nat} (h : PRd w base b rb s st) : w.cell? ⟨b, 0, none⟩ = some (.pointer (some ⟨rb, 0, none⟩)) ∧ w.cell? ⟨b, 1, none⟩ = some (.bool st.isNone) ∧ w.frozen? ⟨b, 1, none⟩ = false := by
  have c0 := cell_of_row w b 0 _ _ _ h.1
  have c1 := cell_of_row w b 1 _ _ _ h.1
  simp at c0 c1
  exact ⟨c0, c1, free_row h.1 1⟩

theorem PRd.lay {w w1 : World} {base b rb : Nat} {s : ByteArray} {p q : Nat} (h : PRd w base b rb s (some p)) (r : RPost w base rb s q w1) (st : Option Nat) (hst : ∀ x, st = some x → x = q) :
    PRd (w1.setCell ⟨b, 1, none⟩ (.bool st.isNone)) base b rb s st ∧ Fr (fun k => k = b ∨ k = rb) w (w1.setCell ⟨b, 1, none⟩ (.bool st.isNone)) ∧ w1.cell? ⟨b, 1, none⟩ = some (.bool false) ∧ w1.frozen? ⟨b, 1, none⟩ = false := by
  obtain ⟨hr, hb, p0, hp, _⟩ := h
  obtain ⟨⟨cs, hcs⟩, _⟩ := hp.block
  have hne : b ≠ rb := fun e => by rw [e, hcs] at hr; simp at hr
  have hr1 := (r.2.block b (row_lt hr) hne).trans hr
  have c1 := cell_of_row w1 b 1 _ _ _ hr1
  simp at c1
  refine ⟨⟨(heap_setCell_row hr1 1 _).trans (by simp), hb, q, r.1.fr (S := fun k => k = b) (Fr.setCell (S := fun k => k = b) (Fr.refl _ _) (fun _ => rfl) _) (Ne.symm hne), fun x hx => (hst x hx).symm⟩, ?_, c1, free_row hr1 1⟩
  exact (r.2.mono (fun _ _ h => .inr h)).setCell (fun _ => .inl rfl) _


set_option maxRecDepth 100000 in
theorem takeUe (w : World) (base b rb : Nat) (s : ByteArray) (st : Option Nat) (h : PRd w base b rb s st) (hs : s.size ≤ 1048576) :
    Calls Try.prog 64 #[.pointer (some ⟨b, 0, none⟩), .func (.func 65) #[.pointer (some ⟨rb, 0, none⟩)] #[]] w (PSt w base b rb s (.int .i64 ((sUe (bitAt s) (8 * s.size) st).1 : Int)) (sUe (bitAt s) (8 * s.size) st).2) := by
  obtain ⟨c0, c1, f1⟩ := prd_cells h
  cases st with
  | none =>
    rw [sUe_none]
    go_enter Try.func64, Try.ntmps64
    go_wp2
    go_ret
    exact ⟨rfl, h, Fr.refl _ _⟩
  | some p =>
    obtain ⟨_, _, p0, hp, hq⟩ := id h
    obtain rfl := hq p rfl
    have hcall := rUe_any w base rb s p0 hp (by omega)
    have hsp := pUe_rd (bitAt s) (8 * s.size) p0
    have hc := rdUe_code (bitAt s) (8 * s.size) p0 2147483646
    generalize rdUe (bitAt s) (8 * s.size) p0 2147483646 = res at *
    generalize sUe (bitAt s) (8 * s.size) (some p0) = out at *
    obtain ⟨x, c, q⟩ := res
    simp only at hc hcall hsp
    have HC := Lib.hid hcall
    have H := Lib.hid h
    clear hcall hp h hq
    rcases hc with hc | ⟨hx, hq, hc⟩
    · subst hc
      rw [if_pos rfl] at hsp
      subst hsp
      go_enter Try.func64, Try.ntmps64
      go_wp2_with fail
      refine HC.out.mono ?_
      rintro e w1 ⟨rfl, p1⟩
      obtain ⟨k1, k2, d1, g1⟩ := H.out.lay p1 (some q) (fun x hx => by simpa using hx.symm)
      have K := Lib.hid (And.intro k1 k2)
      clear k1 k2 p1
      go_wp2_with fail
      go_ret
      exact ⟨rfl, K.out⟩
    · subst hx
      rw [if_neg (by omega)] at hsp
      subst hsp
      have hcb : (c != 0) = true := by simp; omega
      go_enter Try.func64, Try.ntmps64
      go_wp2_with fail
      refine HC.out.mono ?_
      rintro e w1 ⟨rfl, p1⟩
      obtain ⟨k1, k2, d1, g1⟩ := H.out.lay p1 none (fun x hx => by cases hx)
      have K := Lib.hid (And.intro k1 k2)
      clear k1 k2 p1
      go_wp2_with fail
      go_ret
      exact ⟨rfl, K.out⟩

set_option maxRecDepth 100000 in
theorem takeSe (w : World) (base b rb : Nat) (s : ByteArray) (st : Option Nat) (h : PRd w base b rb s st) (hs : s.size ≤ 1048576) :
    Calls Try.prog 64 #[.pointer (some ⟨b, 0, none⟩), .func (.func 66) #[.pointer (some ⟨rb, 0, none⟩)] #[]] w (PSt w base b rb s (.int .i64 (sSe (bitAt s) (8 * s.size) st).1) (sSe (bitAt s) (8 * s.size) st).2) := by
  obtain ⟨c0, c1, f1⟩ := prd_cells h
  cases st with
  | none =>
    rw [sSe_none]
    go_enter Try.func64, Try.ntmps64
    go_wp2
    go_ret
    exact ⟨rfl, h, Fr.refl _ _⟩
  | some p =>
    obtain ⟨_, _, p0, hp, hq⟩ := id h
    obtain rfl := hq p rfl
    have hcall := rSe_any w base rb s p0 hp (by omega)
    have hsp := pSe_rd (bitAt s) (8 * s.size) p0
    have hc := rdUe_code (bitAt s) (8 * s.size) p0 2147483646
    generalize rdUe (bitAt s) (8 * s.size) p0 2147483646 = res at *
    generalize sSe (bitAt s) (8 * s.size) (some p0) = out at *
    obtain ⟨x, c, q⟩ := res
    simp only at hc hcall hsp
    have HC := Lib.hid hcall
    have H := Lib.hid h
    clear hcall hp h hq
    rcases hc with hc | ⟨hx, hq, hc⟩
    · subst hc
      rw [if_pos rfl] at hsp
      subst hsp
      go_enter Try.func64, Try.ntmps64
      go_wp2_with fail
      refine HC.out.mono ?_
      rintro e w1 ⟨rfl, p1⟩
      obtain ⟨k1, k2, d1, g1⟩ := H.out.lay p1 (some q) (fun x hx => by simpa using hx.symm)
      have K := Lib.hid (And.intro k1 k2)
      clear k1 k2 p1
      go_wp2_with fail
      go_ret
      exact ⟨rfl, K.out⟩
    · subst hx
      rw [unfolded_zero] at HC
      rw [if_neg (by omega)] at hsp
      subst hsp
      have hcb : (c != 0) = true := by simp; omega
      go_enter Try.func64, Try.ntmps64
      go_wp2_with fail
      refine HC.out.mono ?_
      rintro e w1 ⟨rfl, p1⟩
      obtain ⟨k1, k2, d1, g1⟩ := H.out.lay p1 none (fun x hx => by cases hx)
      have K := Lib.hid (And.intro k1 k2)
      clear k1 k2 p1
      go_wp2_with fail
      go_ret
      exact ⟨rfl, K.out⟩

set_option maxRecDepth 100000 in
theorem pUe3 (w : World) (base b rb : Nat) (s : ByteArray) (st : Option Nat) (h : PRd w base b rb s st) (hs : s.size ≤ 1048576) :
    Calls Try.prog 39 #[.pointer (some ⟨b, 0, none⟩)] w (PSt w base b rb s (.int .i64 ((sUe (bitAt s) (8 * s.size) st).1 : Int)) (sUe (bitAt s) (8 * s.size) st).2) := by
  obtain ⟨c0, c1, f1⟩ := prd_cells h
  have HT := Lib.hid (takeUe w base b rb s st h hs)
  clear h
  go_enter Try.func39, Try.ntmps39
  go_wp2_with fail
  refine HT.out.mono ?_
  rintro e w1 ⟨rfl, p1⟩
  have P := Lib.hid p1
  clear p1
  go_wp2_with fail
  go_ret
  exact ⟨rfl, P.out⟩

set_option maxRecDepth 100000 in
theorem pSe3 (w : World) (base b rb : Nat) (s : ByteArray) (st : Option Nat) (h : PRd w base b rb s st) (hs : s.size ≤ 1048576) :
    Calls Try.prog 40 #[.pointer (some ⟨b, 0, none⟩)] w (PSt w base b rb s (.int .i64 (sSe (bitAt s) (8 * s.size) st).1) (sSe (bitAt s) (8 * s.size) st).2) := by
  obtain ⟨c0, c1, f1⟩ := prd_cells h
  have HT := Lib.hid (takeSe w base b rb s st h hs)
  clear h
  go_enter Try.func40, Try.ntmps40
  go_wp2_with fail
  refine HT.out.mono ?_
  rintro e w1 ⟨rfl, p1⟩
  have P := Lib.hid p1
  clear p1
  go_wp2_with fail
  go_ret
  exact ⟨rfl, P.out⟩
end Go.Proofs.Ytadfgadkihlmcaa
