/- Layer 3: the program's reader of fields: plain numbers, flags. -/
import Derived.Test.YtadfgadkihlmcaaQK
namespace Go.Proofs.Ytadfgadkihlmcaa
open Go.RowKit Zo Zp

theorem rpost_drewN {w w' : World} {base b : Nat} {s : ByteArray} {p : Nat} (h : RPost w base b s p w') (n : Nat) : RPost w base b s p (w'.drewN n) := h.drewN n

set_option maxRecDepth 100000 in
theorem plain1_any (w : World) (base b rb pr pn : Nat) (s : ByteArray) (p n : Nat) (h : PRd w base b rb s (some p)) (hr : w.cell? ⟨pr, 0, none⟩ = some (.pointer (some ⟨b, 0, none⟩))) (hn : w.cell? ⟨pn, 0, none⟩ = some (.int .i64 (n : Int))) (hs : s.size ≤ 1048576) :
    Calls Try.prog 74 #[.pointer (some ⟨pr, 0, none⟩), .pointer (some ⟨pn, 0, none⟩)] w fun e w' =>
      e = .returned (.tuple #[.int .i64 ((rdBits (bitAt s) (8 * s.size) p (n : Int)).1 : Int), .int .i64 (rdBits (bitAt s) (8 * s.size) p (n : Int)).2.1]) ∧ RPost w base rb s (rdBits (bitAt s) (8 * s.size) p (n : Int)).2.2 w' := by
  obtain ⟨c0, c1, f1⟩ := prd_cells h
  obtain ⟨_, _, p0, hp, hq⟩ := id h
  obtain rfl := hq p rfl
  have hcall : ∀ k, Calls Try.prog 75 #[.pointer (some ⟨rb, 0, none⟩), .int .i64 (n : Int)] (w.drewN k) fun e w' =>
      e = .returned (.tuple #[.int .i64 ((rdBits (bitAt s) (8 * s.size) p0 (n : Int)).1 : Int), .int .i64 (rdBits (bitAt s) (8 * s.size) p0 (n : Int)).2.1]) ∧ RPost w base rb s (rdBits (bitAt s) (8 * s.size) p0 (n : Int)).2.2 w' := fun k => by
    refine (rBits_any (w.drewN k) base rb s p0 (n : Int) (rpost_drewN ⟨hp, Fr.refl _ _⟩ k).1 (by omega)).mono ?_
    rintro e w' ⟨he, p1⟩
    exact ⟨he, p1.1, Fr.trans (Fr.drewN (Fr.refl _ _) k) p1.2 (fun _ _ h => h)⟩
  have HC := Lib.hid hcall
  generalize rdBits (bitAt s) (8 * s.size) p0 (n : Int) = res at *
  clear hcall hp h hq
  go_enter Try.func74, Try.ntmps74
  go_wp2_with fail
  go_region_with ((go_at_call 75; refine (HC.out 1).mono ?_; rintro e w1 ⟨rfl, p1⟩))
  all_goals
    go_wp2_with fail
    go_ret2
    first
      | exact ⟨rfl, p1⟩
      | exact ⟨rfl, p1.drewN _⟩

theorem PRd.keep {S : Nat → Prop} {w w' : World} {base b rb : Nat} {s : ByteArray} {st : Option Nat} (h : PRd w base b rb s st) (f : Fr S w w') (h1 : ¬ S b) (h2 : ¬ S rb) : PRd w' base b rb s st := by
  obtain ⟨hr, hb, p, hp, hq⟩ := h
  exact ⟨(f.block b (row_lt hr) h1).trans hr, hb, p, hp.fr f h2, hq⟩

theorem PRd.alloc {w : World} {base b rb : Nat} {s : ByteArray} {st : Option Nat} (h : PRd w base b rb s st) (o : Obj) : PRd (w.alloc o) base b rb s st :=
  h.keep (S := fun _ => False) ((Fr.refl _ _).alloc o) (fun h => h) (fun h => h)

set_option maxRecDepth 100000 in
theorem takeBits (w : World) (base b rb pr pn : Nat) (s : ByteArray) (st : Option Nat) (n : Nat) (hn32 : n ≤ 32) (h : PRd w base b rb s st) (hr : w.cell? ⟨pr, 0, none⟩ = some (.pointer (some ⟨b, 0, none⟩))) (hn : w.cell? ⟨pn, 0, none⟩ = some (.int .i64 (n : Int))) (hs : s.size ≤ 1048576) :
    Calls Try.prog 64 #[.pointer (some ⟨b, 0, none⟩), .func (.func 74) #[] #[.pointer (some ⟨pr, 0, none⟩), .pointer (some ⟨pn, 0, none⟩)]] w (PSt w base b rb s (.int .i64 ((sBits (bitAt s) (8 * s.size) n st).1 : Int)) (sBits (bitAt s) (8 * s.size) n st).2) := by
  obtain ⟨c0, c1, f1⟩ := prd_cells h
  cases st with
  | none =>
    rw [sBits_none]
    clear hr hn
    go_enter Try.func64, Try.ntmps64
    go_wp2
    go_ret
    exact ⟨rfl, h, Fr.refl _ _⟩
  | some p =>
    have hcall := plain1_any w base b rb pr pn s p n h hr hn hs
    have hsp := pBits_rd (bitAt s) (8 * s.size) p n hn32
    have hc := rdBits_code (bitAt s) (8 * s.size) p n hn32
    generalize rdBits (bitAt s) (8 * s.size) p (n : Int) = res at *
    generalize sBits (bitAt s) (8 * s.size) n (some p) = out at *
    obtain ⟨x, c, q⟩ := res
    simp only at hc hcall hsp
    have HC := Lib.hid hcall
    have H := Lib.hid h
    clear hcall h hr hn
    rcases hc with hc | ⟨hx, hq, hc⟩
    · subst hc
      rw [if_pos rfl] at hsp
      subst hsp
      go_enter Try.func64, Try.ntmps64
      go_wp2_with fail
      refine HC.out.mono ?_
      rintro e w1 ⟨rfl, p1⟩
      obtain ⟨k1, k2, d1, g1⟩ := H.out.lay p1 (some q) (fun x hx => by simpa using hx.symm)
      have K := Lib.hid (And.intro k1 k2)
      clear k1 k2 p1
      go_wp2_with fail
      go_ret
      exact ⟨rfl, K.out⟩
    · subst hx
      rw [if_neg (by omega)] at hsp
      subst hsp
      have hcb : (c != 0) = true := by simp; omega
      go_enter Try.func64, Try.ntmps64
      go_wp2_with fail
      refine HC.out.mono ?_
      rintro e w1 ⟨rfl, p1⟩
      obtain ⟨k1, k2, d1, g1⟩ := H.out.lay p1 none (fun x hx => by cases hx)
      have K := Lib.hid (And.intro k1 k2)
      clear k1 k2 p1
      go_wp2_with fail
      go_ret
      exact ⟨rfl, K.out⟩

theorem boxed_cells (w : World) (x y : Value) (t u : TypeId) :
    ((w.alloc (.cells #[x] t)).alloc (.cells #[y] u)).cell? ⟨w.heap.size, 0, none⟩ = some x ∧ ((w.alloc (.cells #[x] t)).alloc (.cells #[y] u)).cell? ⟨w.heap.size + 1, 0, none⟩ = some y := by
  have h1 := (heap_alloc_other (o := .cells #[y] u) (show w.heap.size < (w.alloc (.cells #[x] t)).heap.size by simp)).trans (heap_alloc_last w (.cells #[x] t))
  have h2 := heap_alloc_last (w.alloc (.cells #[x] t)) (.cells #[y] u)
  rw [show (w.alloc (.cells #[x] t)).heap.size = w.heap.size + 1 from by simp] at h2
  exact ⟨by rw [cell_of_row _ _ _ _ _ _ h1]; rfl, by rw [cell_of_row _ _ _ _ _ _ h2]; rfl⟩

set_option maxRecDepth 100000 in
theorem pBits3 (w : World) (base b rb : Nat) (s : ByteArray) (st : Option Nat) (n : Nat) (hn32 : n ≤ 32) (h : PRd w base b rb s st) (hs : s.size ≤ 1048576) :
    Calls Try.prog 56 #[.pointer (some ⟨b, 0, none⟩), .int .i64 (n : Int)] w (PSt w base b rb s (.int .i64 ((sBits (bitAt s) (8 * s.size) n st).1 : Int)) (sBits (bitAt s) (8 * s.size) n st).2) := by
  obtain ⟨d0, d1⟩ := boxed_cells w (.pointer (some ⟨b, 0, none⟩)) (.int .i64 (n : Int)) 84 3
  have HT := Lib.hid (takeBits _ base b rb _ _ s st n hn32 ((h.alloc (.cells #[.pointer (some ⟨b, 0, none⟩)] 84)).alloc (.cells #[.int .i64 (n : Int)] 3)) d0 d1 hs)
  have F := Lib.hid (((Fr.refl (fun k => k = b ∨ k = rb) w).alloc (.cells #[.pointer (some ⟨b, 0, none⟩)] 84)).alloc (.cells #[.int .i64 (n : Int)] 3))
  clear h d0 d1
  go_enter Try.func56, Try.ntmps56
  go_wp2_with fail
  refine HT.out.mono ?_
  rintro e w1 ⟨rfl, p1, f1⟩
  have P := Lib.hid (And.intro p1 (F.out.trans f1 (fun _ _ h => h)))
  clear p1 f1
  go_wp2_with fail
  go_ret
  exact ⟨rfl, P.out⟩

set_option maxRecDepth 100000 in
theorem pFlag3 (w : World) (base b rb : Nat) (s : ByteArray) (st : Option Nat) (h : PRd w base b rb s st) (hs : s.size ≤ 1048576) :
    Calls Try.prog 55 #[.pointer (some ⟨b, 0, none⟩)] w (PSt w base b rb s (.bool (((sBits (bitAt s) (8 * s.size) 1 st).1 : Int) == 1)) (sBits (bitAt s) (8 * s.size) 1 st).2) := by
  have HT := Lib.hid (pBits3 w base b rb s st 1 (by omega) h hs)
  generalize sBits (bitAt s) (8 * s.size) 1 st = X at *
  obtain ⟨c, hc⟩ : ∃ c, ((X.1 : Int) == 1) = c := ⟨_, rfl⟩
  rw [hc]
  go_enter Try.func55, Try.ntmps55
  go_wp2_with fail
  refine HT.out.mono ?_
  rintro e w1 ⟨rfl, p1⟩
  have P := Lib.hid p1
  clear p1
  go_wp2_with fail
  go_ret
  exact ⟨rfl, P.out⟩
end Go.Proofs.Ytadfgadkihlmcaa
