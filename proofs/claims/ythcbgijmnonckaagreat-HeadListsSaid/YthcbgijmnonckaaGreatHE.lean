/- Layer 4: lists of a header as rows; the program's within, limit, all. -/
import Derived.Test.YthcbgijmnonckaaGreatHB
import Derived.Test.YthcbgijmnonckaaGreatRS
import Derived.Laws.Unary
import Derived.Deep.MidRow
namespace Go.Proofs.YthcbgijmnonckaaGreat
open Go.RowKit Zo Zp
set_option linter.unusedVariables false

def modI (m : ModN) : List Int := [m.kind, m.v]
def opI (o : OpN) : List Int := [o.kind, o.a, o.b]
def weightI (w : WeightN) : List Int := [w.s0, w.s1, w.s2, w.o0, w.o1, w.o2]
def intI (x : Int) : List Int := [x]

/-- Structs of k integers each, in a row. -/
def KRow {α : Type} (k : Nat) (cells : α → List Int) (w : World) (a : Option Addr) (l : List α) : Prop :=
  l ≠ [] → ∃ b o, a = some ⟨b, o, none⟩ ∧ b < w.heap.size ∧ ∀ i (h : i < l.length), ∀ j x, (cells l[i])[j]? = some x → w.cell? ⟨b, o + i * k + j, none⟩ = some (.int .i64 x)

theorem KRow.nil {α : Type} (k : Nat) (cells : α → List Int) (w : World) (a : Option Addr) : KRow k cells w a [] := fun h => absurd rfl h

theorem KRow.fr {α : Type} {k : Nat} {cells : α → List Int} {S : Nat → Prop} {w w' : World} {a : Option Addr} {l : List α} (h : KRow k cells w a l) (f : Fr S w w') (hs : ∀ x, a = some x → ¬ S x.block) : KRow k cells w' a l := by
  intro hl
  obtain ⟨b, o, ha, hb, hc⟩ := h hl
  refine ⟨b, o, ha, Nat.lt_of_lt_of_le hb f.size, fun i hi j x hx => ?_⟩
  have e := f.block b hb (hs _ ha)
  have := hc i hi j x hx
  simp only [World.cell?] at this ⊢
  rw [e]
  exact this

theorem KRow.below {α : Type} {k : Nat} {cells : α → List Int} {B : Nat} {w w' : World} {a : Option Addr} {l : List α} (h : KRow k cells w a l) (f : Below B w w') (hB : w.heap.size ≤ B) : KRow k cells w' a l := by
  intro hl
  obtain ⟨b, o, ha, hb, hc⟩ := h hl
  refine ⟨b, o, ha, Nat.lt_of_lt_of_le hb f.size, fun i hi j x hx => ?_⟩
  have e := f.block b (by omega)
  have := hc i hi j x hx
  simp only [World.cell?] at this ⊢
  rw [e]
  exact this

theorem KRow.at {α : Type} {k : Nat} {cells : α → List Int} {w : World} {a : Option Addr} {l : List α} (h : KRow k cells w a l) {i : Nat} (hi : i < l.length) :
    ∃ b o, a = some ⟨b, o, none⟩ ∧ b < w.heap.size ∧ ∀ j x, (cells l[i])[j]? = some x → w.cell? ⟨b, o + i * k + j, none⟩ = some (.int .i64 x) := by
  obtain ⟨b, o, ha, hb, hc⟩ := h (by intro e; rw [e] at hi; simp at hi)
  exact ⟨b, o, ha, hb, hc i hi⟩

theorem within_any (w : World) (x a b : Int) : Calls Tryz.prog 75 #[.int .i64 x, .int .i64 a, .int .i64 b] w fun e w' => e = .returned (.bool (inB x a b)) ∧ w = w' := by
  by_cases h1 : a ≤ x
  · by_cases h2 : x ≤ b
    · go_enter Tryz.func75, Tryz.ntmps75
      go_wp2_with fail
      go_ret
      exact ⟨ret_bool (by simp [inB, h1, h2]), rfl⟩
    · have h3 : b < x := by omega
      go_enter Tryz.func75, Tryz.ntmps75
      go_wp2_with fail
      go_ret
      exact ⟨ret_bool (by simp [inB, h1, h3]), rfl⟩
  · have h3 : x < a := by omega
    go_enter Tryz.func75, Tryz.ntmps75
    go_wp2_with fail
    go_ret
    exact ⟨ret_bool (by simp [inB]; omega), rfl⟩

theorem limit_any (w : World) (u : Bool) (m : Int) : Calls Tryz.prog 101 #[.bool u, .int .i64 m] w fun e w' => e = .returned (.int .i64 (if u then m else 0)) ∧ w = w' := by
  cases u
  all_goals
    go_enter Tryz.func101, Tryz.ntmps101
    go_wp2_with fail
    go_ret
    exact ⟨rfl, rfl⟩

theorem take_all {α : Type} (l : List α) (m : α → Bool) (j : Nat) (h : j < l.length) (ht : (l.take j).all m = true) (hx : m l[j] = true) : (l.take (j + 1)).all m = true := by
  rw [List.take_succ_eq_append_getElem h, List.all_append, ht]
  simp [hx]

theorem all_no {α : Type} (l : List α) (m : α → Bool) (j : Nat) (h : j < l.length) (hx : m l[j] = false) : l.all m = false := by
  cases e : l.all m with
  | false => rfl
  | true =>
    rw [List.all_eq_true] at e
    have := e l[j] (List.getElem_mem h)
    rw [hx] at this
    cases this

set_option maxRecDepth 100000 in
set_option maxHeartbeats 2000000 in
theorem allMod_any (w : World) (m : ModN → Bool) (l : List ModN) (a : Option Addr) (cap : Nat) (h : KRow 2 modI w a l) (hl : l.length ≤ 1000000000)
    (hg : ∀ (x : ModN) (w1 : World), Calls Tryz.prog 103 #[.agg #[.int .i64 x.kind, .int .i64 x.v]] w1 fun e w' => e = .returned (.bool (m x)) ∧ Below w1.heap.size w1 w') :
    Calls Tryz.prog 102 #[.slice a l.length cap, .func (.func 103) #[] #[]] w fun e w' => e = .returned (.bool (l.all m)) ∧ Below w.heap.size w w' := by
  have H := Lib.hid h
  have HG := Lib.hid hg
  clear h hg
  go_enter Tryz.func102, Tryz.ntmps102
  go_wp2_with fail
  go_loopg [9] l.length (fun q i wr => ∃ j : Nat, j + q = l.length ∧ i = .int .i64 (j : Int) ∧ Aside ((l.take j).all m = true) ∧ Hid (Below w.heap.size w wr))
  case atStart => exact ⟨0, by omega, rfl, (by simp : (l.take 0).all m = true), Below.refl _ _⟩
  case round =>
    obtain ⟨j, hq, rfl, AL, B⟩ := hrel
    by_cases hlt : j < l.length
    · obtain ⟨b, off, rfl, hb, hcell⟩ := (H.out.below B.out (Nat.le_refl _)).at hlt
      have HT := Lib.hid (take_all l m j hlt AL)
      have HF := Lib.hid (all_no l m j hlt)
      generalize hx : l[j] = x at *
      obtain ⟨v0, v1⟩ := x
      have c0 : wr.cell? ⟨b, off + j * 2, none⟩ = some (.int .i64 v0) := hcell 0 v0 rfl
      have c1 : wr.cell? ⟨b, off + j * 2 + 1, none⟩ = some (.int .i64 v1) := hcell 1 v1 rfl
      obtain ⟨bx, hbx⟩ : ∃ y, m ⟨v0, v1⟩ = y := ⟨_, rfl⟩
      have hg2 := fun w1 => HG.out ⟨v0, v1⟩ w1
      rw [hbx] at hg2
      have HG2 := Lib.hid hg2
      have D := Lib.hid (B.out.alloc B.out.size (.cells #[.int .i64 v0, .int .i64 v1] 128))
      have HX := Lib.hid hbx
      clear hcell hx AL hg2 hbx
      have r := heap_alloc_last wr (.cells #[.int .i64 v0, .int .i64 v1] 128)
      go_wp2_with fail
      refine (HG2.out _).mono ?_
      rintro e w2 ⟨rfl, b2⟩
      have D2 := Lib.hid (D.out.trans (b2.mono D.out.size))
      clear b2 r
      cases bx
      · go_wp2_with fail
        go_ret
        exact ⟨ret_bool (HF.out HX.out).symm, D2.out⟩
      · go_wp2_with fail
        go_roundg (gk - 1)
        case measure => omega
        case rel => exact ⟨j + 1, by omega, by go_num, HT.out HX.out, D2⟩
    · obtain rfl : j = l.length := by omega
      go_wp2_with fail
      go_ret
      rw [List.take_length] at AL
      exact ⟨ret_bool (show true = l.all m from (show l.all m = true from AL).symm), B.out⟩

set_option maxRecDepth 100000 in
set_option maxHeartbeats 2000000 in
theorem allOp_any (w : World) (m : OpN → Bool) (l : List OpN) (a : Option Addr) (cap : Nat) (h : KRow 3 opI w a l) (hl : l.length ≤ 1000000000)
    (hg : ∀ (x : OpN) (w1 : World), Calls Tryz.prog 109 #[.agg #[.int .i64 x.kind, .int .i64 x.a, .int .i64 x.b]] w1 fun e w' => e = .returned (.bool (m x)) ∧ Below w1.heap.size w1 w') :
    Calls Tryz.prog 108 #[.slice a l.length cap, .func (.func 109) #[] #[]] w fun e w' => e = .returned (.bool (l.all m)) ∧ Below w.heap.size w w' := by
  have H := Lib.hid h
  have HG := Lib.hid hg
  clear h hg
  go_enter Tryz.func108, Tryz.ntmps108
  go_wp2_with fail
  go_loopg [9] l.length (fun q i wr => ∃ j : Nat, j + q = l.length ∧ i = .int .i64 (j : Int) ∧ Aside ((l.take j).all m = true) ∧ Hid (Below w.heap.size w wr))
  case atStart => exact ⟨0, by omega, rfl, (by simp : (l.take 0).all m = true), Below.refl _ _⟩
  case round =>
    obtain ⟨j, hq, rfl, AL, B⟩ := hrel
    by_cases hlt : j < l.length
    · obtain ⟨b, off, rfl, hb, hcell⟩ := (H.out.below B.out (Nat.le_refl _)).at hlt
      have HT := Lib.hid (take_all l m j hlt AL)
      have HF := Lib.hid (all_no l m j hlt)
      generalize hx : l[j] = x at *
      obtain ⟨v0, v1, v2⟩ := x
      have c0 : wr.cell? ⟨b, off + j * 3, none⟩ = some (.int .i64 v0) := hcell 0 v0 rfl
      have c1 : wr.cell? ⟨b, off + j * 3 + 1, none⟩ = some (.int .i64 v1) := hcell 1 v1 rfl
      have c2 : wr.cell? ⟨b, off + j * 3 + 2, none⟩ = some (.int .i64 v2) := hcell 2 v2 rfl
      obtain ⟨bx, hbx⟩ : ∃ y, m ⟨v0, v1, v2⟩ = y := ⟨_, rfl⟩
      have hg2 := fun w1 => HG.out ⟨v0, v1, v2⟩ w1
      rw [hbx] at hg2
      have HG2 := Lib.hid hg2
      have D := Lib.hid (B.out.alloc B.out.size (.cells #[.int .i64 v0, .int .i64 v1, .int .i64 v2] 69))
      have HX := Lib.hid hbx
      clear hcell hx AL hg2 hbx
      have r := heap_alloc_last wr (.cells #[.int .i64 v0, .int .i64 v1, .int .i64 v2] 69)
      go_wp2_with fail
      refine (HG2.out _).mono ?_
      rintro e w2 ⟨rfl, b2⟩
      have D2 := Lib.hid (D.out.trans (b2.mono D.out.size))
      clear b2 r
      cases bx
      · go_wp2_with fail
        go_ret
        exact ⟨ret_bool (HF.out HX.out).symm, D2.out⟩
      · go_wp2_with fail
        go_roundg (gk - 1)
        case measure => omega
        case rel => exact ⟨j + 1, by omega, by go_num, HT.out HX.out, D2⟩
    · obtain rfl : j = l.length := by omega
      go_wp2_with fail
      go_ret
      rw [List.take_length] at AL
      exact ⟨ret_bool (show true = l.all m from (show l.all m = true from AL).symm), B.out⟩

set_option maxRecDepth 100000 in
set_option maxHeartbeats 2000000 in
theorem allWeight_any (w : World) (m : WeightN → Bool) (l : List WeightN) (a : Option Addr) (cap : Nat) (h : KRow 6 weightI w a l) (hl : l.length ≤ 1000000000)
    (hg : ∀ (x : WeightN) (w1 : World), Calls Tryz.prog 105 #[.agg #[.int .i64 x.s0, .int .i64 x.s1, .int .i64 x.s2, .int .i64 x.o0, .int .i64 x.o1, .int .i64 x.o2]] w1 fun e w' => e = .returned (.bool (m x)) ∧ Below w1.heap.size w1 w') :
    Calls Tryz.prog 104 #[.slice a l.length cap, .func (.func 105) #[] #[]] w fun e w' => e = .returned (.bool (l.all m)) ∧ Below w.heap.size w w' := by
  have H := Lib.hid h
  have HG := Lib.hid hg
  clear h hg
  go_enter Tryz.func104, Tryz.ntmps104
  go_wp2_with fail
  go_loopg [9] l.length (fun q i wr => ∃ j : Nat, j + q = l.length ∧ i = .int .i64 (j : Int) ∧ Aside ((l.take j).all m = true) ∧ Hid (Below w.heap.size w wr))
  case atStart => exact ⟨0, by omega, rfl, (by simp : (l.take 0).all m = true), Below.refl _ _⟩
  case round =>
    obtain ⟨j, hq, rfl, AL, B⟩ := hrel
    by_cases hlt : j < l.length
    · obtain ⟨b, off, rfl, hb, hcell⟩ := (H.out.below B.out (Nat.le_refl _)).at hlt
      have HT := Lib.hid (take_all l m j hlt AL)
      have HF := Lib.hid (all_no l m j hlt)
      generalize hx : l[j] = x at *
      obtain ⟨v0, v1, v2, v3, v4, v5⟩ := x
      have c0 : wr.cell? ⟨b, off + j * 6, none⟩ = some (.int .i64 v0) := hcell 0 v0 rfl
      have c1 : wr.cell? ⟨b, off + j * 6 + 1, none⟩ = some (.int .i64 v1) := hcell 1 v1 rfl
      have c2 : wr.cell? ⟨b, off + j * 6 + 2, none⟩ = some (.int .i64 v2) := hcell 2 v2 rfl
      have c3 : wr.cell? ⟨b, off + j * 6 + 3, none⟩ = some (.int .i64 v3) := hcell 3 v3 rfl
      have c4 : wr.cell? ⟨b, off + j * 6 + 4, none⟩ = some (.int .i64 v4) := hcell 4 v4 rfl
      have c5 : wr.cell? ⟨b, off + j * 6 + 5, none⟩ = some (.int .i64 v5) := hcell 5 v5 rfl
      obtain ⟨bx, hbx⟩ : ∃ y, m ⟨v0, v1, v2, v3, v4, v5⟩ = y := ⟨_, rfl⟩
      have hg2 := fun w1 => HG.out ⟨v0, v1, v2, v3, v4, v5⟩ w1
      rw [hbx] at hg2
      have HG2 := Lib.hid hg2
      have D := Lib.hid (B.out.alloc B.out.size (.cells #[.int .i64 v0, .int .i64 v1, .int .i64 v2, .int .i64 v3, .int .i64 v4, .int .i64 v5] 73))
      have HX := Lib.hid hbx
      clear hcell hx AL hg2 hbx
      have r := heap_alloc_last wr (.cells #[.int .i64 v0, .int .i64 v1, .int .i64 v2, .int .i64 v3, .int .i64 v4, .int .i64 v5] 73)
      go_wp2_with fail
      refine (HG2.out _).mono ?_
      rintro e w2 ⟨rfl, b2⟩
      have D2 := Lib.hid (D.out.trans (b2.mono D.out.size))
      clear b2 r
      cases bx
      · go_wp2_with fail
        go_ret
        exact ⟨ret_bool (HF.out HX.out).symm, D2.out⟩
      · go_wp2_with fail
        go_roundg (gk - 1)
        case measure => omega
        case rel => exact ⟨j + 1, by omega, by go_num, HT.out HX.out, D2⟩
    · obtain rfl : j = l.length := by omega
      go_wp2_with fail
      go_ret
      rw [List.take_length] at AL
      exact ⟨ret_bool (show true = l.all m from (show l.all m = true from AL).symm), B.out⟩

end Go.Proofs.YthcbgijmnonckaaGreat
/- Layer 4: which modifications, weights, operations, lists of references there may be, as the program tells it. -/
namespace Go.Proofs.YthcbgijmnonckaaGreat
open Go.RowKit Zo Zp
set_option linter.unusedVariables false

theorem modMay (a b : Int) : (inB a 0 2 && inB b 0 255) = decide (ModN.may ⟨a, b⟩) := by
  rw [Bool.eq_iff_iff, decide_eq_true_iff]
  simp [inB, ModN.may, inZ]

theorem mayMod_any (w : World) (m : ModN) : Calls Tryz.prog 103 #[.agg #[.int .i64 m.kind, .int .i64 m.v]] w fun e w' => e = .returned (.bool (decide m.may)) ∧ Below w.heap.size w w' := by
  obtain ⟨a, b⟩ := m
  rw [← modMay]
  simp only
  have HB := Lib.hid ((Below.refl w.heap.size w).alloc (Nat.le_refl _) (.cells #[.int .i64 a, .int .i64 b] 128))
  go_enter Tryz.func103, Tryz.ntmps103
  go_wp2_with (go_at_call 75; refine (within_any _ _ _ _).mono ?_; rintro e w' ⟨rfl, rfl⟩)
  all_goals
    go_ret
    exact ⟨ret_bool (by simp [*]), HB.out⟩

def byteZ (x : Int) : Bool := inB x (-128) 127

theorem scale_any (w : World) (x : Int) : Calls Tryz.prog 126 #[.int .i64 x] w fun e w' => e = .returned (.bool (byteZ x)) ∧ w = w' := by
  go_enter Tryz.func126, Tryz.ntmps126
  go_wp2_with (go_at_call 75; refine (within_any _ _ _ _).mono ?_; rintro e w' ⟨rfl, rfl⟩)
  go_ret
  exact ⟨rfl, rfl⟩

set_option maxRecDepth 100000 in
theorem allInts_any (w : World) (l : List Int) (a : Option Addr) (cap : Nat) (h : IntRow w a l) (hl : l.length ≤ 1000000000) :
    Calls Tryz.prog 127 #[.slice a l.length cap, .func (.func 126) #[] #[]] w fun e w' => e = .returned (.bool (l.all byteZ)) ∧ w = w' := by
  have H := Lib.hid h
  clear h
  go_enter Tryz.func127, Tryz.ntmps127
  go_wp2_with fail
  go_loopg [9] l.length (fun q i wr => ∃ j : Nat, j + q = l.length ∧ i = .int .i64 (j : Int) ∧ Aside ((l.take j).all byteZ = true) ∧ w = wr)
  case atStart => exact ⟨0, by omega, rfl, (by simp : (l.take 0).all byteZ = true), rfl⟩
  case round =>
    obtain ⟨j, hq, rfl, AL, rfl⟩ := hrel
    by_cases hlt : j < l.length
    · obtain ⟨b, off, rfl, hb, hcell⟩ := H.out.at hlt
      have HT := Lib.hid (take_all l byteZ j hlt AL)
      have HF := Lib.hid (all_no l byteZ j hlt)
      generalize l[j] = x at *
      obtain ⟨bx, hbx⟩ : ∃ y, byteZ x = y := ⟨_, rfl⟩
      have hg2 := fun w1 => scale_any w1 x
      rw [hbx] at hg2
      have HG2 := Lib.hid hg2
      have HX := Lib.hid hbx
      clear AL hg2 hbx
      go_wp2_with fail
      refine (HG2.out _).mono ?_
      rintro e w2 ⟨rfl, rfl⟩
      cases bx
      · go_wp2_with fail
        go_ret
        exact ⟨ret_bool (HF.out HX.out).symm, rfl⟩
      · go_wp2_with fail
        go_roundg (gk - 1)
        case measure => omega
        case rel => exact ⟨j + 1, by omega, by go_num, HT.out HX.out, rfl⟩
    · obtain rfl : j = l.length := by omega
      go_wp2_with fail
      go_ret
      rw [List.take_length] at AL
      exact ⟨ret_bool (show true = l.all byteZ from (show l.all byteZ = true from AL).symm), rfl⟩

theorem weightMay (a b c d e g : Int) : (([a, b, c].all byteZ) && ([d, e, g].all byteZ)) = decide (WeightN.may ⟨a, b, c, d, e, g⟩) := by
  rw [Bool.eq_iff_iff, decide_eq_true_iff]
  simp [byteZ, inB, WeightN.may, inZ]
  omega

set_option maxRecDepth 100000 in
theorem mayWeight_any (w : World) (m : WeightN) : Calls Tryz.prog 105 #[.agg #[.int .i64 m.s0, .int .i64 m.s1, .int .i64 m.s2, .int .i64 m.o0, .int .i64 m.o1, .int .i64 m.o2]] w fun e w' => e = .returned (.bool (decide m.may)) ∧ Below w.heap.size w w' := by
  obtain ⟨a, b, c, d, e, g⟩ := m
  rw [← weightMay]
  simp only
  have HB := Lib.hid ((Below.refl w.heap.size w).alloc (Nat.le_refl _) (.cells #[.int .i64 a, .int .i64 b, .int .i64 c, .int .i64 d, .int .i64 e, .int .i64 g] 73))
  have r := heap_alloc_last w (.cells #[.int .i64 a, .int .i64 b, .int .i64 c, .int .i64 d, .int .i64 e, .int .i64 g] 73)
  have r1 : IntRow (w.alloc (.cells #[.int .i64 a, .int .i64 b, .int .i64 c, .int .i64 d, .int .i64 e, .int .i64 g] 73)) (some ⟨w.heap.size, 0, none⟩) [a, b, c] := by
    intro _
    refine ⟨w.heap.size, 0, rfl, row_lt r, fun i hi => ?_⟩
    rw [cell_of_row _ _ _ _ _ _ r]
    have : i = 0 ∨ i = 1 ∨ i = 2 := by simp at hi; omega
    rcases this with rfl | rfl | rfl <;> rfl
  have r2 : IntRow (w.alloc (.cells #[.int .i64 a, .int .i64 b, .int .i64 c, .int .i64 d, .int .i64 e, .int .i64 g] 73)) (some ⟨w.heap.size, 3, none⟩) [d, e, g] := by
    intro _
    refine ⟨w.heap.size, 3, rfl, row_lt r, fun i hi => ?_⟩
    rw [cell_of_row _ _ _ _ _ _ r]
    have : i = 0 ∨ i = 1 ∨ i = 2 := by simp at hi; omega
    rcases this with rfl | rfl | rfl <;> rfl
  obtain ⟨x, hx⟩ : ∃ x, [a, b, c].all byteZ = x := ⟨_, rfl⟩
  obtain ⟨y, hy⟩ : ∃ x, [d, e, g].all byteZ = x := ⟨_, rfl⟩
  have g1 := allInts_any _ [a, b, c] _ 3 r1 (by simp)
  have g2 := allInts_any _ [d, e, g] _ 3 r2 (by simp)
  rw [hx] at g1 ⊢
  rw [hy] at g2 ⊢
  have G1 := Lib.hid g1
  have G2 := Lib.hid g2
  clear r r1 r2 g1 g2 hx hy
  go_enter Tryz.func105, Tryz.ntmps105
  go_wp2_with fail
  refine G1.out.mono ?_
  rintro e w1 ⟨rfl, rfl⟩
  cases x
  · go_wp2_with fail
    go_ret
    exact ⟨rfl, HB.out⟩
  · go_wp2_with fail
    refine G2.out.mono ?_
    rintro e w2 ⟨rfl, rfl⟩
    go_wp2_with fail
    go_ret
    exact ⟨rfl, HB.out⟩

theorem mayKind_any (w : World) (k : Int) : Calls Tryz.prog 129 #[.int .i64 k] w fun e w' => e = .returned (.bool (inB k 1 6)) ∧ w = w' := by
  go_enter Tryz.func129, Tryz.ntmps129
  go_wp2_with (go_at_call 75; refine (within_any _ _ _ _).mono ?_; rintro e w' ⟨rfl, rfl⟩)
  go_ret
  exact ⟨rfl, rfl⟩
end Go.Proofs.YthcbgijmnonckaaGreat
/- A region whose operations write nothing that was there: what each slot holds, with its condition; calls that only make memory. -/
namespace Go.Proofs.YthcbgijmnonckaaGreat
open Go.RowKit Zo Zp
set_option linter.unusedVariables false

/-- What slot i of a region holds: x if c, nothing if not. -/
def qV (l : List (Bool × Value)) (i : Nat) (_ : World) (v : Value) : Prop := ∀ p, l[i]? = some p → v = if p.1 = true then p.2 else undef

/-- The world of the region: nothing is turned of what was there. -/
def qI (W : World) (w : World) : Prop := Below W.heap.size W w

theorem qcell {W w : World} {b : Nat} {cs : Array Value} {t : TypeId} (h : qI W w) (X : W.heap[b]? = some (.cells cs t (0, 0))) (i : Nat) (u : Value) (hu : cs[i]? = some u) : w.cell? ⟨b, i, none⟩ = some u := by
  rw [cell_of_row w b i _ _ _ ((h.block b (row_lt X)).trans X), hu]

theorem qI.step {W w w' : World} (h : qI W w) (b : Below w.heap.size w w') : qI W w' := h.trans (b.mono h.size)

theorem guard_yes {ops : Array Oper} {a : Act} {g d : Nat} {vg : Value} {c B want : Bool} (hd : ((ops[g]?).bind (·.dst)) = some d) (tg : a.tmps[d]? = some vg) (fg : vg = if c = true then .bool B else undef) (hc : (c && (B == want)) = true) : yielded ops a.tmps g = some want := by
  simp only [Bool.and_eq_true, beq_iff_eq] at hc
  rw [fg, if_pos hc.1, hc.2] at tg
  exact yielded_is hd tg

theorem guard_no {ops : Array Oper} {a : Act} {g d : Nat} {vg : Value} {c B want : Bool} (hd : ((ops[g]?).bind (·.dst)) = some d) (tg : a.tmps[d]? = some vg) (fg : vg = if c = true then .bool B else undef) (hc : ¬ (c && (B == want)) = true) : ¬ yielded ops a.tmps g = some want := by
  cases c with
  | true =>
    rw [fg, if_pos rfl] at tg
    rw [yielded_is hd tg]
    intro e
    have := Option.some.inj e
    exact hc (by simp [this])
  | false =>
    rw [fg, if_neg (by simp)] at tg
    unfold yielded
    rw [hd]
    simp [tg, undef]

/-- What a slot holds that another operation has filled. -/
theorem qt {tm : Array Value} {d j : Nat} {l : List (Bool × Value)} {w : World} (h : ∃ v, tm[d]? = some v ∧ qV l j w v) (x : Value) {c : Bool} (hl : l[j]? = some (c, x)) (hc : c = true) : tm[d]? = some x := by
  obtain ⟨v, t, f⟩ := h
  rw [t, f _ hl, if_pos hc]

/-- A step without a guard. -/
theorem stepP {P : Program} {ops : Array Oper} {Q : Exit → Act → World → Prop} {a0 : Act} {W0 : World} {l : List (Bool × Value)} {i : Nat} {x : Value} (o : Oper) (ho : ops[i]? = some o) (hg : o.guard = none) (hl : l[i]? = some (true, x))
    (h : ∀ (a : Act) (w : World), (∀ d, outB ops d = true → a.tmps[d]? = a0.tmps[d]?) → qI W0 w → (∀ j d, depB ops i j d = true → ∃ v, a.tmps[d]? = some v ∧ qV l j w v) → true = true → ∀ K : Act → World → Prop, (∀ v w', qI W0 w' → v = x → K (a.put o.dst v) w') → o.wp P a w K Q) : StepOk P ops Q a0 (qI W0) (qV l) i := by
  intro a w hout hI hdep o' ho' K hK
  obtain rfl : o' = o := Option.some.inj (ho'.symm.trans ho)
  rw [if_pos (by simp [Region.wanted, hg])]
  exact h a w hout hI hdep rfl K (fun v w' hI' hv => hK v w' hI' (fun _ _ h => h) (fun p hp => by obtain rfl := Option.some.inj (hl.symm.trans hp); exact hv))

/-- A step under a guard. -/
theorem stepG {P : Program} {ops : Array Oper} {Q : Exit → Act → World → Prop} {a0 : Act} {W0 : World} {l : List (Bool × Value)} {i : Nat} {x : Value} {c B want : Bool} (o : Oper) (g d : Nat) (ho : ops[i]? = some o) (hg : o.guard = some (g, want)) (hp : depB ops i g d = true) (hd : ((ops[g]?).bind (·.dst)) = some d) (hlg : l[g]? = some (c, .bool B)) (hl : l[i]? = some ((c && (B == want)), x))
    (h : ∀ (a : Act) (w : World), (∀ d, outB ops d = true → a.tmps[d]? = a0.tmps[d]?) → qI W0 w → (∀ j d, depB ops i j d = true → ∃ v, a.tmps[d]? = some v ∧ qV l j w v) → (c && (B == want)) = true → ∀ K : Act → World → Prop, (∀ v w', qI W0 w' → v = x → K (a.put o.dst v) w') → o.wp P a w K Q) : StepOk P ops Q a0 (qI W0) (qV l) i := by
  intro a w hout hI hdep o' ho' K hK
  obtain rfl : o' = o := Option.some.inj (ho'.symm.trans ho)
  obtain ⟨vg, tg, fg⟩ := hdep g d hp
  have fg := fg _ hlg
  by_cases hB : (c && (B == want)) = true
  · have hy := guard_yes hd tg fg hB
    rw [if_pos (by simp [Region.wanted, hg, hy])]
    exact h a w hout hI hdep hB K (fun v w' hI' hv => hK v w' hI' (fun _ _ h => h) (fun p hp => by obtain rfl := Option.some.inj (hl.symm.trans hp); exact hv.trans (if_pos hB).symm))
  · have hy := guard_no hd tg fg hB
    rw [if_neg (by simp [Region.wanted, hg, hy])]
    exact hK _ _ hI (fun _ _ h => h) (fun p hp => by obtain rfl := Option.some.inj (hl.symm.trans hp); exact (if_neg hB).symm)

theorem bl {a b : Bool} (h : (a && b) = true) : a = true := by
  simp only [Bool.and_eq_true] at h
  exact h.1
end Go.Proofs.YthcbgijmnonckaaGreat
