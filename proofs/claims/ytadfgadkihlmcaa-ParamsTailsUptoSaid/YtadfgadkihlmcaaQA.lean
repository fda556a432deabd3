/- Layer 3: slices of integers as lists, and the law's own helpers over them. -/
import Derived.Test.YtadfgadkihlmcaaPC
import Derived.Test.YtadfgadkihlmcaaZ
import Derived.Test.YtadfgadkihlmcaaG
namespace Go.Proofs.Ytadfgadkihlmcaa
open Go.RowKit Zo Zp

theorem num_is (x : Int) (w : World) : Calls Try.prog 17 #[.int .i64 x] w fun e w' => e = .returned (.int .i64 x) ∧ w = w' := by
  go_enter Try.func17, Try.ntmps17
  go_wp2_with fail
  go_ret
  exact ⟨rfl, rfl⟩

/-- From this address on lie these integers. -/
def IntRow (w : World) (a : Option Addr) (l : List Int) : Prop :=
  l ≠ [] → ∃ b o, a = some ⟨b, o, none⟩ ∧ b < w.heap.size ∧ ∀ i (h : i < l.length), w.cell? ⟨b, o + i, none⟩ = some (.int .i64 l[i])

/-- The value is a slice of these integers. -/
def IntsAt (w : World) (v : Value) (l : List Int) : Prop := ∃ a cap, v = .slice a l.length cap ∧ IntRow w a l

theorem IntRow.at {w : World} {a : Option Addr} {l : List Int} (h : IntRow w a l) {i : Nat} (hi : i < l.length) :
    ∃ b o, a = some ⟨b, o, none⟩ ∧ b < w.heap.size ∧ w.cell? ⟨b, o + i, none⟩ = some (.int .i64 l[i]) := by
  obtain ⟨b, o, ha, hb, hc⟩ := h (by intro e; rw [e] at hi; simp at hi)
  exact ⟨b, o, ha, hb, hc i hi⟩

theorem IntRow.nil (w : World) (a : Option Addr) : IntRow w a [] := fun h => absurd rfl h

theorem IntRow.below {w w' : World} {a : Option Addr} {l : List Int} {B : Nat} (h : IntRow w a l) (b : Below B w w') (hB : w.heap.size ≤ B) : IntRow w' a l := by
  intro hl
  obtain ⟨g, o, ha, hb, hc⟩ := h hl
  refine ⟨g, o, ha, Nat.lt_of_lt_of_le hb b.size, fun i hi => ?_⟩
  rw [← hc i hi]
  exact b.cell (p := ⟨g, o + i, none⟩) (by show g < B; omega)

theorem IntRow.fr {S : Nat → Prop} {w w' : World} {a : Option Addr} {l : List Int} (h : IntRow w a l) (f : Fr S w w') (hS : ∀ x, a = some x → ¬ S x.block) : IntRow w' a l := by
  intro hl
  obtain ⟨g, o, ha, hb, hc⟩ := h hl
  refine ⟨g, o, ha, Nat.lt_of_lt_of_le hb f.size, fun i hi => ?_⟩
  rw [← hc i hi]
  exact World.cell?_of_block (f.block g hb (hS _ ha))

theorem IntRow.setCell {w : World} {a : Option Addr} {l : List Int} (h : IntRow w a l) {p : Addr} (hp : ∀ x, a = some x → x.block ≠ p.block) (u : Value) : IntRow (w.setCell p u) a l :=
  h.fr (S := fun k => k = p.block) (Fr.setCell (S := fun k => k = p.block) (Fr.refl _ _) (fun _ => rfl) u) hp

theorem IntRow.alloc {w : World} {a : Option Addr} {l : List Int} (h : IntRow w a l) (o : Obj) : IntRow (w.alloc o) a l :=
  h.below ((Below.refl _ _).alloc (Nat.le_refl _) o) (Nat.le_refl _)

theorem IntRow.drewN {w : World} {a : Option Addr} {l : List Int} (h : IntRow w a l) (n : Nat) : IntRow (w.drewN n) a l := h

theorem IntRow.block {w : World} {a : Option Addr} {l : List Int} (h : IntRow w a l) (hl : l ≠ []) : ∃ x, a = some x ∧ x.block < w.heap.size := by
  obtain ⟨b, o, ha, hb, _⟩ := h hl
  exact ⟨_, ha, hb⟩

/-- Two slices of the same integers are the same. -/
theorem sameInts_yes (w : World) (a a' : Option Addr) (cap cap' : Nat) (l : List Int) (h : IntRow w a l) (h' : IntRow w a' l) (hl : l.length ≤ 1000000000) :
    Calls Try.prog 50 #[.slice a l.length cap, .slice a' l.length cap'] w fun e w' => e = .returned (.bool true) ∧ ∃ n, w' = w.drewN n := by
  have H := Lib.hid h
  have H' := Lib.hid h'
  clear h h'
  go_enter Try.func50, Try.ntmps50
  go_wp2
  go_loopg [5] l.length (fun q i wr => ∃ j k : Nat, j + q = l.length ∧ i = .int .i64 (j : Int) ∧ wr = w.drewN k)
  case atStart => exact ⟨0, 0, by omega, rfl, rfl⟩
  case round =>
    obtain ⟨j, k, hq, rfl, rfl⟩ := hrel
    by_cases hlt : j < l.length
    · obtain ⟨b, o, rfl, hb, hc⟩ := H.out.at hlt
      obtain ⟨b', o', rfl, hb', hc'⟩ := H'.out.at hlt
      generalize l[j] = x at *
      go_wp2
      go_quiet (fail)
      go_wp2
      go_roundg (gk - 1)
      case measure => omega
      case rel => exact ⟨j + 1, _, by omega, by go_num, rfl⟩
    · go_wp2
      go_ret
      exact ⟨rfl, _, rfl⟩

theorem info3 : (Try.prog.info? 3).map (fun i => (i.zero, i.size, i.bytes)) = some (some (.int .i64 0), 1, 8) := by kernel_rfl

def iv (l : List Int) : List Value := l.map fun x => .int .i64 x

theorem iv_append (a b : List Int) : iv (a ++ b) = iv a ++ iv b := by simp [iv]
theorem iv_length (a : List Int) : (iv a).length = a.length := by simp [iv]
theorem iv_one (a : List Int) : ∀ u ∈ iv a, u.oneCell' = true := by
  intro u hu
  simp only [iv, List.mem_map] at hu
  obtain ⟨b, _, rfl⟩ := hu
  rfl

/-- A row of integers that is owned, as a slice of these. -/
theorem IntRow.of_own {w : World} {base : Nat} {a : Option Addr} {n cap : Nat} {l : List Int} (h : w.ownsRow base 3 1 (.slice a n cap) n (iv l)) : IntRow w a l := by
  intro hl
  rcases h.2 with ⟨hv, h0⟩ | ⟨g, cap, cur, hv, hb, hg, _, _, _, ht⟩
  · have := h.1
    rw [iv_length] at this
    exact absurd (List.eq_nil_of_length_eq_zero (by omega)) hl
  · simp only [Value.slice.injEq] at hv
    obtain ⟨rfl, _⟩ := hv
    refine ⟨g, 0, rfl, row_lt hg, fun i hi => ?_⟩
    rw [cell_of_row w g _ _ _ _ hg, Nat.zero_add]
    have h1 : (iv l)[i]? = some (.int .i64 l[i]) := by simp [iv, hi]
    rw [← ht, List.getElem?_take] at h1
    split at h1
    · rw [← Array.getElem?_toList, h1]
    · cases h1

theorem addr_at {b o : Nat} {k : Nat} : (⟨b, o, none⟩ : Addr).add k = ⟨b, o + k, none⟩ := by
  unfold Addr.add; split <;> simp_all

theorem IntRow.news {w : World} {x : Addr} {l : List Int} (h : IntRow w (some x) l) : ∀ j u, (iv l)[j]? = some u → w.cell? (x.add j) = some u := by
  intro j u hj
  have hjl : j < l.length := by
    by_cases hjl : j < l.length
    · exact hjl
    · rw [List.getElem?_eq_none (by rw [iv_length]; omega)] at hj; cases hj
  obtain ⟨b, o, ha, _, hc⟩ := h.at hjl
  obtain rfl : x = ⟨b, o, none⟩ := by simpa using ha
  rw [addr_at, hc]
  simpa [iv, hjl] using hj

theorem empty_row (w : World) : Row (w.alloc (.cells #[] 3)) w.heap.size 3 [] := heap_alloc_last w _

set_option maxHeartbeats 1000000 in
theorem copyInts_any (w : World) (a : Option Addr) (cap : Nat) (l : List Int) (h : IntRow w a l) (hl : l.length ≤ 1000000000) (ha : a = none → l = [] ∧ cap = 0) :
    Calls Try.prog 28 #[.slice a l.length cap] w fun e w' => ∃ v', e = .returned v' ∧ w'.ownsRow w.heap.size 3 1 v' l.length (iv l) ∧ Below w.heap.size w w' := by
  obtain ⟨i0, hi, hz0, hz1, hz2⟩ := info_parts info3
  have hown : (w.alloc (.cells #[] 3)).ownsRow w.heap.size 3 1 (.slice (some ⟨w.heap.size, 0, none⟩) 0 0) 0 [] := (empty_row w).owns (Nat.le_refl _) (by simp [maxLen])
  have hb : Below w.heap.size w (w.alloc (.cells #[] 3)) := (Below.refl _ _).alloc (Nat.le_refl _) _
  have HB := Lib.hid hb
  clear hb
  cases a with
  | none =>
    obtain ⟨rfl, rfl⟩ := ha rfl
    clear ha h
    go_enter Try.func28, Try.ntmps28
    go_wp2_with (refine wpList_append_own_none rfl (.tmp 3) (.tmp 4) 22 rfl w.heap.size 3 i0 1 Try.underlying22 hi _ 0 [] ?_ hown ?_ ?_; rfl; rfl)
    go_ret
    exact ⟨_, rfl, hown, HB.out⟩
  | some x =>
    have hnews := (h.alloc (.cells #[] 3)).news
    have HN := Lib.hid hnews
    clear ha h hnews
    go_enter Try.func28, Try.ntmps28
    go_wp2_with (refine wpList_append_own_at _ rfl (.tmp 3) (.tmp 4) 22 rfl w.heap.size 3 i0 (.int .i64 0) 1 8 Try.underlying22 hi hz0 hz1 hz2 ?_ ?_ _ 0 [] ?_ hown x l.length cap (iv l) ?_ ?_ HN.out (iv_one _) ?_ ?_ ?_ ?_; rfl; decide; rfl; rfl; (rw [iv_length]; omega); (unfold maxLen; omega); omega; (simp); intro v' w3 hown3 hgrow3 hnil3 hat3)
    go_ret
    refine ⟨_, rfl, by simpa using hown3, HB.out.grown hgrow3 (by simp) (fun k e => by simp [Value.ownBlock] at e; omega)⟩
end Go.Proofs.Ytadfgadkihlmcaa
