/- Texts held against each other; units copied; the walk of the law NalStreams. -/
import Derived.Test.YtdlklcdafembhaaOB
import Derived.Test.YtdlklcdafembhaaOC
namespace Go.Proofs.Ytdlklcdafembhaa
open Go.RowKit Zn Zo

/-- A slice of n texts: its cells. -/
def TextsAt (w : World) (a : Option Addr) (n : Nat) (l : List (List UInt8)) : Prop :=
  l.length = n ∧ (0 < n → ∃ g, a = some ⟨g, 0, none⟩ ∧ g < w.heap.size ∧ ∀ i p, l[i]? = some p → w.cell? ⟨g, i, none⟩ = some (.string ⟨p.toArray⟩))

theorem TextsAt.below {w w' : World} {a : Option Addr} {n : Nat} {l : List (List UInt8)} (h : TextsAt w a n l) (b : Below w.heap.size w w') : TextsAt w' a n l :=
  ⟨h.1, fun h0 => by
    obtain ⟨g, h1, h2, h3⟩ := h.2 h0
    exact ⟨g, h1, Nat.lt_of_lt_of_le h2 b.size, fun i p hp => (b.cell (p := ⟨g, i, none⟩) h2).trans (h3 i p hp)⟩⟩

theorem sameTexts_any (l : List (List UInt8)) (n c1 c2 : Nat) (a1 a2 : Option Addr) (w : World) (h1 : TextsAt w a1 n l) (h2 : TextsAt w a2 n l) (hn : n ≤ 1000000000) :
    Calls Try.prog 24 #[.slice a1 n c1, .slice a2 n c2] w fun e w' => e = .returned (.bool true) ∧ Below w.heap.size w w' := by
  have H1 := Lib.hid h1
  have H2 := Lib.hid h2
  obtain ⟨wo, hwo⟩ : ∃ wo : World, wo = w := ⟨_, rfl⟩
  have HW := Lib.hid hwo
  clear h1 h2 hwo
  go_enter Try.func24, Try.ntmps24
  go_wp2_with fail
  go_loopg [5] n (fun q iv wr => ∃ k : Nat, k + q = n ∧ iv = .int .i64 ((k : Nat) : Int) ∧ Below wo.heap.size wo wr)
  case atStart => exact ⟨0, by omega, rfl, by rw [HW.out]; exact Below.refl _ _⟩
  case round =>
    obtain ⟨k, hq, rfl, bl⟩ := hrel
    by_cases hlt : k < n
    · have hk1 : (k + 1) + (gk - 1) = n := by omega
      have hb2 : Below w.heap.size w wr := by rw [HW.out] at bl; exact bl
      obtain ⟨g1, rfl, _, e1⟩ := (H1.out.below hb2).2 (by omega)
      obtain ⟨g2, rfl, _, e2⟩ := (H2.out.below hb2).2 (by omega)
      have hll : k < l.length := by rw [H1.out.1]; exact hlt
      obtain ⟨p, hp⟩ : ∃ p, l[k]? = some p := ⟨_, List.getElem?_eq_getElem hll⟩
      obtain ⟨pb, hpb⟩ : ∃ pb : ByteArray, (⟨p.toArray⟩ : ByteArray) = pb := ⟨_, rfl⟩
      have d1 := e1 k p hp
      have d2 := e2 k p hp
      rw [hpb] at d1 d2
      have BL := Lib.hid bl
      clear e1 e2 hp hpb hb2 bl hll
      go_wp2_with fail
      go_quiet (fail)
      go_wp2_with fail
      go_roundg (gk - 1)
      case measure => omega
      case rel => exact ⟨k + 1, hk1, by go_num, below_drewN BL.out _⟩
    · obtain rfl : k = n := by omega
      go_wp2_with fail
      go_ret
      exact ⟨rfl, by rw [HW.out] at bl; exact bl⟩

/-- The cells of units. -/
def ucells : List UU → List Value
  | [] => []
  | u :: L => .int .i64 u.ref :: .int .i64 u.ty :: .string ⟨u.rb.toArray⟩ :: ucells L

theorem ucells_length : ∀ L : List UU, (ucells L).length = L.length * 3
  | [] => rfl
  | u :: L => by simp only [ucells, List.length_cons, ucells_length L]; omega

theorem ucells_one : ∀ L : List UU, ∀ v ∈ ucells L, v.oneCell' = true
  | [], v, h => by cases h
  | u :: L, v, h => by
    simp only [ucells, List.mem_cons] at h
    rcases h with rfl | rfl | rfl | h
    · rfl
    · rfl
    · rfl
    · exact ucells_one L v h

theorem ucells_at : ∀ (L : List UU) (i : Nat) (h : i < L.length), (ucells L)[i * 3]? = some (.int .i64 L[i].ref) ∧ (ucells L)[i * 3 + 1]? = some (.int .i64 L[i].ty) ∧ (ucells L)[i * 3 + 2]? = some (.string ⟨L[i].rb.toArray⟩)
  | u :: L, 0, _ => ⟨rfl, rfl, rfl⟩
  | u :: L, i + 1, h => by
    have := ucells_at L i (by simpa using h)
    rw [show (i + 1) * 3 = i * 3 + 3 from by omega]
    exact this

theorem info_unit : (Try.prog.info? 32).map (fun i => (i.zero, i.size, i.bytes)) = some (some (.agg #[.int .i64 0, .int .i64 0, .string ⟨#[]⟩]), 3, 32) := by kernel_rfl

theorem ucells_news {w : World} {b off : Nat} {L : List UU} (h : IsUnits w b off L) : ∀ j u, (ucells L)[j]? = some u → w.cell? ((⟨b, off, none⟩ : Addr).add j) = some u := by
  intro j u hj
  rw [add_row]
  have hlt : j < L.length * 3 := by
    rw [← ucells_length]
    exact (List.getElem?_eq_some_iff.1 hj).1
  obtain ⟨c0, c1, c2⟩ := h.2 (j / 3) (by omega)
  obtain ⟨d0, d1, d2⟩ := ucells_at L (j / 3) (by omega)
  have hj3 : j = j / 3 * 3 ∨ j = j / 3 * 3 + 1 ∨ j = j / 3 * 3 + 2 := by omega
  rcases hj3 with e | e | e
  · rw [e] at hj; rw [d0] at hj; rw [← hj, ← c0]; congr 2; omega
  · rw [e] at hj; rw [d1] at hj; rw [← hj, ← c1]; congr 2; omega
  · rw [e] at hj; rw [d2] at hj; rw [← hj, ← c2]; congr 2; omega

theorem append_none (T : TypeId) (w : World) (g : Addr) (aa : Option Addr) (cap : Nat) : (Builtin.append_ #[40, 40] T #[.slice (some g) 0 0, .slice aa 0 cap]).run Try.prog w = .ok (.slice (some g) 0 0) w := by
  obtain ⟨i0, hi, hz0, hz1, hz2⟩ := info_parts info_unit
  cases aa <;> simp [Builtin.append_, run_underlying Try.underlying40, sizeOf, typeInfo, hi, Builtin.lenOf, Builtin.firstCells, loadCells, loadCellsFrom, storeCells]

theorem append_units {w : World} {ops : Array Oper} {rest : List Oper} {o : Oper} {a : Act} {Q : Exit → Act → World → Prop} (hgd : o.guard = none) (s x : Operand)
    (ho : o.op = .call { callee := .builtin .append, args := #[s, x], argTypes := #[40, 40] })
    (aa : Option Addr) (cap : Nat) (L : List UU) (hs : a.eval s = .slice (some ⟨w.heap.size, 0, none⟩) 0 0) (hx : a.eval x = .slice aa L.length cap) (hU : UnitsAt w aa L) (hl : L.length ≤ 10000000)
    (h : ∀ a' cap' w', UnitsAt w' a' L → Below w.heap.size w w' → wpList Try.prog ops Q rest (a.put o.dst (.slice a' L.length cap')) w') : wpList Try.prog ops Q (o :: rest) a (w.alloc (.cells #[] 32)) := by
  have b0 : Below w.heap.size w (w.alloc (.cells #[] 32)) := (Below.refl _ _).alloc (Nat.le_refl _) _
  obtain ⟨i0, hi, hz0, hz1, hz2⟩ := info_parts info_unit
  rcases hU with rfl | ⟨b, off, rfl, hun⟩
  · refine wpList_plain hgd fun K hK => ?_
    have hrun := append_none o.type (w.alloc (.cells #[] 32)) ⟨w.heap.size, 0, none⟩ aa cap
    unfold Oper.wp
    simp [execOp, ho, resolve, invoke, builtin, hs, hx, hrun, Result.andThen]
    exact hK _ _ (h _ _ _ (.inl rfl) b0)
  · by_cases h0 : L = []
    · subst h0
      refine wpList_plain hgd fun K hK => ?_
      have hrun := append_none o.type (w.alloc (.cells #[] 32)) ⟨w.heap.size, 0, none⟩ (some ⟨b, off, none⟩) cap
      unfold Oper.wp
      simp [execOp, ho, resolve, invoke, builtin, hs, hx, hrun, Result.andThen]
      exact hK _ _ (h _ _ _ (.inl rfl) b0)
    · have hlp : 0 < L.length := by cases L; exact absurd rfl h0; simp
      have hown : (w.alloc (.cells #[] 32)).ownsRow w.heap.size 32 3 (.slice (some ⟨w.heap.size, 0, none⟩) 0 0) 0 [] :=
        ⟨rfl, .inr ⟨w.heap.size, 0, #[], rfl, Nat.le_refl _, heap_alloc_last w _, Nat.le_refl _, by unfold maxLen; omega, rfl, rfl⟩⟩
      refine wpList_append_lies _ hgd s x 40 ho w.heap.size 32 i0 (.agg #[.int .i64 0, .int .i64 0, .string ⟨#[]⟩]) 3 32 Try.underlying40 hi hz0 hz1 hz2 rfl (by decide) _ 0 [] hs hown ⟨b, off, none⟩ L.length cap (ucells L) hx (ucells_length L) (ucells_news (hun.below b0)) (ucells_one L) hlp (by unfold maxLen; omega) (by omega) (by simp) _ rfl ?_
      intro g cp w' h1 h2 h3 h4
      rw [Nat.zero_add, List.nil_append] at h1
      rw [Nat.zero_add]
      refine h _ _ _ (.inr ⟨g, 0, rfl, h4, fun i hi => ?_⟩) (b0.grown h2 (by simp) (fun k e => (World.ownsRow.lt hown k e).1))
      have hc := h1.cells (g := g) rfl
      obtain ⟨d0, d1, d2⟩ := ucells_at L i hi
      have e0 := hc _ _ d0
      have e1 := hc _ _ d1
      have e2 := hc _ _ d2
      rw [add_row] at e0 e1 e2
      exact ⟨e0, by rw [Nat.add_assoc]; exact e1, by rw [Nat.add_assoc]; exact e2⟩

end Go.Proofs.Ytdlklcdafembhaa
