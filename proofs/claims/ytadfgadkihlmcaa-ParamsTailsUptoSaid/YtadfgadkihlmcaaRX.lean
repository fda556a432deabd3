/- Layer 3: a sequence's and a picture's parameters that came in, opened. -/
import Derived.Test.YtadfgadkihlmcaaRW
import Derived.Test.YtadfgadkihlmcaaRows
import Derived.Lib.SmallJoins
import Derived.Deep.Slices
import Derived.Deep.Fields
import Derived.ChangeSame
namespace Go.Proofs.Ytadfgadkihlmcaa
open Go.RowKit Zo Zp Go.Deep Go.ChangeShapes Go.WideShapes

theorem array9 {α : Type} {cs : Array α} (h : cs.size = 9) : ∃ c0 c1 c2 c3 c4 c5 c6 c7 c8, cs = #[c0, c1, c2, c3, c4, c5, c6, c7, c8] := by
  obtain ⟨l⟩ := cs
  match l, h with
  | [c0, c1, c2, c3, c4, c5, c6, c7, c8], _ => exact ⟨c0, c1, c2, c3, c4, c5, c6, c7, c8, rfl⟩

theorem list9 {α : Type} {cs : List α} (h : cs.length = 9) : ∃ c0 c1 c2 c3 c4 c5 c6 c7 c8, cs = [c0, c1, c2, c3, c4, c5, c6, c7, c8] := by
  match cs, h with
  | [c0, c1, c2, c3, c4, c5, c6, c7, c8], _ => exact ⟨c0, c1, c2, c3, c4, c5, c6, c7, c8, rfl⟩

section
variable {H : Type} {enc : TypeId × Value → H} {P : Program} {w : World} {base : Nat} {spare : Nat → Bool} {held : Bool}

/-- A struct by value of one-cell fields, opened. -/
theorem open_cells {r : Reach} {b0 : Nat} {t : TypeId} {fs : Array Field} {v : Value} {d : DataW H} {p : List MemPlace} (hs : P.underlying t = some (.struct fs)) (hone : oneCellFields P fs = true) (hC : P.cellsOf t = fs.size)
    (hv : Value.okWide P w r b0 t v) (h : DataW.Trod enc P w base spare held t v d p) :
    ∃ (cs : Array Value) (xs : List (DataW H × List MemPlace)) (n : Nat), v = .agg cs ∧ cs.size = fs.size ∧ xs.length = fs.size ∧ d = .agg (xs.map (·.1)) ∧
      ∀ (i : Nat) (f : Field) (u : Value) (x : DataW H × List MemPlace), fs[i]? = some f → cs[i]? = some u → xs[i]? = some x → DataW.trod enc P w base spare held n f.type [u] = some x := by
  obtain ⟨cs, rfl, hsz⟩ := okWide_struct hs hv
  obtain ⟨fuel, hf⟩ := h
  obtain ⟨xs, n, _, hx, _, hxl, hfs⟩ := DataW.trod_struct hs hf
  refine ⟨cs, xs, n, rfl, hsz.trans hC, hxl, (congrArg Prod.fst hx), fun i f u x hi hu hxi => ?_⟩
  obtain ⟨ho, hc⟩ := hone_of hone i f hi
  have g := hfs i f hi
  rw [ho, hc, hxi] at g
  have hlt : i < cs.size := (Array.getElem?_eq_some_iff.1 hu).1
  have e : ((Value.agg cs).cells.toList.drop i).take 1 = [u] := by
    have hl : i < (Value.agg cs).cells.toList.length := by simpa [Value.cells] using hlt
    rw [take1_drop _ i undef hl]
    simp only [Value.cells, List.getD_eq_getElem?_getD, Array.getElem?_toList, hu, Option.getD_some]
  rw [e] at g
  exact g
end

/-- Integers that came in, as a row. -/
theorem ints_in {H : Type} {enc : TypeId × Value → H} {W : World} {n : Nat} {u : Value} {x : DataW H × List MemPlace} (h : DataW.trod enc Try.prog W 0 (fun _ => true) true n 22 [u] = some x) :
    ∃ (a : Option Addr) (cap : Nat) (l : List Int), u = .slice a l.length cap ∧ IntRow W a l ∧ (a = none → l = [] ∧ cap = 0) ∧ l.length ≤ Rows.uptoBulk x.1 := by
  rcases open_ints Try.underlying22 Try.underlying3 (by kernel_rfl) h with ⟨hcs, hx⟩ | ⟨a, len, cap, zs, hcs, _, hl, hm, hz, hx, hcell, hw⟩
  · refine ⟨none, 0, [], by simpa using hcs, IntRow.nil _ _, fun _ => ⟨rfl, rfl⟩, by simp⟩
  · simp only [if_true] at hz
    have hlen : (zs.take len).length = len := by rw [List.length_take]; omega
    refine ⟨some a, cap, zs.take len, by rw [hlen]; simpa using hcs, ?_, (fun e => by cases e), ?_⟩
    · intro hne
      have h0 : 0 < zs.length := by
        rcases Nat.eq_zero_or_pos len with h | h
        · exact absurd (by rw [h]; rfl) hne
        · omega
      obtain ⟨b, off, spot⟩ := a
      have hc0 := hcell 0 h0
      have hspot : spot = none := by simpa [Addr.add] using World.cell?_spot hc0
      subst hspot
      refine ⟨b, off, rfl, ?_, fun i hi => ?_⟩
      · have hsh := hc0
        by_cases hb : b < W.heap.size
        · exact hb
        · exfalso
          simp [World.cell?, Addr.add, hb] at hsh
      · have hi' : i < len := by omega
        have hc := hcell i (by omega)
        rw [Addr.add_mid] at hc
        rw [hc]
        rw [List.getElem_take]
        simp [List.getD_eq_getElem?_getD, show i < zs.length by omega]
    · rw [hx, hlen]
      simp only [Rows.uptoBulk]
      have hb : ∀ (l : List Int), (Rows.uptoBulkAll (H := H) (lits .i64 l)) = l.length := by
        intro l
        induction l with
        | nil => rfl
        | cons y l ih =>
          show Rows.uptoBulkAll (H := H) (_ :: lits .i64 l) = _
          rw [Rows.uptoBulkAll, ih]
          show Rows.uptoBulk (H := H) (.lit (.int .i64 y)) + _ = _
          rw [Rows.uptoBulk]
          · simp; omega
          · intro bytes e; cases e
      rw [hb, hb, hlen]
      omega

set_option maxRecDepth 100000 in
theorem pps_open {H : Type} {enc : TypeId × Value → H} {W : World} {r : Reach} {b0 : Nat} {v : Value} {d : DataW H} {p : List MemPlace} (hv : Value.okWide Try.prog W r b0 43 v)
    (h : DataW.Trod enc Try.prog W 0 (fun _ => true) true 43 v d p) : ∃ q : PpsN, v = ppsV q := by
  obtain ⟨cs, xs, n, rfl, hc, hx, _, hf⟩ := open_cells Try.underlying43 (by kernel_rfl) (by kernel_rfl) hv h
  obtain ⟨c0, c1, c2, c3, c4, c5, c6, c7, c8, rfl⟩ := array9 hc
  obtain ⟨x0, x1, x2, x3, x4, x5, x6, x7, x8, rfl⟩ := list9 hx
  obtain ⟨y0, e0, _, _⟩ := DataW.trod_bool Try.underlying4 (hf 0 _ _ _ rfl rfl rfl)
  obtain ⟨y1, e1, _, _⟩ := DataW.trod_bool Try.underlying4 (hf 1 _ _ _ rfl rfl rfl)
  obtain ⟨y2, e2, _, _⟩ := DataW.trod_int Try.underlying3 (hf 2 _ _ _ rfl rfl rfl)
  obtain ⟨y3, e3, _, _⟩ := DataW.trod_int Try.underlying3 (hf 3 _ _ _ rfl rfl rfl)
  obtain ⟨y4, e4, _, _⟩ := DataW.trod_int Try.underlying3 (hf 4 _ _ _ rfl rfl rfl)
  obtain ⟨y5, e5, _, _⟩ := DataW.trod_bool Try.underlying4 (hf 5 _ _ _ rfl rfl rfl)
  obtain ⟨y6, e6, _, _⟩ := DataW.trod_bool Try.underlying4 (hf 6 _ _ _ rfl rfl rfl)
  obtain ⟨y7, e7, _, _⟩ := DataW.trod_int Try.underlying3 (hf 7 _ _ _ rfl rfl rfl)
  obtain ⟨y8, e8, _, _⟩ := DataW.trod_int Try.underlying3 (hf 8 _ _ _ rfl rfl rfl)
  simp only [List.cons.injEq, and_true] at e0 e1 e2 e3 e4 e5 e6 e7 e8
  subst e0 e1 e2 e3 e4 e5 e6 e7 e8
  exact ⟨⟨y0, y1, y2, y3, y4, y5, y6, y7, y8⟩, rfl⟩

set_option maxRecDepth 100000 in
theorem sps_open {H : Type} {enc : TypeId × Value → H} {W : World} {r : Reach} {b0 : Nat} {v : Value} {d : DataW H} {p : List MemPlace} (hv : Value.okWide Try.prog W r b0 24 v)
    (h : DataW.Trod enc Try.prog W 0 (fun _ => true) true 24 v d p) :
    ∃ (q : SpsN) (a : Option Addr) (cap : Nat), v = spsV q a cap ∧ IntRow W a q.cycle ∧ (a = none → q.cycle = [] ∧ cap = 0) ∧ q.cycle.length ≤ Rows.uptoBulk d := by
  obtain ⟨cs, xs, n, rfl, hc, hx, rfl, hf⟩ := open_cells Try.underlying24 (by kernel_rfl) (by kernel_rfl) hv h
  obtain ⟨c0, c1, c2, c3, c4, c5, c6, c7, c8, rfl⟩ := array9 hc
  obtain ⟨x0, x1, x2, x3, x4, x5, x6, x7, x8, rfl⟩ := list9 hx
  obtain ⟨y0, e0, _, _⟩ := DataW.trod_int Try.underlying3 (hf 0 _ _ _ rfl rfl rfl)
  obtain ⟨y1, e1, _, _⟩ := DataW.trod_int Try.underlying3 (hf 1 _ _ _ rfl rfl rfl)
  obtain ⟨y2, e2, _, _⟩ := DataW.trod_int Try.underlying3 (hf 2 _ _ _ rfl rfl rfl)
  obtain ⟨y3, e3, _, _⟩ := DataW.trod_int Try.underlying3 (hf 3 _ _ _ rfl rfl rfl)
  obtain ⟨y4, e4, _, _⟩ := DataW.trod_int Try.underlying3 (hf 4 _ _ _ rfl rfl rfl)
  obtain ⟨y5, e5, _, _⟩ := DataW.trod_int Try.underlying3 (hf 5 _ _ _ rfl rfl rfl)
  obtain ⟨a, cap, l, e6, hrow, hnone, hbulk⟩ := ints_in (hf 6 _ _ _ rfl rfl rfl)
  obtain ⟨y7, e7, _, _⟩ := DataW.trod_int Try.underlying3 (hf 7 _ _ _ rfl rfl rfl)
  obtain ⟨y8, e8, _, _⟩ := DataW.trod_int Try.underlying3 (hf 8 _ _ _ rfl rfl rfl)
  simp only [List.cons.injEq, and_true] at e0 e1 e2 e3 e4 e5 e7 e8
  subst e0 e1 e2 e3 e4 e5 e6 e7 e8
  refine ⟨⟨y0, y1, y2, y3, y4, y5, l, y7, y8⟩, a, cap, rfl, hrow, hnone, ?_⟩
  simp only [List.map_cons, List.map_nil, Rows.uptoBulk, Rows.uptoBulkAll]
  omega

end Go.Proofs.Ytadfgadkihlmcaa
