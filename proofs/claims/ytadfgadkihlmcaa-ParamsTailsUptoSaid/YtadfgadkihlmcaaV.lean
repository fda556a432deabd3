/- A slice of structs of integers that came in, cell by cell; the law BitsWrites at every input. -/
import Derived.Test.YtadfgadkihlmcaaU
import Derived.Deep.Slices
import Derived.Deep.Fields
import Derived.ChangeSame
namespace Go.Proofs.Ytadfgadkihlmcaa
open Go.RowKit Zo Go.Deep

theorem addr_row {b off : Nat} {k : Nat} : (⟨b, off, none⟩ : Addr).add k = ⟨b, off + k, none⟩ := by
  unfold Addr.add; split <;> simp_all

/-- The cells of a slice of structs whose fields are all of one integer type. -/
theorem int_structs {H : Type} {enc : TypeId × Value → H} {P : Program} {w : World} {held : Bool} {t e T : TypeId} {fs : Array Field} {k : IntKind} {a : Option Addr} {len cap : Nat} {d : DataW H} {p : List MemPlace}
    (ht : P.underlying t = some (.slice e)) (he : P.underlying e = some (.struct fs)) (hone : oneCellFields P fs = true) (hC : P.cellsOf e = fs.size) (hk : P.underlying T = some (.int k)) (hT : (fs.toList.all fun f => f.type == T) = true) (hpos : 0 < fs.size)
    (h : DataW.Trod enc P w 0 (fun _ => true) held t (.slice a len cap) d p) (hl : 0 < len) :
    ∃ (b off : Nat) (g : Nat → Nat → Int), a = some ⟨b, off, none⟩ ∧ b < w.heap.size ∧ len ≤ maxLen ∧
      ∀ i, i < len → ∀ j, j < fs.size → w.cell? ⟨b, off + i * fs.size + j, none⟩ = some (.int k (g i j)) ∧ (Lit.int k (g i j)).wf = true := by
  obtain ⟨fuel, hf⟩ := h
  rcases open_slice ht hf with ⟨hcs, _⟩ | ⟨x, len', cap', m, n, D, Pl, hcs, _, hlc, hcm, hm, _, hi⟩
  · simp [Value.cells] at hcs
    omega
  · simp [Value.cells] at hcs
    obtain ⟨rfl, rfl, rfl⟩ := hcs
    simp only [if_true] at hm
    subst hm
    have cell : ∀ i, i < len → ∀ j, j < fs.size → ∃ z : Int, w.cell? ((x.add (i * fs.size)).add j) = some (.int k z) ∧ (Lit.int k z).wf = true := by
      intro i hil j hj
      obtain ⟨cs, hc, htr⟩ := hi i (by omega)
      rw [hC] at hc
      obtain ⟨_, hclen, hat⟩ := World.cells?_some hc
      obtain ⟨xs, n', _, _, _, hxl, hfld⟩ := DataW.trod_struct he htr
      have hfj : fs[j]? = some fs[j] := Array.getElem?_eq_getElem hj
      obtain ⟨ho, h1⟩ := hone_of hone j _ hfj
      have hty : fs[j].type = T := by
        have := List.all_eq_true.1 hT fs[j] (by simp)
        simpa using this
      have h2 := hfld j _ hfj
      rw [ho, hty] at h2
      rw [hty] at h1
      rw [h1] at h2
      have hxj : xs[j]? = some (xs[j]'(by omega)) := List.getElem?_eq_getElem (by omega)
      rw [hxj] at h2
      obtain ⟨z, hz, _, hwf⟩ := DataW.trod_int hk h2
      refine ⟨z, ?_, hwf⟩
      rw [hat j hj]
      have := congrArg (fun l => l[0]?) hz
      simpa [List.getElem?_take, List.getElem?_drop] using this
    obtain ⟨z0, hz0, _⟩ := cell 0 hl 0 hpos
    obtain ⟨b, off, spot⟩ := x
    cases spot with
    | some s =>
      exfalso
      simp [World.cell?, Addr.add] at hz0
      repeat' split at hz0
      all_goals simp_all
    | none =>
      have cell' : ∀ i, i < len → ∀ j, j < fs.size → ∃ z : Int, w.cell? ⟨b, off + i * fs.size + j, none⟩ = some (.int k z) ∧ (Lit.int k z).wf = true := by
        intro i hil j hj
        obtain ⟨z, h1, h2⟩ := cell i hil j hj
        rw [addr_row, addr_row] at h1
        exact ⟨z, h1, h2⟩
      rw [addr_row, addr_row] at hz0
      refine ⟨b, off, fun i j => if hh : i < len ∧ j < fs.size then (cell' i hh.1 j hh.2).choose else 0, rfl, World.block_lt_of_cell? w _ hz0, by omega, fun i hil j hj => ?_⟩
      have := (cell' i hil j hj).choose_spec
      simpa [hil, hj] using this

end Go.Proofs.Ytadfgadkihlmcaa
