/- A row of units that came in, opened; the law NalBack at every input. -/
import Derived.Test.YtdlklcdafembhaaOA
import Derived.Deep.Strs
namespace Go.Proofs.Ytdlklcdafembhaa
open Go.RowKit Zn Zo Go.Deep Go.ChangeShapes Go.WideShapes

theorem add_row {b off k : Nat} : (⟨b, off, none⟩ : Addr).add k = ⟨b, off + k, none⟩ := by
  unfold Addr.add; split <;> simp_all

/-- What is known of the i-th unit of a row. -/
def UnitIs {H : Type} (W : World) (x : Addr) (D : Nat → DataW H) (i : Nat) (u : UU) : Prop :=
  W.cell? ((x.add (i * 3)).add 0) = some (.int .i64 u.ref) ∧ W.cell? ((x.add (i * 3)).add 1) = some (.int .i64 u.ty) ∧ W.cell? ((x.add (i * 3)).add 2) = some (.string ⟨u.rb.toArray⟩) ∧
  D i = .agg [.lit (.int .i64 u.ref), .lit (.int .i64 u.ty), .lit (.string u.rb)]

theorem unit_is {H : Type} {enc : TypeId × Value → H} {W : World} {x : Addr} {D : Nat → DataW H} {Pl : List MemPlace} {i n : Nat} {cs : List Value}
    (hc : W.cells? 0 (x.add (i * Try.prog.cellsOf 32)) (Try.prog.cellsOf 32) = some cs) (h : DataW.trod enc Try.prog W 0 (fun _ => true) true n 32 cs = some (D i, Pl)) : ∃ u, UnitIs W x D i u := by
  have hC : Try.prog.cellsOf 32 = 3 := by kernel_rfl
  have hI : Try.prog.cellsOf 3 = 1 := by kernel_rfl
  have hS : Try.prog.cellsOf 9 = 1 := by kernel_rfl
  rw [hC] at hc
  obtain ⟨_, _, hat⟩ := World.cells?_some hc
  obtain ⟨y0, y1, y2, m, hx, hl, h0, h1, h2⟩ := trod_struct3 Try.underlying32 h
  rw [hC] at hl
  match cs, hl with
  | [v0, v1, v2], _ =>
    simp only [hI, hS] at h0 h1 h2
    obtain ⟨a, e0, rfl, _⟩ := DataW.trod_int Try.underlying3 h0
    obtain ⟨b, e1, rfl, _⟩ := DataW.trod_int Try.underlying3 h1
    obtain ⟨s, e2, rfl, _⟩ := DataW.trod_string Try.underlying9 h2
    simp at e0 e1 e2
    subst e0 e1 e2
    simp only [Prod.mk.injEq] at hx
    refine ⟨⟨a, b, s.data.toList⟩, ?_, ?_, ?_, hx.1⟩
    · rw [hat 0 (by decide)]; rfl
    · rw [hat 1 (by decide)]; rfl
    · rw [hat 2 (by decide), str_eta]; rfl

theorem bulk_all {H : Type} {W : World} {x : Addr} {D : Nat → DataW H} (f : Nat → UU) : ∀ l : List Nat, (∀ i ∈ l, UnitIs W x D i (f i)) → Rows.uptoBulkAll (l.map D) = bulk (l.map f)
  | [], _ => by simp [Rows.uptoBulkAll, bulk]
  | i :: l, h => by
    have ih := bulk_all f l (fun j hj => h j (by simp [hj]))
    have hi := (h i (by simp)).2.2.2
    rw [List.map_cons, List.map_cons, Rows.uptoBulkAll, ih, hi]
    simp only [Rows.uptoBulk, Rows.uptoBulkAll, bulk, List.map_cons, List.sum_cons]
    omega

theorem units_open {H : Type} {enc : TypeId × Value → H} {W : World} {a : Option Addr} {len cap : Nat} {d : DataW H} {p : List MemPlace}
    (h : DataW.Trod enc Try.prog W 0 (fun _ => true) true 40 (.slice a len cap) d p) : ∃ L : List UU, L.length = len ∧ UnitsAt W a L ∧ bulk L ≤ Rows.uptoBulk d := by
  obtain ⟨fuel, hf⟩ := h
  rcases open_slice Try.underlying40 hf with ⟨hcs, _⟩ | ⟨x, len', cap', m, n, D, Pl, hcs, _, hlc, hcm, hm, hd, hi⟩
  · simp [Value.cells] at hcs
    obtain ⟨rfl, rfl, rfl⟩ := hcs
    exact ⟨[], rfl, .inl rfl, by simp [bulk]⟩
  · simp [Value.cells] at hcs
    obtain ⟨rfl, rfl, rfl⟩ := hcs
    simp only [if_true] at hm
    subst hm
    have hex : ∀ i, i < len → ∃ u, UnitIs W x D i u := fun i hil => by
      obtain ⟨cs, hc, ht⟩ := hi i (by omega)
      exact unit_is hc ht
    have hf2 : ∀ i, i < len → UnitIs W x D i (if hh : i < len then (hex i hh).choose else ⟨0, 0, []⟩) := fun i hil => by
      rw [dif_pos hil]; exact (hex i hil).choose_spec
    obtain ⟨f, hfd⟩ : ∃ f : Nat → UU, ∀ i, i < len → UnitIs W x D i (f i) := ⟨fun i => if hh : i < len then (hex i hh).choose else ⟨0, 0, []⟩, hf2⟩
    refine ⟨(List.range len).map f, by simp, ?_, ?_⟩
    · by_cases h0 : len = 0
      · subst h0; exact .inl rfl
      · obtain ⟨b, off, spot⟩ := x
        have hz := (hfd 0 (by omega)).1
        cases spot with
        | some s =>
          exfalso
          simp [World.cell?, Addr.add] at hz
          repeat' split at hz
          all_goals simp_all
        | none =>
          rw [add_row, add_row] at hz
          refine .inr ⟨b, off, rfl, World.block_lt_of_cell? W _ hz, fun i hil => ?_⟩
          have hil' : i < len := by simpa using hil
          obtain ⟨e1, e2, e3, _⟩ := hfd i hil'
          rw [add_row, add_row] at e1 e2 e3
          have hg : ((List.range len).map f)[i] = f i := by simp
          rw [hg]
          exact ⟨e1, e2, e3⟩
    · have hdd := congrArg (·.1) hd
      simp only at hdd
      rw [hdd, Rows.uptoBulk, bulk_all f _ (fun i hil => hfd i (by simpa using hil))]
      omega

theorem nalBack_walk {H : Type} {enc : TypeId × Value → H} (a : Option Addr) (len cap : Nat) (W : World) {d : DataW H} {p : List MemPlace} (hm : ML W)
    (h : DataW.Trod enc Try.prog W 0 (fun _ => true) true 40 (.slice a len cap) d p) (hu : Rows.uptoBulk d ≤ 1048576) :
    Calls Try.prog 6 #[.slice a len cap] W fun e w' => e = .returned (.bool true) ∧ Below W.heap.size W w' := by
  obtain ⟨L, rfl, hU, hb⟩ := units_open h
  by_cases hall : ∀ u ∈ L, u.ok
  · exact nalBack_yes a cap L W hm hU (by omega) hall
  · exact nalBack_no a cap L W hm hU (by omega) hall

end Go.Proofs.Ytdlklcdafembhaa
