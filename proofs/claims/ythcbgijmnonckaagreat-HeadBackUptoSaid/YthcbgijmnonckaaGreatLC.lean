/- Layer 4: parameters and headers that came in, opened. -/
import Derived.Test.YthcbgijmnonckaaGreatKF
import Derived.Laws.IdiomArrays
import Derived.Test.YthcbgijmnonckaaGreatRows
import Derived.Lib.SmallJoins
import Derived.Deep.Slices
import Derived.Deep.Fields
import Derived.ChangeSame
namespace Go.Proofs.YthcbgijmnonckaaGreat
open Go.RowKit Zo Zp Go.Deep Go.ChangeShapes Go.WideShapes

theorem array9 {α : Type} {cs : Array α} (h : cs.size = 9) : ∃ c0 c1 c2 c3 c4 c5 c6 c7 c8, cs = #[c0, c1, c2, c3, c4, c5, c6, c7, c8] := by
  obtain ⟨l⟩ := cs
  match l, h with
  | [c0, c1, c2, c3, c4, c5, c6, c7, c8], _ => exact ⟨c0, c1, c2, c3, c4, c5, c6, c7, c8, rfl⟩

theorem list9 {α : Type} {cs : List α} (h : cs.length = 9) : ∃ c0 c1 c2 c3 c4 c5 c6 c7 c8, cs = [c0, c1, c2, c3, c4, c5, c6, c7, c8] := by
  match cs, h with
  | [c0, c1, c2, c3, c4, c5, c6, c7, c8], _ => exact ⟨c0, c1, c2, c3, c4, c5, c6, c7, c8, rfl⟩

section
variable {H : Type} {enc : TypeId × Value → H} {P : Program} {w : World} {base : Nat} {spare : Nat → Bool} {held : Bool}

/-- A struct by value of one-cell fields, opened. -/
theorem open_cells {r : Reach} {b0 : Nat} {t : TypeId} {fs : Array Field} {v : Value} {d : DataW H} {p : List MemPlace} (hs : P.underlying t = some (.struct fs)) (hone : oneCellFields P fs = true) (hC : P.cellsOf t = fs.size)
    (hv : Value.okWide P w r b0 t v) (h : DataW.Trod enc P w base spare held t v d p) :
    ∃ (cs : Array Value) (xs : List (DataW H × List MemPlace)) (n : Nat), v = .agg cs ∧ cs.size = fs.size ∧ xs.length = fs.size ∧ d = .agg (xs.map (·.1)) ∧
      ∀ (i : Nat) (f : Field) (u : Value) (x : DataW H × List MemPlace), fs[i]? = some f → cs[i]? = some u → xs[i]? = some x → DataW.trod enc P w base spare held n f.type [u] = some x := by
  obtain ⟨cs, rfl, hsz⟩ := okWide_struct hs hv
  obtain ⟨fuel, hf⟩ := h
  obtain ⟨xs, n, _, hx, _, hxl, hfs⟩ := DataW.trod_struct hs hf
  refine ⟨cs, xs, n, rfl, hsz.trans hC, hxl, (congrArg Prod.fst hx), fun i f u x hi hu hxi => ?_⟩
  obtain ⟨ho, hc⟩ := hone_of hone i f hi
  have g := hfs i f hi
  rw [ho, hc, hxi] at g
  have hlt : i < cs.size := (Array.getElem?_eq_some_iff.1 hu).1
  have e : ((Value.agg cs).cells.toList.drop i).take 1 = [u] := by
    have hl : i < (Value.agg cs).cells.toList.length := by simpa [Value.cells] using hlt
    rw [take1_drop _ i undef hl]
    simp only [Value.cells, List.getD_eq_getElem?_getD, Array.getElem?_toList, hu, Option.getD_some]
  rw [e] at g
  exact g
end

/-- Integers that came in, as a row. -/
theorem ints_in {H : Type} {enc : TypeId × Value → H} {W : World} {n : Nat} {u : Value} {x : DataW H × List MemPlace} (h : DataW.trod enc Tryz.prog W 0 (fun _ => true) true n 27 [u] = some x) :
    ∃ (a : Option Addr) (cap : Nat) (l : List Int), u = .slice a l.length cap ∧ IntRow W a l ∧ (a = none → l = [] ∧ cap = 0) ∧ l.length ≤ Rows.uptoBulk x.1 := by
  rcases open_ints Tryz.underlying27 Tryz.underlying3 (by kernel_rfl) h with ⟨hcs, hx⟩ | ⟨a, len, cap, zs, hcs, _, hl, hm, hz, hx, hcell, hw⟩
  · refine ⟨none, 0, [], by simpa using hcs, IntRow.nil _ _, fun _ => ⟨rfl, rfl⟩, by simp⟩
  · simp only [if_true] at hz
    have hlen : (zs.take len).length = len := by rw [List.length_take]; omega
    refine ⟨some a, cap, zs.take len, by rw [hlen]; simpa using hcs, ?_, (fun e => by cases e), ?_⟩
    · intro hne
      have h0 : 0 < zs.length := by
        rcases Nat.eq_zero_or_pos len with h | h
        · exact absurd (by rw [h]; rfl) hne
        · omega
      obtain ⟨b, off, spot⟩ := a
      have hc0 := hcell 0 h0
      have hspot : spot = none := by simpa [Addr.add] using World.cell?_spot hc0
      subst hspot
      refine ⟨b, off, rfl, ?_, fun i hi => ?_⟩
      · have hsh := hc0
        by_cases hb : b < W.heap.size
        · exact hb
        · exfalso
          simp [World.cell?, Addr.add, hb] at hsh
      · have hi' : i < len := by omega
        have hc := hcell i (by omega)
        rw [Addr.add_mid] at hc
        rw [hc]
        rw [List.getElem_take]
        simp [List.getD_eq_getElem?_getD, show i < zs.length by omega]
    · rw [hx, hlen]
      simp only [Rows.uptoBulk]
      have hb : ∀ (l : List Int), (Rows.uptoBulkAll (H := H) (lits .i64 l)) = l.length := by
        intro l
        induction l with
        | nil => rfl
        | cons y l ih =>
          show Rows.uptoBulkAll (H := H) (_ :: lits .i64 l) = _
          rw [Rows.uptoBulkAll, ih]
          show Rows.uptoBulk (H := H) (.lit (.int .i64 y)) + _ = _
          rw [Rows.uptoBulk]
          · simp; omega
          · intro bytes e; cases e
      rw [hb, hb, hlen]
      omega

set_option maxRecDepth 100000 in
theorem pps_open {H : Type} {enc : TypeId × Value → H} {W : World} {r : Reach} {b0 : Nat} {v : Value} {d : DataW H} {p : List MemPlace} (hv : Value.okWide Tryz.prog W r b0 31 v)
    (h : DataW.Trod enc Tryz.prog W 0 (fun _ => true) true 31 v d p) : ∃ q : PpsN, v = ppsV q := by
  obtain ⟨cs, xs, n, rfl, hc, hx, _, hf⟩ := open_cells Tryz.underlying31 (by kernel_rfl) (by kernel_rfl) hv h
  obtain ⟨c0, c1, c2, c3, c4, c5, c6, c7, c8, rfl⟩ := array9 hc
  obtain ⟨x0, x1, x2, x3, x4, x5, x6, x7, x8, rfl⟩ := list9 hx
  obtain ⟨y0, e0, _, _⟩ := DataW.trod_bool Tryz.underlying4 (hf 0 _ _ _ rfl rfl rfl)
  obtain ⟨y1, e1, _, _⟩ := DataW.trod_bool Tryz.underlying4 (hf 1 _ _ _ rfl rfl rfl)
  obtain ⟨y2, e2, _, _⟩ := DataW.trod_int Tryz.underlying3 (hf 2 _ _ _ rfl rfl rfl)
  obtain ⟨y3, e3, _, _⟩ := DataW.trod_int Tryz.underlying3 (hf 3 _ _ _ rfl rfl rfl)
  obtain ⟨y4, e4, _, _⟩ := DataW.trod_int Tryz.underlying3 (hf 4 _ _ _ rfl rfl rfl)
  obtain ⟨y5, e5, _, _⟩ := DataW.trod_bool Tryz.underlying4 (hf 5 _ _ _ rfl rfl rfl)
  obtain ⟨y6, e6, _, _⟩ := DataW.trod_bool Tryz.underlying4 (hf 6 _ _ _ rfl rfl rfl)
  obtain ⟨y7, e7, _, _⟩ := DataW.trod_int Tryz.underlying3 (hf 7 _ _ _ rfl rfl rfl)
  obtain ⟨y8, e8, _, _⟩ := DataW.trod_int Tryz.underlying3 (hf 8 _ _ _ rfl rfl rfl)
  simp only [List.cons.injEq, and_true] at e0 e1 e2 e3 e4 e5 e6 e7 e8
  subst e0 e1 e2 e3 e4 e5 e6 e7 e8
  exact ⟨⟨y0, y1, y2, y3, y4, y5, y6, y7, y8⟩, rfl⟩

set_option maxRecDepth 100000 in
theorem sps_open {H : Type} {enc : TypeId × Value → H} {W : World} {r : Reach} {b0 : Nat} {v : Value} {d : DataW H} {p : List MemPlace} (hv : Value.okWide Tryz.prog W r b0 29 v)
    (h : DataW.Trod enc Tryz.prog W 0 (fun _ => true) true 29 v d p) :
    ∃ (q : SpsN) (a : Option Addr) (cap : Nat), v = spsV q a cap ∧ IntRow W a q.cycle ∧ (a = none → q.cycle = [] ∧ cap = 0) ∧ q.cycle.length ≤ Rows.uptoBulk d := by
  obtain ⟨cs, xs, n, rfl, hc, hx, rfl, hf⟩ := open_cells Tryz.underlying29 (by kernel_rfl) (by kernel_rfl) hv h
  obtain ⟨c0, c1, c2, c3, c4, c5, c6, c7, c8, rfl⟩ := array9 hc
  obtain ⟨x0, x1, x2, x3, x4, x5, x6, x7, x8, rfl⟩ := list9 hx
  obtain ⟨y0, e0, _, _⟩ := DataW.trod_int Tryz.underlying3 (hf 0 _ _ _ rfl rfl rfl)
  obtain ⟨y1, e1, _, _⟩ := DataW.trod_int Tryz.underlying3 (hf 1 _ _ _ rfl rfl rfl)
  obtain ⟨y2, e2, _, _⟩ := DataW.trod_int Tryz.underlying3 (hf 2 _ _ _ rfl rfl rfl)
  obtain ⟨y3, e3, _, _⟩ := DataW.trod_int Tryz.underlying3 (hf 3 _ _ _ rfl rfl rfl)
  obtain ⟨y4, e4, _, _⟩ := DataW.trod_int Tryz.underlying3 (hf 4 _ _ _ rfl rfl rfl)
  obtain ⟨y5, e5, _, _⟩ := DataW.trod_int Tryz.underlying3 (hf 5 _ _ _ rfl rfl rfl)
  obtain ⟨a, cap, l, e6, hrow, hnone, hbulk⟩ := ints_in (hf 6 _ _ _ rfl rfl rfl)
  obtain ⟨y7, e7, _, _⟩ := DataW.trod_int Tryz.underlying3 (hf 7 _ _ _ rfl rfl rfl)
  obtain ⟨y8, e8, _, _⟩ := DataW.trod_int Tryz.underlying3 (hf 8 _ _ _ rfl rfl rfl)
  simp only [List.cons.injEq, and_true] at e0 e1 e2 e3 e4 e5 e7 e8
  subst e0 e1 e2 e3 e4 e5 e6 e7 e8
  refine ⟨⟨y0, y1, y2, y3, y4, y5, l, y7, y8⟩, a, cap, rfl, hrow, hnone, ?_⟩
  simp only [List.map_cons, List.map_nil, Rows.uptoBulk, Rows.uptoBulkAll]
  omega


theorem bulk_pos {H : Type} (d : DataW H) : 1 ≤ Rows.uptoBulk d := by
  cases d with
  | lit l => cases l <;> simp [Rows.uptoBulk]
  | _ => simp [Rows.uptoBulk]

theorem bulk_len {H : Type} (l : List (DataW H)) : l.length ≤ Rows.uptoBulkAll l := by
  induction l with
  | nil => simp
  | cons d r ih =>
    have := bulk_pos d
    simp only [List.length_cons, Rows.uptoBulkAll]
    omega

theorem addr_rw {b off : Nat} {k : Nat} : (⟨b, off, none⟩ : Addr).add k = ⟨b, off + k, none⟩ := by
  unfold Addr.add; split <;> simp_all

/-- A slice of structs of k integers each that came in, as a row. -/
theorem krow_in {H : Type} {enc : TypeId × Value → H} {W : World} {α : Type} (k : Nat) (cells : α → List Int) {t e : TypeId} (ht : Tryz.prog.underlying t = some (.slice e)) (hC : Tryz.prog.cellsOf e = k) (hk : 0 < k) (hlen : ∀ x : α, (cells x).length = k)
    (hel : ∀ (n : Nat) (cs : List Value) (y : DataW H × List MemPlace), cs.length = k → DataW.trod enc Tryz.prog W 0 (fun _ => true) true n e cs = some y → ∃ x : α, cs = (cells x).map (Value.int .i64))
    {n : Nat} {u : Value} {x : DataW H × List MemPlace} (h : DataW.trod enc Tryz.prog W 0 (fun _ => true) true n t [u] = some x) :
    ∃ (a : Option Addr) (cap : Nat) (l : List α), u = .slice a l.length cap ∧ KRow k cells W a l ∧ (∀ b, l ≠ [] → a = some b → b.block < W.heap.size) ∧ l.length ≤ Rows.uptoBulk x.1 := by
  rcases open_slice ht h with ⟨hcs, _⟩ | ⟨a, len, cap, m, n', D, Pl, hcs, _, hlc, hcm, hm, hx, hi⟩
  · exact ⟨none, 0, [], by simpa using hcs, KRow.nil _ _ _ _, fun _ h => absurd rfl h, by simp⟩
  · simp only [if_true] at hm
    obtain rfl := hm.symm
    have pick : ∀ i, i < len → ∃ y : α, ∀ j z, (cells y)[j]? = some z → W.cell? ((a.add (i * k)).add j) = some (.int .i64 z) := by
      intro i hil
      obtain ⟨cs, hc, htr⟩ := hi i (by omega)
      rw [hC] at hc
      obtain ⟨_, hclen, hat⟩ := World.cells?_some hc
      obtain ⟨y, rfl⟩ := hel _ _ _ hclen htr
      refine ⟨y, fun j z hz => ?_⟩
      have hj : j < k := by
        have := (List.getElem?_eq_some_iff.1 hz).1
        rw [hlen] at this
        exact this
      rw [hat j hj, List.getElem?_map, hz]
      rfl
    have hu : u = .slice (some a) len cap := by simpa using hcs
    subst hu
    have hl0 : (List.ofFn fun i : Fin len => (pick i i.2).choose).length = len := by simp
    have hla : ∀ i (hh : i < (List.ofFn fun i : Fin len => (pick i i.2).choose).length), ∀ j z, (cells ((List.ofFn fun i : Fin len => (pick i i.2).choose)[i]))[j]? = some z → W.cell? ((a.add (i * k)).add j) = some (.int .i64 z) := by
      intro i hh j z hz
      rw [List.getElem_ofFn] at hz
      exact (pick i (by simpa using hh)).choose_spec j z hz
    obtain ⟨l, hl⟩ : ∃ l, (List.ofFn fun i : Fin len => (pick i i.2).choose) = l := ⟨_, rfl⟩
    simp only [hl] at hl0 hla
    have hbulk : l.length ≤ Rows.uptoBulk x.1 := by
      rw [hx]
      simp only [Rows.uptoBulk]
      have := bulk_len ((List.range len).map D)
      rw [List.length_map, List.length_range] at this
      omega
    obtain ⟨b, off, spot⟩ := a
    rcases Nat.eq_zero_or_pos len with h0 | h0
    · have e : l = [] := List.eq_nil_of_length_eq_zero (by omega)
      subst e
      exact ⟨some ⟨b, off, spot⟩, cap, [], by rw [h0]; rfl, KRow.nil _ _ _ _, fun _ h => absurd rfl h, hbulk⟩
    · have hz0 : ∃ z, (cells (l[0]'(by omega)))[0]? = some z := ⟨_, List.getElem?_eq_getElem (by rw [hlen]; exact hk)⟩
      obtain ⟨z0, hz0⟩ := hz0
      have hc0 := hla 0 (by omega) 0 z0 hz0
      have hspot : spot = none := by
        cases spot with
        | none => rfl
        | some s =>
          exfalso
          simp [World.cell?, Addr.add] at hc0
          repeat' split at hc0
          all_goals simp_all
      subst hspot
      have hb : b < W.heap.size := by
        rw [addr_rw, addr_rw] at hc0
        exact World.block_lt_of_cell? W _ hc0
      refine ⟨some ⟨b, off, none⟩, cap, l, by rw [hl0], fun _ => ⟨b, off, rfl, hb, fun i hi j z hz => ?_⟩, fun b' _ e => ?_, hbulk⟩
      · have := hla i hi j z hz
        rw [addr_rw, addr_rw] at this
        exact this
      · obtain rfl := (Option.some.inj e).symm
        exact hb

section
variable {H : Type} {enc : TypeId × Value → H} {W : World}
theorem int1 : Tryz.prog.cellsOf 3 = 1 := by kernel_rfl
theorem int3 : Tryz.prog.cellsOf 71 = 3 := by kernel_rfl

theorem mod_in (n : Nat) (cs : List Value) (y : DataW H × List MemPlace) (hl : cs.length = 2) (h : DataW.trod enc Tryz.prog W 0 (fun _ => true) true n 128 cs = some y) : ∃ x : ModN, cs = (modI x).map (Value.int .i64) := by
  match cs, hl with
  | [c0, c1], _ =>
    obtain ⟨xs, m, _, _, _, hxl, hf⟩ := DataW.trod_struct Tryz.underlying128 h
    match xs, hxl with
    | [y0, y1], _ =>
      have g0 := hf 0 _ rfl
      have g1 := hf 1 _ rfl
      simp [int1] at g0 g1
      obtain ⟨z0, e0, _, _⟩ := DataW.trod_int Tryz.underlying3 g0
      obtain ⟨z1, e1, _, _⟩ := DataW.trod_int Tryz.underlying3 g1
      simp only [List.cons.injEq, and_true] at e0 e1
      subst e0 e1
      exact ⟨⟨z0, z1⟩, rfl⟩

theorem op_in (n : Nat) (cs : List Value) (y : DataW H × List MemPlace) (hl : cs.length = 3) (h : DataW.trod enc Tryz.prog W 0 (fun _ => true) true n 69 cs = some y) : ∃ x : OpN, cs = (opI x).map (Value.int .i64) := by
  match cs, hl with
  | [c0, c1, c2], _ =>
    obtain ⟨xs, m, _, _, _, hxl, hf⟩ := DataW.trod_struct Tryz.underlying69 h
    match xs, hxl with
    | [y0, y1, y2], _ =>
      have g0 := hf 0 _ rfl
      have g1 := hf 1 _ rfl
      have g2 := hf 2 _ rfl
      simp [int1] at g0 g1 g2
      obtain ⟨z0, e0, _, _⟩ := DataW.trod_int Tryz.underlying3 g0
      obtain ⟨z1, e1, _, _⟩ := DataW.trod_int Tryz.underlying3 g1
      obtain ⟨z2, e2, _, _⟩ := DataW.trod_int Tryz.underlying3 g2
      simp only [List.cons.injEq, and_true] at e0 e1 e2
      subst e0 e1 e2
      exact ⟨⟨z0, z1, z2⟩, rfl⟩

theorem weight_in (n : Nat) (cs : List Value) (y : DataW H × List MemPlace) (hl : cs.length = 6) (h : DataW.trod enc Tryz.prog W 0 (fun _ => true) true n 73 cs = some y) : ∃ x : WeightN, cs = (weightI x).map (Value.int .i64) := by
  match cs, hl with
  | [c0, c1, c2, c3, c4, c5], _ =>
    obtain ⟨xs, m, _, _, _, hxl, hf⟩ := DataW.trod_struct Tryz.underlying73 h
    match xs, hxl with
    | [y0, y1], _ =>
      have g0 := hf 0 _ rfl
      have g1 := hf 1 _ rfl
      simp [int3] at g0 g1
      obtain ⟨w0, w1, w2, n0, _, f0, f1, f2⟩ := trod_array3 Tryz.underlying71 int1 g0
      obtain ⟨w3, w4, w5, n1, _, f3, f4, f5⟩ := trod_array3 Tryz.underlying71 int1 g1
      obtain ⟨z0, e0, _, _⟩ := DataW.trod_int Tryz.underlying3 f0
      obtain ⟨z1, e1, _, _⟩ := DataW.trod_int Tryz.underlying3 f1
      obtain ⟨z2, e2, _, _⟩ := DataW.trod_int Tryz.underlying3 f2
      obtain ⟨z3, e3, _, _⟩ := DataW.trod_int Tryz.underlying3 f3
      obtain ⟨z4, e4, _, _⟩ := DataW.trod_int Tryz.underlying3 f4
      obtain ⟨z5, e5, _, _⟩ := DataW.trod_int Tryz.underlying3 f5
      simp only [List.cons.injEq, and_true] at e0 e1 e2 e3 e4 e5
      subst e0 e1 e2 e3 e4 e5
      exact ⟨⟨z0, z1, z2, z3, z4, z5⟩, rfl⟩
end


theorem array21 {α : Type} {cs : Array α} (h : cs.size = 21) : ∃ c0 c1 c2 c3 c4 c5 c6 c7 c8 c9 c10 c11 c12 c13 c14 c15 c16 c17 c18 c19 c20, cs = #[c0, c1, c2, c3, c4, c5, c6, c7, c8, c9, c10, c11, c12, c13, c14, c15, c16, c17, c18, c19, c20] := by
  obtain ⟨l⟩ := cs
  match l, h with
  | [c0, c1, c2, c3, c4, c5, c6, c7, c8, c9, c10, c11, c12, c13, c14, c15, c16, c17, c18, c19, c20], _ => exact ⟨c0, c1, c2, c3, c4, c5, c6, c7, c8, c9, c10, c11, c12, c13, c14, c15, c16, c17, c18, c19, c20, rfl⟩

theorem list21 {α : Type} {cs : List α} (h : cs.length = 21) : ∃ x0 x1 x2 x3 x4 x5 x6 x7 x8 x9 x10 x11 x12 x13 x14 x15 x16 x17 x18 x19 x20, cs = [x0, x1, x2, x3, x4, x5, x6, x7, x8, x9, x10, x11, x12, x13, x14, x15, x16, x17, x18, x19, x20] := by
  match cs, h with
  | [x0, x1, x2, x3, x4, x5, x6, x7, x8, x9, x10, x11, x12, x13, x14, x15, x16, x17, x18, x19, x20], _ => exact ⟨x0, x1, x2, x3, x4, x5, x6, x7, x8, x9, x10, x11, x12, x13, x14, x15, x16, x17, x18, x19, x20, rfl⟩

set_option maxRecDepth 100000 in
set_option maxHeartbeats 1000000 in
theorem head_open {H : Type} {enc : TypeId × Value → H} {W : World} {r : Reach} {b0 : Nat} {v : Value} {d : DataW H} {p : List MemPlace} (hv : Value.okWide Tryz.prog W r b0 26 v)
    (h : DataW.Trod enc Tryz.prog W 0 (fun _ => true) true 26 v d p) (hb : Rows.uptoBulk d ≤ 1048576) :
    ∃ (q : HeadN) (A : Adr), v = .agg (headCells q A) ∧ HeadRows W q A.m0 A.m1 A.q0 A.q1 A.os ∧ HeadLow W.heap.size q A.m0 A.m1 A.q0 A.q1 A.os := by
  obtain ⟨cs, xs, n, rfl, hc, hx, rfl, hf⟩ := open_cells Tryz.underlying26 (by kernel_rfl) (by kernel_rfl) hv h
  obtain ⟨c0, c1, c2, c3, c4, c5, c6, c7, c8, c9, c10, c11, c12, c13, c14, c15, c16, c17, c18, c19, c20, rfl⟩ := array21 hc
  obtain ⟨x0, x1, x2, x3, x4, x5, x6, x7, x8, x9, x10, x11, x12, x13, x14, x15, x16, x17, x18, x19, x20, rfl⟩ := list21 hx

  obtain ⟨y0, e0, _, _⟩ := DataW.trod_int Tryz.underlying3 (hf 0 _ _ _ rfl rfl rfl)
  obtain ⟨y1, e1, _, _⟩ := DataW.trod_int Tryz.underlying3 (hf 1 _ _ _ rfl rfl rfl)
  obtain ⟨y2, e2, _, _⟩ := DataW.trod_int Tryz.underlying3 (hf 2 _ _ _ rfl rfl rfl)
  obtain ⟨y3, e3, _, _⟩ := DataW.trod_int Tryz.underlying3 (hf 3 _ _ _ rfl rfl rfl)
  obtain ⟨y4, e4, _, _⟩ := DataW.trod_int Tryz.underlying3 (hf 4 _ _ _ rfl rfl rfl)
  obtain ⟨y5, e5, _, _⟩ := DataW.trod_int Tryz.underlying3 (hf 5 _ _ _ rfl rfl rfl)
  obtain ⟨y6, e6, _, _⟩ := DataW.trod_bool Tryz.underlying4 (hf 6 _ _ _ rfl rfl rfl)
  obtain ⟨y7, e7, _, _⟩ := DataW.trod_int Tryz.underlying3 (hf 7 _ _ _ rfl rfl rfl)
  obtain ⟨y8, e8, _, _⟩ := DataW.trod_int Tryz.underlying3 (hf 8 _ _ _ rfl rfl rfl)
  obtain ⟨a9, p9, l9, rfl, r9, b9, u9⟩ := krow_in 2 modI Tryz.underlying22 (by kernel_rfl) (by omega) (fun _ => rfl) mod_in (hf 9 _ _ _ rfl rfl rfl)
  obtain ⟨a10, p10, l10, rfl, r10, b10, u10⟩ := krow_in 2 modI Tryz.underlying22 (by kernel_rfl) (by omega) (fun _ => rfl) mod_in (hf 10 _ _ _ rfl rfl rfl)
  obtain ⟨y11, e11, _, _⟩ := DataW.trod_int Tryz.underlying3 (hf 11 _ _ _ rfl rfl rfl)
  obtain ⟨y12, e12, _, _⟩ := DataW.trod_int Tryz.underlying3 (hf 12 _ _ _ rfl rfl rfl)
  obtain ⟨a13, p13, l13, rfl, r13, b13, u13⟩ := krow_in 6 weightI Tryz.underlying23 (by kernel_rfl) (by omega) (fun _ => rfl) weight_in (hf 13 _ _ _ rfl rfl rfl)
  obtain ⟨a14, p14, l14, rfl, r14, b14, u14⟩ := krow_in 6 weightI Tryz.underlying23 (by kernel_rfl) (by omega) (fun _ => rfl) weight_in (hf 14 _ _ _ rfl rfl rfl)
  obtain ⟨y15, e15, _, _⟩ := DataW.trod_bool Tryz.underlying4 (hf 15 _ _ _ rfl rfl rfl)
  obtain ⟨a16, p16, l16, rfl, r16, b16, u16⟩ := krow_in 3 opI Tryz.underlying24 (by kernel_rfl) (by omega) (fun _ => rfl) op_in (hf 16 _ _ _ rfl rfl rfl)
  obtain ⟨y17, e17, _, _⟩ := DataW.trod_int Tryz.underlying3 (hf 17 _ _ _ rfl rfl rfl)
  obtain ⟨y18, e18, _, _⟩ := DataW.trod_bool Tryz.underlying4 (hf 18 _ _ _ rfl rfl rfl)
  obtain ⟨y19, e19, _, _⟩ := DataW.trod_int Tryz.underlying3 (hf 19 _ _ _ rfl rfl rfl)
  obtain ⟨y20, e20, _, _⟩ := DataW.trod_int Tryz.underlying3 (hf 20 _ _ _ rfl rfl rfl)
  simp only [List.cons.injEq, and_true] at e0 e1 e2 e3 e4 e5 e6 e7 e8 e11 e12 e15 e17 e18 e19 e20
  subst e0 e1 e2 e3 e4 e5 e6 e7 e8 e11 e12 e15 e17 e18 e19 e20
  simp only [List.map_cons, List.map_nil, Rows.uptoBulk, Rows.uptoBulkAll] at hb
  refine ⟨⟨y0, y1, y2, y3, y4, y5, y6, y7, y8, l9, l10, y11, y12, l13, l14, y15, l16, y17, y18, y19, y20⟩, ⟨a9, a10, a13, a14, a16, p9, p10, p13, p14, p16⟩, rfl, ⟨r9, r10, r13, r14, r16, ?_, ?_, ?_, ?_, ?_⟩, ⟨b9, b10, b13, b14, b16⟩⟩
  all_goals (simp only; omega)
end Go.Proofs.YthcbgijmnonckaaGreat
