/- The walk of the law NalUnits; a unit and a row of units that came in, opened. -/
import Derived.Test.YtdlklcdafembhaaNX
import Derived.Test.YtdlklcdafembhaaRows
import Derived.Lib.SmallJoins
import Derived.Deep.Slices
import Derived.Deep.Fields
import Derived.ChangeSame
namespace Go.Proofs.Ytdlklcdafembhaa
open Go.RowKit Zn Zo Go.Deep Go.ChangeShapes Go.WideShapes

theorem unit_open {H : Type} {enc : TypeId × Value → H} {W : World} {r : Reach} {b0 : Nat} {v : Value} {d : DataW H} {p : List MemPlace} (hv : Value.okWide Try.prog W r b0 32 v)
    (h : DataW.Trod enc Try.prog W 0 (fun _ => true) true 32 v d p) :
    ∃ (rf ty : Int) (s : ByteArray), v = .agg #[.int .i64 rf, .int .i64 ty, .string s] ∧ d = .agg [.lit (.int .i64 rf), .lit (.int .i64 ty), .lit (.string s.data.toList)] := by
  obtain ⟨c0, c1, c2, y0, y1, y2, m, rfl, rfl, rfl, hy0, hy1, hy2⟩ := Joins.open_agg3 Try.underlying32 (by kernel_rfl) (by kernel_rfl) hv h
  obtain ⟨x, e0, rfl, _⟩ := DataW.trod_int Try.underlying3 hy0
  obtain ⟨y, e1, rfl, _⟩ := DataW.trod_int Try.underlying3 hy1
  obtain ⟨s, e2, rfl, _⟩ := DataW.trod_string Try.underlying9 hy2
  simp at e0 e1 e2
  subst e0 e1 e2
  exact ⟨x, y, s, rfl, rfl⟩

theorem up_at (s : ByteArray) (w : World) (hs : s.size ≤ 90000000) {rf ty code : Int} {t : ByteArray} (h : upAns s.data.toList = (⟨rf, ty, t.data.toList⟩, code)) :
    Calls Try.prog 19 #[.string s] w fun e w' => e = .returned (.tuple #[.agg #[.int .i64 rf, .int .i64 ty, .string t], .int .i64 code]) ∧ Below w.heap.size w w' := by
  refine (unpack_any s w hs).mono ?_
  rintro e w' ⟨rfl, b⟩
  exact ⟨by rw [h, UU.v, str_eta], b⟩

theorem upRef_at (s : ByteArray) (w : World) (hs : s.size ≤ 90000000) {rf ty code : Int} {t : ByteArray} (h : upAns s.data.toList = (⟨rf, ty, t.data.toList⟩, code)) :
    Calls Try.prog 20 #[.string s] w fun e w' => e = .returned (.tuple #[.agg #[.int .i64 rf, .int .i64 ty, .string t], .int .i64 code]) ∧ Below w.heap.size w w' := by
  refine (upRef_any s w hs).mono ?_
  rintro e w' ⟨rfl, b⟩
  exact ⟨by rw [h, UU.v, str_eta], b⟩

theorem packRef_at (ref ty : Int) (rb : ByteArray) (w : World) (hs : rb.size ≤ 90000000) {t : ByteArray} {code : Int} (h : pkAns ref ty rb.data.toList = (t.data.toList, code)) :
    Calls Try.prog 18 #[.agg #[.int .i64 ref, .int .i64 ty, .string rb]] w fun e w' => e = .returned (.tuple #[.string t, .int .i64 code]) ∧ Below w.heap.size w w' := by
  by_cases hu : okU ref ty
  · rw [pkAns_yes hu] at h
    have h1 : pk ref ty rb.data.toList = t.data.toList := congrArg (·.1) h
    obtain rfl : (0 : Int) = code := congrArg (·.2) h
    exact packRef_yes ref ty rb w hs hu h1
  · rw [pkAns_no hu] at h
    obtain rfl : (⟨#[]⟩ : ByteArray) = t := by
      apply ByteArray.ext
      apply Array.toList_inj.1
      exact congrArg (·.1) h
    obtain rfl : (200 : Int) = code := congrArg (·.2) h
    exact packRef_no ref ty rb w hu

set_option maxRecDepth 100000 in
set_option maxHeartbeats 3200000 in
theorem nalUnits_at (rf ty : Int) (rb s : ByteArray) (w : World) (hm : ML w) (hr : rb.size ≤ 1048576) (hs : s.size ≤ 1048576) :
    Calls Try.prog 4 #[.agg #[.int .i64 rf, .int .i64 ty, .string rb], .string s] w fun e w' => e = .returned (.bool true) ∧ Below w.heap.size w w' := by
  obtain ⟨t, code, ht⟩ : ∃ (t : ByteArray) (code : Int), pkAns rf ty rb.data.toList = (t.data.toList, code) := ⟨⟨(pkAns rf ty rb.data.toList).1.toArray⟩, _, rfl⟩
  obtain ⟨r2, t2, b2, c2, hu⟩ : ∃ (r2 t2 : Int) (b2 : ByteArray) (c2 : Int), upAns s.data.toList = (⟨r2, t2, b2.data.toList⟩, c2) := ⟨_, _, ⟨(upAns s.data.toList).1.rb.toArray⟩, _, rfl⟩
  have HT := Lib.hid ht
  have HU := Lib.hid hu
  have HM := Lib.hid hm
  have HX : Hid (∀ W', Below (w.heap.size + 1) (w.alloc (.cells #[.int .i64 rf, .int .i64 ty, .string rb] 32)) W' → W'.cell? ⟨w.heap.size, 0, none⟩ = some (.int .i64 rf) ∧ W'.cell? ⟨w.heap.size, 1, none⟩ = some (.int .i64 ty) ∧ W'.cell? ⟨w.heap.size, 2, none⟩ = some (.string rb)) := fun W' b => by
    have hx := (b.block w.heap.size (by omega)).trans (heap_alloc_last w _)
    exact ⟨cell_of_row _ _ 0 _ _ _ hx, cell_of_row _ _ 1 _ _ _ hx, cell_of_row _ _ 2 _ _ _ hx⟩
  have B0 : Hid (Below w.heap.size w (w.alloc (.cells #[.int .i64 rf, .int .i64 ty, .string rb] 32))) := (Below.refl _ _).alloc (Nat.le_refl _) _
  clear ht hu hm
  go_enter Try.func4, Try.ntmps4
  go_wp2_with fail
  refine (pack_at rf ty rb _ (by omega) HT.out).mono ?_
  rintro e w1 ⟨rfl, b1⟩
  have b1' : Below (w.heap.size + 1) (w.alloc (.cells #[.int .i64 rf, .int .i64 ty, .string rb] 32)) w1 := b1.mono (by simp)
  obtain ⟨k0, k1, k2⟩ := HX.out w1 b1'
  have B1 := Lib.hid b1'
  clear b1 b1'
  go_wp2_with fail
  refine (packRef_at rf ty rb w1 (by omega) HT.out).mono ?_
  rintro e w2 ⟨rfl, b2'⟩
  have B2 := Lib.hid (B1.out.trans (b2'.mono (by have := B1.out.size; simp at this; omega)))
  clear b2' k0 k1 k2
  go_wp2_with fail
  refine (up_at s w2 (by omega) HU.out).mono ?_
  rintro e w3 ⟨rfl, b3⟩
  have B3 := Lib.hid (B2.out.trans (b3.mono (by have := B2.out.size; simp at this; omega)))
  have Z3 : w.heap.size + 1 ≤ w3.heap.size := by have := B3.out.size; simp at this; omega
  clear b3
  go_wp2_with fail
  refine (upRef_at s _ (by omega) HU.out).mono ?_
  rintro e w4 ⟨rfl, b4⟩
  have hx4 := (b4.block w3.heap.size (by simp)).trans (heap_alloc_last w3 _)
  have d0 := cell_of_row _ _ 0 _ _ _ hx4
  have d1 := cell_of_row _ _ 1 _ _ _ hx4
  have d2 := cell_of_row _ _ 2 _ _ _ hx4
  simp at d0 d1 d2
  have B4 := Lib.hid ((B3.out.alloc Z3 _).trans (b4.mono (by simp; omega)))
  have Z4 : w3.heap.size + 1 ≤ w4.heap.size := by have := b4.size; simp at this; omega
  clear b4 hx4
  have ba : Below w4.heap.size w4 (w4.alloc (.cells #[.int .i64 r2, .int .i64 t2, .string b2] 32)) := (Below.refl _ _).alloc (Nat.le_refl _) _
  have d0' := (ba.cell (p := ⟨w3.heap.size, 0, none⟩) (show w3.heap.size < w4.heap.size by omega)).trans d0
  have d1' := (ba.cell (p := ⟨w3.heap.size, 1, none⟩) (show w3.heap.size < w4.heap.size by omega)).trans d1
  have d2' := (ba.cell (p := ⟨w3.heap.size, 2, none⟩) (show w3.heap.size < w4.heap.size by omega)).trans d2
  have hm5 := Lib.hid (HM.out.below ((B0.out.trans (B4.out.mono (by omega))).trans (ba.mono (by omega))))
  have B5 := Lib.hid ((B0.out.trans (B4.out.mono (by omega))).trans (ba.mono (by omega)))
  clear ba d0 d1 d2
  go_wp2_with (go_at_call 15; refine (num_any _ _).mono ?_; rintro e w' ⟨rfl, rfl⟩)
  refine (awake_any _ hm5.out).mono ?_
  rintro e w5 ⟨rfl, b5⟩
  have B6 := Lib.hid (B5.out.trans (b5.mono (by have := B5.out.size; omega)))
  clear b5
  go_wp2_with fail
  go_ret
  exact ⟨rfl, B6.out⟩

theorem nalUnits_walk {H : Type} {enc : TypeId × Value → H} {W0 : World} {r : Reach} {b0 : Nat} (v : Value) (s : ByteArray) (W : World) {d : DataW H} {p : List MemPlace} (hm : ML W)
    (hv : Value.okWide Try.prog W0 r b0 32 v) (h : DataW.Trod enc Try.prog W0 0 (fun _ => true) true 32 v d p) (hu : Rows.uptoBulk d ≤ 1048576) (hs : s.size ≤ 1048576) :
    Calls Try.prog 4 #[v, .string s] W fun e w' => e = .returned (.bool true) ∧ Below W.heap.size W w' := by
  obtain ⟨rf, ty, rb, rfl, rfl⟩ := unit_open hv h
  simp only [Rows.uptoBulk, Rows.uptoBulkAll] at hu
  exact nalUnits_at rf ty rb s W hm (by have : rb.data.toList.length = rb.size := by simp
                                        omega) hs

end Go.Proofs.Ytdlklcdafembhaa
