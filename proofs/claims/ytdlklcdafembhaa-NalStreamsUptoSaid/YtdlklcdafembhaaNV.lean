/- The law's own pack, and the document's Unpack. -/
import Derived.Test.YtdlklcdafembhaaNU
import Derived.Test.YtdlklcdafembhaaNL
namespace Go.Proofs.Ytdlklcdafembhaa
open Go.RowKit Zn Zo

theorem escRef_str (s : ByteArray) (w : World) (hs : s.size ≤ 100000000) {t : ByteArray} (h : esc 0 s.data.toList = t.data.toList) :
    Calls Try.prog 14 #[.string s] w fun e w' => e = .returned (.string t) ∧ Below w.heap.size w w' := by
  refine (escRef_any s w hs).mono ?_
  rintro e w' ⟨rfl, b⟩
  exact ⟨by rw [h, str_eta], b⟩

theorem conv_at (c : UInt8) (z : Int) (hz : z = (c.toNat : Int)) (w : World) (g : Nat) (hg : w.heap[g]? = some (.cells #[.int .u8 z] 5 (0, 0))) :
    (convert 51 9 (.slice (some ⟨g, 0, none⟩) 1 1)).run Try.prog w = .ok (.string ⟨#[c]⟩) w := by
  have h : OwnB w 0 (.slice (some ⟨g, 0, none⟩) 1 1) [c] := by
    rw [hz] at hg
    exact ⟨rfl, .inr ⟨g, 1, _, rfl, by omega, hg, by simp, by unfold maxLen; omega, rfl, rfl⟩⟩
  exact conv_own _ 0 _ _ h

theorem packRef_no (ref ty : Int) (rb : ByteArray) (w : World) (hu : ¬ okU ref ty) :
    Calls Try.prog 18 #[.agg #[.int .i64 ref, .int .i64 ty, .string rb]] w fun e w' => e = .returned (.tuple #[.string ⟨#[]⟩, .int .i64 200]) ∧ Below w.heap.size w w' := by
  have hc : ref < 0 ∨ (0 ≤ ref ∧ 3 < ref) ∨ (0 ≤ ref ∧ ref ≤ 3 ∧ ty < 1) ∨ (0 ≤ ref ∧ ref ≤ 3 ∧ 1 ≤ ty ∧ 31 < ty) := by unfold okU at hu; omega
  clear hu
  rcases hc with h1 | ⟨h1, h2⟩ | ⟨h1, h2, h3⟩ | ⟨h1, h2, h3, h4⟩
  all_goals
    go_enter Try.func18, Try.ntmps18
    go_wp2_with fail
    go_ret2
    exact ⟨rfl, (Below.refl _ _).alloc (Nat.le_refl _) _⟩

set_option maxHeartbeats 6400000 in
theorem packRef_yes (ref ty : Int) (rb : ByteArray) (w : World) (hs : rb.size ≤ 90000000) (hu : okU ref ty) {t : ByteArray} (ht : pk ref ty rb.data.toList = t.data.toList) :
    Calls Try.prog 18 #[.agg #[.int .i64 ref, .int .i64 ty, .string rb]] w fun e w' => e = .returned (.tuple #[.string t, .int .i64 0]) ∧ Below w.heap.size w w' := by
  have hz0 := pk_byte ref ty hu
  obtain ⟨h1, h2, h3, h4⟩ := hu
  obtain ⟨c, hc⟩ : ∃ c, (32 * ref + ty).toNat.toUInt8 = c := ⟨_, rfl⟩
  obtain ⟨eb, heb⟩ : ∃ eb : ByteArray, esc 0 rb.data.toList = eb.data.toList := ⟨⟨(esc 0 rb.data.toList).toArray⟩, rfl⟩
  rw [hc] at hz0
  have hz : 32 * ref + ty = (c.toNat : Int) := by omega
  have HE := Lib.hid heb
  have HT : Hid ((⟨#[c]⟩ : ByteArray) ++ eb = t) := by
    apply ByteArray.ext
    apply Array.toList_inj.1
    rw [← ht, pk, hc, heb]
    simp
  have hebs : eb.size ≤ 150000000 := by
    have := esc_length_le rb.data.toList 0 (by omega)
    rw [heb] at this
    simp at this
    omega
  have hadd : ∀ w, (Op.stringOp .add ⟨#[c]⟩ eb).run Try.prog w = .ok (.string t) w := fun w => by
    rw [run_string_add_sum w _ _ (by show 1 + eb.size ≤ _; omega), HT.out]
  have hadd2 : ∀ w, (binOp .add 9 (.string ⟨#[c]⟩) (.string eb)).run Try.prog w = .ok (.string t) w := fun w => by
    rw [binOp_string_add]; exact hadd w
  have hcv := fun w => conv_byte c (32 * ref + ty) hz w
  have hs1 : rb.size ≤ 100000000 := by omega
  have HX : Hid (∀ W', Below (w.heap.size + 1) (w.alloc (.cells #[.int .i64 ref, .int .i64 ty, .string rb] 32)) W' → W'.cell? ⟨w.heap.size, 0, none⟩ = some (.int .i64 ref) ∧ W'.cell? ⟨w.heap.size, 1, none⟩ = some (.int .i64 ty) ∧ W'.cell? ⟨w.heap.size, 2, none⟩ = some (.string rb)) := fun W' b => by
    have hx := (b.block w.heap.size (by omega)).trans (heap_alloc_last w _)
    exact ⟨cell_of_row _ _ 0 _ _ _ hx, cell_of_row _ _ 1 _ _ _ hx, cell_of_row _ _ 2 _ _ _ hx⟩
  have hW1 : IntKind.i64.wrap (32 * ref) = 32 * ref := IntWalk.i64_in _ (by omega)
  have hW2 : IntKind.i64.wrap (32 * ref + ty) = 32 * ref + ty := IntWalk.i64_in _ (by omega)
  have hW3 : IntKind.u8.wrap (32 * ref + ty) = 32 * ref + ty := by rw [IntKind.wrap_u8']; omega
  have hrow : ((w.alloc (.cells #[.int .i64 ref, .int .i64 ty, .string rb] 32)).alloc (.cells #[.int .u8 (32 * ref + ty)] 5)).drew.heap[w.heap.size + 1]? = some (.cells #[.int .u8 (32 * ref + ty)] 5 (0, 0)) := by
    have := heap_alloc_last (w.alloc (.cells #[.int .i64 ref, .int .i64 ty, .string rb] 32)) (.cells #[.int .u8 (32 * ref + ty)] 5)
    rw [show (w.alloc (.cells #[.int .i64 ref, .int .i64 ty, .string rb] 32)).heap.size = w.heap.size + 1 from by simp] at this
    exact this
  have hcvA := conv_at c _ hz _ _ hrow
  have HROW := Lib.hid hrow
  clear hrow
  have HZ := Lib.hid hz
  clear hz0 hc heb ht hz
  go_enter Try.func18, Try.ntmps18
  go_wp2_with fail
  obtain ⟨c0, c1, c2⟩ := HX.out _ (Below.refl _ _)
  go_region_with (go_at_call 14; refine (escRef_str rb _ hs1 HE.out).mono ?_; rintro e w7 ⟨rfl, b7⟩; have bk7 : Below (w.heap.size + 1) (w.alloc (.cells #[.int .i64 ref, .int .i64 ty, .string rb] 32)) w7 := (by first | exact ((Below.refl _ _).drew).trans (b7.mono (by simp)) | exact (((Below.refl _ _).alloc (by simp) _).drew).trans (b7.mono (by simp))); obtain ⟨k0, k1, k2⟩ := HX.out w7 bk7; try (have hcv7 := conv_at c (32 * ref + ty) HZ.out w7 (w.heap.size + 1) ((b7.block _ (by simp)).trans HROW.out)))
  all_goals
    go_wp2_with fail
    go_ret2
    have b0 : Below w.heap.size w w7 := ((Below.refl _ _).alloc (Nat.le_refl _) _).trans (bk7.mono (by omega))
    refine ⟨rfl, ?_⟩
    first
      | exact b0
      | exact b0.alloc b0.size _

end Go.Proofs.Ytdlklcdafembhaa
