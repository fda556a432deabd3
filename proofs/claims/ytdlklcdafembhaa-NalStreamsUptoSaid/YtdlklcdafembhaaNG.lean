/- nal's Pack and Unpack. -/
import Derived.Test.YtdlklcdafembhaaNE
namespace Go.Proofs.Ytdlklcdafembhaa
open Go.RowKit Zn Zo

def okU (ref ty : Int) : Prop := 0 ≤ ref ∧ ref ≤ 3 ∧ 1 ≤ ty ∧ ty ≤ 31

instance (ref ty : Int) : Decidable (okU ref ty) := by unfold okU; infer_instance

/-- A unit's bytes. -/
def pk (ref ty : Int) (rb : List UInt8) : List UInt8 := (32 * ref + ty).toNat.toUInt8 :: esc 0 rb

theorem pk_byte (ref ty : Int) (h : okU ref ty) : ref * 32 + ty = (((32 * ref + ty).toNat.toUInt8).toNat : Int) := by
  obtain ⟨h1, h2, h3, h4⟩ := h
  simp
  omega

theorem bd_at (w : World) (B b : Nat) (hB : B ≤ w.heap.size) (hb : b = w.heap.size) : Bd (w.alloc (.cells #[.pointer none, .slice none 0 0] 56)) B b [] := by
  rw [hb]; exact bd_new w B hB

theorem pk_length (ref ty : Int) (rb : List UInt8) : 2 * (pk ref ty rb).length ≤ 3 * rb.length + 2 := by
  have := esc_length_le rb 0 (by omega)
  simp only [pk, List.length_cons]
  omega

theorem putPacked_yes (w : World) (B b : Nat) (l : List UInt8) (ref ty : Int) (rb : ByteArray) (h : Bd w B b l) (hBw : B ≤ w.heap.size) (hl : l.length ≤ 90000000) (hs : rb.size ≤ 90000000) (hu : okU ref ty) :
    Calls Try.prog 30 #[.pointer (some ⟨b, 0, none⟩), .agg #[.int .i64 ref, .int .i64 ty, .string rb]] w fun e w' => e = .returned (.int .i64 0) ∧ Bd w' B b (l ++ pk ref ty rb.data.toList) ∧ Kept B b w w' := by
  have hpk := Lib.hid (pk_byte ref ty hu)
  obtain ⟨h1, h2, h3, h4⟩ := hu
  have h0 := h.alloc (.cells #[.int .i64 ref, .int .i64 ty, .string rb] 32)
  have hlt := h.lt
  have b0 : Hid (Kept B b w (w.alloc (.cells #[.int .i64 ref, .int .i64 ty, .string rb] 32))) := Kept.of_below ((Below.refl _ _).alloc (Nat.le_refl _) _) hBw
  have z0 : B ≤ (w.alloc (.cells #[.int .i64 ref, .int .i64 ty, .string rb] 32)).heap.size := by have := b0.out.size; omega
  have x0 := Lib.hid (heap_alloc_last w (.cells #[.int .i64 ref, .int .i64 ty, .string rb] 32))
  have hne : w.heap.size ≠ b := by omega
  go_enter Try.func30, Try.ntmps30
  go_wp2_with fail
  refine (grow_any _ B b l _ h0 z0 (by omega) (by omega) (by omega)).mono ?_
  rintro e w1 ⟨rfl, g1, b1⟩
  have x1 := b1.row x0.out hne (by decide)
  have c0 := cell_of_row w1 w.heap.size 0 _ _ _ x1
  have c1 := cell_of_row w1 w.heap.size 1 _ _ _ x1
  have c2 := cell_of_row w1 w.heap.size 2 _ _ _ x1
  simp at c0 c1 c2
  have X1 := Lib.hid x1
  have B1 := Lib.hid b1
  have z1 := b1.size
  clear x1 b1
  go_wp2_with fail
  refine (byte_any w1 B b l (32 * ref + ty).toNat.toUInt8 _ hpk.out g1 (by omega) (by omega)).mono ?_
  rintro e w2 ⟨rfl, g2, b2⟩
  have x2 := b2.row X1.out hne (by decide)
  have c2' := cell_of_row w2 w.heap.size 2 _ _ _ x2
  simp at c2'
  have z2 := b2.size
  have B2 := Lib.hid b2
  clear c0 c1 c2 b2 x2
  go_wp2_with fail
  refine (putEsc_any w2 B b _ rb g2 (by omega) (by simp; omega) (by omega)).mono ?_
  rintro e w3 ⟨rfl, g3, b3⟩
  go_wp2_with fail
  go_ret
  refine ⟨rfl, ?_, ((b0.out.trans B1.out).trans B2.out).trans b3⟩
  simpa [pk] using g3

theorem putPacked_no (w : World) (B b : Nat) (l : List UInt8) (ref ty : Int) (rb : ByteArray) (h : Bd w B b l) (hBw : B ≤ w.heap.size) (hu : ¬ okU ref ty) :
    Calls Try.prog 30 #[.pointer (some ⟨b, 0, none⟩), .agg #[.int .i64 ref, .int .i64 ty, .string rb]] w fun e w' => e = .returned (.int .i64 200) ∧ Bd w' B b l ∧ Kept B b w w' := by
  have h0 := Lib.hid (h.alloc (.cells #[.int .i64 ref, .int .i64 ty, .string rb] 32))
  have b0 : Hid (Kept B b w (w.alloc (.cells #[.int .i64 ref, .int .i64 ty, .string rb] 32))) := Kept.of_below ((Below.refl _ _).alloc (Nat.le_refl _) _) hBw
  have hc : ref < 0 ∨ (0 ≤ ref ∧ 3 < ref) ∨ (0 ≤ ref ∧ ref ≤ 3 ∧ ty < 1) ∨ (0 ≤ ref ∧ ref ≤ 3 ∧ 1 ≤ ty ∧ 31 < ty) := by unfold okU at hu; omega
  clear hu
  rcases hc with h1 | ⟨h1, h2⟩ | ⟨h1, h2, h3⟩ | ⟨h1, h2, h3, h4⟩
  all_goals
    go_enter Try.func30, Try.ntmps30
    go_wp2_with fail
    go_ret
    exact ⟨rfl, h0.out, b0.out⟩

/-- What Pack answers. -/
def pkAns (ref ty : Int) (rb : List UInt8) : List UInt8 × Int := if okU ref ty then (pk ref ty rb, 0) else ([], 200)

theorem pkAns_yes {ref ty : Int} {rb : List UInt8} (h : okU ref ty) : pkAns ref ty rb = (pk ref ty rb, 0) := if_pos h
theorem pkAns_no {ref ty : Int} {rb : List UInt8} (h : ¬ okU ref ty) : pkAns ref ty rb = ([], 200) := if_neg h

def StrPost (t : List UInt8 × Int) (B : Nat) (w : World) (e : Ending) (w' : World) : Prop :=
  e = .returned (.tuple #[.string ⟨t.1.toArray⟩, .int .i64 t.2]) ∧ Below B w w'

theorem pack_any (ref ty : Int) (rb : ByteArray) (w : World) (hs : rb.size ≤ 90000000) :
    Calls Try.prog 17 #[.agg #[.int .i64 ref, .int .i64 ty, .string rb]] w (StrPost (pkAns ref ty rb.data.toList) w.heap.size w) := by
  have hb0 := Lib.hid (bd_at (w.alloc (.cells #[.int .i64 ref, .int .i64 ty, .string rb] 32)) w.heap.size (w.heap.size + 1) (by simp) (by simp))
  by_cases hu : okU ref ty
  · rw [pkAns_yes hu]
    go_enter Try.func17, Try.ntmps17
    go_wp2_with fail
    refine (putPacked_yes _ w.heap.size _ [] ref ty rb hb0.out (by simp; omega) (by simp) hs hu).mono ?_
    rintro e w1 ⟨rfl, h1, b1⟩
    have z1 := b1.size
    go_wp2_with fail
    refine (string_any w1 w.heap.size _ _ h1 (by simp at z1; omega)).mono ?_
    rintro e w2 ⟨rfl, b2⟩
    go_wp2_with fail
    go_ret2
    exact ⟨by simp, ((((Below.refl _ _).alloc (Nat.le_refl _) _).alloc (by simp) _).trans b1.1).trans b2.1⟩
  · rw [pkAns_no hu]
    go_enter Try.func17, Try.ntmps17
    go_wp2_with fail
    refine (putPacked_no _ w.heap.size _ [] ref ty rb hb0.out (by simp; omega) hu).mono ?_
    rintro e w1 ⟨rfl, h1, b1⟩
    go_wp2_with fail
    go_ret2
    exact ⟨rfl, (((Below.refl _ _).alloc (Nat.le_refl _) _).alloc (by simp) _).trans b1.1⟩

end Go.Proofs.Ytdlklcdafembhaa
