/- What every program answers (the law's own awake). -/
import Derived.Test.YtdlklcdafembhaaNI
import Derived.Test.YtdlklcdafembhaaNJ
namespace Go.Proofs.Ytdlklcdafembhaa
open Go.RowKit Zn Zo

theorem num_any (x : Int) (w : World) : Calls Try.prog 15 #[.int .i64 x] w fun e w' => e = .returned (.int .i64 x) ∧ w' = w := by
  go_enter Try.func15, Try.ntmps15
  go_wp2_with fail
  go_ret
  exact ⟨rfl, rfl⟩

def awakeL : List UU := [⟨3, 7, [0, 0, 1]⟩, ⟨0, 1, []⟩]

theorem awake_jn : jnAns awakeL = ([0, 0, 1, 103, 0, 0, 3, 1, 0, 0, 1, 1], 0) := by
  rw [jnAns, if_pos (by decide)]
  decide

theorem awake_up : upAns [103, 0, 0, 3, 1] = (⟨3, 7, [0, 0, 1]⟩, 0) := by rfl

theorem awake_un : unAns [0, 0, 1] = ([], 200) := by rfl

theorem awake_spl : splAns [0, 0, 1, 103, 0, 0, 3, 1, 0, 0, 1, 1] = ([[103, 0, 0, 3, 1], [1]], 0) := by
  rw [splAns, if_pos (by decide)]
  have h1 := sp_more [1] [103, 0, 0, 3, 1] 0 (by simp [chk, nb])
  have h2 := sp_one [1] 0 (by simp [chk])
  rw [h2] at h1
  rw [show List.drop 2 [0, 1, 103, 0, 0, 3, 1, 0, 0, 1, 1] = ([103, 0, 0, 3, 1] ++ 0 :: 0 :: 1 :: [1] : List UInt8) from rfl, h1]

set_option maxRecDepth 100000 in
set_option maxHeartbeats 3200000 in
theorem awake_any (w : World) (hm : ML w) : Calls Try.prog 16 #[] w fun e w' => e = .returned (.bool true) ∧ Below w.heap.size w w' := by
  have hb1 : Below w.heap.size w (w.alloc (.cells #[.int .i64 3, .int .i64 7, .string ⟨#[0, 0, 1]⟩, .int .i64 0, .int .i64 1, .string ⟨#[]⟩] 32)) := (Below.refl _ _).alloc (Nat.le_refl _) _
  have hml1 := Lib.hid (hm.below hb1)
  have HB1 := Lib.hid hb1
  have HJ : Hid (Calls Try.prog 21 #[.slice (some ⟨w.heap.size, 0, none⟩) 2 2] (w.alloc (.cells #[.int .i64 3, .int .i64 7, .string ⟨#[0, 0, 1]⟩, .int .i64 0, .int .i64 1, .string ⟨#[]⟩] 32)) fun e w' => e = .returned (.tuple #[.string ⟨#[0, 0, 1, 103, 0, 0, 3, 1, 0, 0, 1, 1]⟩, .int .i64 0]) ∧ Below (w.heap.size + 1) (w.alloc (.cells #[.int .i64 3, .int .i64 7, .string ⟨#[0, 0, 1]⟩, .int .i64 0, .int .i64 1, .string ⟨#[]⟩] 32)) w') := by
    have hx := heap_alloc_last w (.cells #[.int .i64 3, .int .i64 7, .string ⟨#[0, 0, 1]⟩, .int .i64 0, .int .i64 1, .string ⟨#[]⟩] 32)
    refine (join_any (some ⟨w.heap.size, 0, none⟩) 2 awakeL _ (.inr ⟨_, _, rfl, row_lt hx, ?_⟩) (by decide) (by decide)).mono ?_
    · intro i hi
      rw [cell_of_row _ _ _ _ _ _ hx, cell_of_row _ _ _ _ _ _ hx, cell_of_row _ _ _ _ _ _ hx]
      match i, hi with
      | 0, _ => exact ⟨rfl, rfl, rfl⟩
      | 1, _ => exact ⟨rfl, rfl, rfl⟩
    · rintro e w' ⟨rfl, b⟩
      rw [awake_jn]
      exact ⟨rfl, by simpa using b⟩
  clear hm hb1
  go_enter Try.func16, Try.ntmps16
  go_wp2_with fail
  refine HJ.out.mono ?_
  rintro e w2 ⟨rfl, b2⟩
  have hb2 := HB1.out.trans (b2.mono (by omega))
  have hml2 := hml1.out.at b2 (by simp)
  have HB2 := Lib.hid hb2
  have HML2 := Lib.hid hml2
  clear hb2 hml2 b2
  go_wp2_with fail
  refine (split_any ⟨#[0, 0, 1, 103, 0, 0, 3, 1, 0, 0, 1, 1]⟩ w2 HML2.out (by decide)).mono ?_
  rw [show (⟨#[0, 0, 1, 103, 0, 0, 3, 1, 0, 0, 1, 1]⟩ : ByteArray).data.toList = [0, 0, 1, 103, 0, 0, 3, 1, 0, 0, 1, 1] from rfl, awake_spl]
  rintro e w3 ⟨v, rfl, hown, b3⟩
  obtain ⟨av, cv, rfl⟩ : ∃ a c, v = .slice a 2 c := by
    rcases hown.2 with ⟨_, h⟩ | ⟨g, cap, cur, rfl, _⟩
    · cases h
    · exact ⟨_, _, rfl⟩
  have HB3 := Lib.hid (HB2.out.trans (b3.mono HB2.out.size))
  clear hown b3
  go_wp2_with fail
  refine (unpack_any ⟨#[103, 0, 0, 3, 1]⟩ w3 (by decide)).mono ?_
  rw [show (⟨#[103, 0, 0, 3, 1]⟩ : ByteArray).data.toList = [103, 0, 0, 3, 1] from rfl, awake_up]
  rintro e w4 ⟨rfl, b4⟩
  have HB4 := Lib.hid (HB3.out.trans (b4.mono HB3.out.size))
  clear b4
  unfold UU.v
  go_wp2_with fail
  refine (unescape_any ⟨#[0, 0, 1]⟩ _ (by decide)).mono ?_
  rw [show (⟨#[0, 0, 1]⟩ : ByteArray).data.toList = [0, 0, 1] from rfl]
  unfold UnPost
  rw [awake_un]
  rintro e w5 ⟨rfl, b5⟩
  have hx := (b5.block w4.heap.size (by simp)).trans (heap_alloc_last w4 _)
  have c0 := cell_of_row _ _ 0 _ _ _ hx
  have c1 := cell_of_row _ _ 1 _ _ _ hx
  have c2 := cell_of_row _ _ 2 _ _ _ hx
  simp at c0 c1 c2
  have HB5 := Lib.hid (((HB4.out.alloc HB4.out.size _).trans (b5.mono (by have := HB4.out.size; simp; omega))))
  clear hx b5
  go_wp2_with (go_at_call 15; refine (num_any _ _).mono ?_; rintro e w' ⟨rfl, rfl⟩)
  go_ret
  exact ⟨rfl, HB5.out⟩

end Go.Proofs.Ytdlklcdafembhaa
