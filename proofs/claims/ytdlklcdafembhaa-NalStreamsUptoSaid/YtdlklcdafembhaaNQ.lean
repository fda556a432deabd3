/- The walk of the law NalNests. -/
import Derived.Test.YtdlklcdafembhaaNK
namespace Go.Proofs.Ytdlklcdafembhaa
open Go.RowKit Zn Zo

theorem escape_at (s : ByteArray) (w : World) (hs : s.size ≤ 100000000) {t : List UInt8} (h : esc 0 s.data.toList = t) :
    Calls Try.prog 13 #[.string s] w fun e w' => e = .returned (.string ⟨t.toArray⟩) ∧ Below w.heap.size w w' := by
  refine (escape_any s w hs).mono ?_
  rintro e w' ⟨rfl, b⟩
  exact ⟨by rw [h], b⟩

theorem nalNests_walk (s : ByteArray) (w : World) (hm : ML w) (hs : s.size ≤ 1048576) :
    Calls Try.prog 9 #[.string s] w fun e w' => e = .returned (.bool true) ∧ Below w.heap.size w w' := by
  obtain ⟨x, hx⟩ : ∃ x, esc 0 s.data.toList = x := ⟨_, rfl⟩
  obtain ⟨y, hy⟩ : ∃ y, esc 0 x = y := ⟨_, rfl⟩
  have hl : s.data.toList.length = s.size := by simp
  have h1 := esc_length_le s.data.toList 0 (by omega)
  have h2 := esc_length_le x 0 (by omega)
  have h3 := esc_length_ge s.data.toList 0
  have hy1 : unAns y = (x, 0) := by rw [← hy]; exact unAns_esc x
  have hx1 : unAns x = (s.data.toList, 0) := by rw [← hx]; exact unAns_esc _
  rw [hx, hl] at h1 h3
  rw [hy] at h2
  have HX := Lib.hid hx
  have HY := Lib.hid hy
  have HX1 := Lib.hid hx1
  have HY1 := Lib.hid hy1
  have HM := Lib.hid hm
  have hi1 : 2 * (x.length : Int) ≤ 3 * (s.size : Int) := by omega
  have hi3 : (s.size : Int) ≤ (x.length : Int) := by omega
  have sx : (⟨x.toArray⟩ : ByteArray).size ≤ 100000000 := by rw [bsize]; omega
  have sy : (⟨y.toArray⟩ : ByteArray).size ≤ 100000000 := by rw [bsize]; omega
  clear hx hy hl hx1 hy1 hm
  go_enter Try.func9, Try.ntmps9
  go_wp2_with fail
  refine (awake_any _ HM.out).mono ?_
  rintro e w1 ⟨rfl, b1⟩
  have B1 := Lib.hid b1
  clear b1
  go_wp2_with fail
  refine (escape_at s w1 (by omega) HX.out).mono ?_
  rintro e w2 ⟨rfl, b2⟩
  have B2 := Lib.hid (B1.out.trans (b2.mono B1.out.size))
  clear b2
  go_wp2_with fail
  refine (escape_at ⟨x.toArray⟩ w2 sx HY.out).mono ?_
  rintro e w3 ⟨rfl, b3⟩
  have B3 := Lib.hid (B2.out.trans (b3.mono B2.out.size))
  clear b3
  go_wp2_with fail
  refine (unescape_at ⟨y.toArray⟩ w3 sy HY1.out).mono ?_
  rintro e w4 ⟨rfl, b4⟩
  have B4 := Lib.hid (B3.out.trans (b4.mono B3.out.size))
  clear b4
  go_wp2_with (go_at_call 15; refine (num_any _ _).mono ?_; rintro e w' ⟨rfl, rfl⟩)
  refine (unescape_at ⟨x.toArray⟩ _ sx HX1.out).mono ?_
  rintro e w5 ⟨rfl, b5⟩
  have B5 := Lib.hid (B4.out.trans (b5.mono B4.out.size))
  clear b5
  go_wp2_with (go_at_call 15; refine (num_any _ _).mono ?_; rintro e w' ⟨rfl, rfl⟩)
  go_ret
  exact ⟨rfl, B5.out⟩

end Go.Proofs.Ytdlklcdafembhaa
