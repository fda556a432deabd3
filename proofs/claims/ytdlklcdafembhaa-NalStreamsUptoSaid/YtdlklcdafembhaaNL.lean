/- The walk of the law NalEscapes. -/
import Derived.Test.YtdlklcdafembhaaNF
import Derived.Test.YtdlklcdafembhaaNK
namespace Go.Proofs.Ytdlklcdafembhaa
open Go.RowKit Zn Zo

theorem unRef_at (s : ByteArray) (w : World) (hs : s.size ≤ 100000000) {t : List UInt8} {code : Int} (h : unAns s.data.toList = (t, code)) :
    Calls Try.prog 12 #[.string s] w fun e w' => e = .returned (.tuple #[.string ⟨t.toArray⟩, .int .i64 code]) ∧ Below w.heap.size w w' := by
  refine (unRef_any s w hs).mono ?_
  rintro e w' ⟨rfl, b⟩
  exact ⟨by rw [h], b⟩

theorem nalEscapes_walk (s : ByteArray) (w : World) (hm : ML w) (hs : s.size ≤ 1048576) :
    Calls Try.prog 3 #[.string s] w fun e w' => e = .returned (.bool true) ∧ Below w.heap.size w w' := by
  obtain ⟨t, code, h⟩ : ∃ t code, unAns s.data.toList = (t, code) := ⟨_, _, rfl⟩
  have H := Lib.hid h
  have HM := Lib.hid hm
  obtain ⟨x, hx⟩ : ∃ x, esc 0 s.data.toList = x := ⟨_, rfl⟩
  have HX := Lib.hid hx
  clear h hm hx
  go_enter Try.func3, Try.ntmps3
  go_wp2_with fail
  refine (unescape_at s _ (by omega) H.out).mono ?_
  rintro e w1 ⟨rfl, b1⟩
  have B1 := Lib.hid b1
  clear b1
  go_wp2_with fail
  refine (unRef_at s w1 (by omega) H.out).mono ?_
  rintro e w2 ⟨rfl, b2⟩
  have B2 := Lib.hid (B1.out.trans (b2.mono B1.out.size))
  clear b2 B1
  go_wp2_with fail
  refine (escape_any s w2 (by omega)).mono ?_
  rw [HX.out]
  rintro e w3 ⟨rfl, b3⟩
  have B3 := Lib.hid (B2.out.trans (b3.mono B2.out.size))
  clear b3 B2
  go_wp2_with fail
  refine (escRef_any s w3 (by omega)).mono ?_
  rw [HX.out]
  rintro e w4 ⟨rfl, b4⟩
  have B4 := Lib.hid (B3.out.trans (b4.mono B3.out.size))
  clear b4 B3
  have HM4 := Lib.hid (HM.out.below B4.out)
  go_wp2_with (go_at_call 15; refine (num_any _ _).mono ?_; rintro e w' ⟨rfl, rfl⟩)
  refine (awake_any _ HM4.out).mono ?_
  rintro e w5 ⟨rfl, b5⟩
  have B5 := Lib.hid (B4.out.trans (b5.mono B4.out.size))
  clear b5
  go_wp2_with fail
  go_ret
  exact ⟨rfl, B5.out⟩

end Go.Proofs.Ytdlklcdafembhaa
