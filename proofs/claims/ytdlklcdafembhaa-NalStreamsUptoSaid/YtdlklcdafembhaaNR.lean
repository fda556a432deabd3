/- The walk of the law NalZeros. -/
import Derived.Test.YtdlklcdafembhaaNF
import Derived.Test.YtdlklcdafembhaaNQ
import Derived.Deep.OwnRows
namespace Go.Proofs.Ytdlklcdafembhaa
open Go.RowKit Zn Zo

theorem made_rep (z : Value) (n : Nat) : madeCells #[z] n = (List.replicate n z).toArray := by
  apply Array.ext
  · simp [madeCells]
  · intro i h1 h2
    simp [madeCells, Nat.mod_one]

theorem make_bytes (n : Nat) (hn : n ≤ 281474976710656) (w : World) :
    (Instr.makeSlice 51 (.int .i64 (n : Int)) (.int .i64 (n : Int))).run Try.prog w = .ok (.slice (some ⟨w.heap.size, 0, none⟩) n n) (w.alloc (.cells (List.replicate n (.int .u8 0)).toArray 5)) := by
  rw [Go.run_make_row' (P := Try.prog) 51 5 (.int .u8 0) 1 Try.underlying51 info_u8 rfl .i64 .i64 n (by omega) (by omega) w, made_rep]

theorem conv_made (n : Nat) (hn : n ≤ 1000000) (zb : ByteArray) (hz : zb = ⟨(List.replicate n 0).toArray⟩) (w : World) :
    (convert 51 9 (.slice (some ⟨w.heap.size, 0, none⟩) n n)).run Try.prog (w.alloc (.cells (Array.replicate n (.int .u8 0)) 5)) = .ok (.string zb) (w.alloc (.cells (Array.replicate n (.int .u8 0)) 5)) := by
  have h : OwnB (w.alloc (.cells (Array.replicate n (.int .u8 0)) 5)) 0 (.slice (some ⟨w.heap.size, 0, none⟩) n n) (List.replicate n 0) := by
    have hc : Lib.byteCells (List.replicate n 0) = List.replicate n (.int .u8 0) := by simp [Lib.byteCells]
    have hl : (List.replicate n (0 : UInt8)).length = n := by simp
    unfold OwnB
    rw [hl, hc]
    exact ⟨by simp, .inr ⟨w.heap.size, n, _, rfl, by omega, heap_alloc_last w _, by omega, by unfold maxLen; omega, by simp, by simp⟩⟩
  rw [hz]
  exact conv_own _ 0 _ _ h

theorem str_eta (t : ByteArray) : (⟨t.data.toList.toArray⟩ : ByteArray) = t := by
  apply ByteArray.ext; simp

theorem unescape_str (s : ByteArray) (w : World) (hs : s.size ≤ 100000000) {t : ByteArray} {code : Int} (h : unAns s.data.toList = (t.data.toList, code)) :
    Calls Try.prog 11 #[.string s] w fun e w' => e = .returned (.tuple #[.string t, .int .i64 code]) ∧ Below w.heap.size w w' := by
  refine (unescape_at s w hs h).mono ?_
  rintro e w' ⟨rfl, b⟩
  exact ⟨by rw [str_eta], b⟩

theorem escape_str (s : ByteArray) (w : World) (hs : s.size ≤ 100000000) {t : ByteArray} (h : esc 0 s.data.toList = t.data.toList) :
    Calls Try.prog 13 #[.string s] w fun e w' => e = .returned (.string t) ∧ Below w.heap.size w w' := by
  refine (escape_at s w hs h).mono ?_
  rintro e w' ⟨rfl, b⟩
  exact ⟨by rw [str_eta], b⟩

theorem nalZeros_walk (many : Int) (w : World) (hm : ML w) (_ : (Lit.int .i64 many).wf = true) :
    Calls Try.prog 8 #[.int .i64 many] w fun e w' => e = .returned (.bool true) ∧ Below w.heap.size w w' := by
  have hmask := and_mask_i64 many 6 (by omega)
  have h0 := Int.emod_nonneg many (show ((2 ^ 6 : Nat) : Int) ≠ 0 by decide)
  have h1 := Int.emod_lt_of_pos many (show (0 : Int) < ((2 ^ 6 : Nat) : Int) by decide)
  obtain ⟨k, hk⟩ := Int.eq_ofNat_of_zero_le h0
  rw [hk] at hmask h1
  have hk64 : k < 64 := by simp at h1; omega
  have hand : bits .and .i64 many 63 = (k : Int) := hmask
  clear hmask h0 h1 hk
  obtain ⟨z1, z2, z3⟩ := zeros_all k hk64
  have hmk := make_bytes k (by omega)
  obtain ⟨zb, hzb⟩ : ∃ zb : ByteArray, zb = ⟨(List.replicate k 0).toArray⟩ := ⟨_, rfl⟩
  have hzl : zb.data.toList = List.replicate k 0 := by rw [hzb]
  have hzs : zb.size = k := by rw [hzb, bsize]; simp
  have hcv := conv_made k (by omega) zb hzb
  obtain ⟨tb, htb⟩ : ∃ tb : ByteArray, esc 0 (List.replicate k 0) = tb.data.toList := ⟨⟨(esc 0 (List.replicate k 0)).toArray⟩, rfl⟩
  have hts : tb.size = tb.data.toList.length := by simp
  rw [htb, ← hts] at z1
  rw [htb] at z2 z3
  have HUN := Lib.hid (show unAns tb.data.toList = (zb.data.toList, 0) by rw [← htb, hzl]; exact unAns_esc _)
  have HX := Lib.hid (show esc 0 zb.data.toList = tb.data.toList by rw [hzl, htb])
  have HM := Lib.hid hm
  have HT := Lib.hid hts
  have Z1 := Lib.hid z1
  have Z2 := Lib.hid z2
  have Z3 := Lib.hid z3
  have htl : tb.size ≤ 100 := by omega
  have hzl2 : zb.size ≤ 100 := by omega
  clear htb hm hts z1 z2 z3 hzs hzl hzb
  go_enter Try.func8, Try.ntmps8
  go_wp2_with fail
  refine (awake_any _ HM.out).mono ?_
  rintro e w1 ⟨rfl, b1⟩
  have B1 := Lib.hid b1
  clear b1
  go_wp2_with fail
  refine (escape_str zb _ (by omega) HX.out).mono ?_
  rintro e w2 ⟨rfl, b2⟩
  have B2 := Lib.hid ((B1.out.alloc B1.out.size _).trans (b2.mono (by have := B1.out.size; simp; omega)))
  clear b2
  go_wp2_with fail
  go_loopg [6, 7] tb.size (fun q cv iv wr => ∃ j : Nat, j + q = tb.size ∧ iv = .int .i64 ((j : Nat) : Int) ∧ cv = .int .i64 (((tb.data.toList.take j).countP (· == 3) : Nat) : Int) ∧ w2 = wr)
  case atStart => exact ⟨0, by omega, rfl, rfl, rfl⟩
  case round =>
    obtain ⟨j, hq, rfl, rfl, rfl⟩ := hrel
    obtain ⟨c, hc⟩ : ∃ c, (tb.data.toList.take j).countP (· == 3) = c := ⟨_, rfl⟩
    rw [hc]
    have hcj : c ≤ j := by rw [← hc]; exact Nat.le_trans List.countP_le_length (List.length_take_le _ _)
    have HC := Lib.hid hc
    clear hc
    by_cases hlt : j < tb.size
    · have hj1 : (j + 1) + (gk - 1) = tb.size := by omega
      have hm : tb[j] ∈ tb.data.toList := by
        have hl : j < tb.data.toList.length := by simpa using hlt
        exact List.getElem_mem hl
      have hb := List.all_eq_true.1 Z3.out _ hm
      have htk : tb.data.toList.take (j + 1) = tb.data.toList.take j ++ [tb[j]] := by
        have hl : j < tb.data.toList.length := by simpa using hlt
        rw [List.take_succ_eq_append_getElem hl]; rfl
      have HTK := Lib.hid htk
      clear htk hm
      rcases (show tb[j] = 0 ∨ tb[j] = 3 by simpa using hb) with h | h
      · have t1 : ((tb[j].toNat : Int) == 3) = false := by rw [h]; rfl
        have t2 : ((tb[j].toNat : Int) != 0) = false := by rw [h]; rfl
        have H := Lib.hid h
        clear h hb
        go_wp2_with fail
        go_roundg (gk - 1)
        case measure => omega
        case rel =>
          refine ⟨j + 1, hj1, by go_num, ?_, rfl⟩
          rw [HTK.out, List.countP_append, HC.out, H.out]; rfl
      · have t1 : ((tb[j].toNat : Int) == 3) = true := by rw [h]; rfl
        have H := Lib.hid h
        clear h hb
        go_wp2_with fail
        go_roundg (gk - 1)
        case measure => omega
        case rel =>
          refine ⟨j + 1, hj1, by go_num, ?_, rfl⟩
          rw [HTK.out, List.countP_append, HC.out, H.out]; rfl
    · obtain rfl : j = tb.size := by omega
      have hcc : c = (k - 1) / 2 := by
        rw [← HC.out, List.take_of_length_le (by rw [← HT.out]; exact Nat.le_refl _)]; exact Z2.out
      have e1 : (tb.size : Int) = (k : Int) + (c : Int) := by have := Z1.out; omega
      have e2 : (c : Int) = max ((k : Int) - 1) 0 / 2 := by
        rw [hcc, Int.max_def]; split <;> omega
      have HCC := Lib.hid hcc
      clear hcc
      go_wp2_with fail
      refine (unescape_str tb _ (by omega) HUN.out).mono ?_
      rintro e w3 ⟨rfl, b3⟩
      have B3 := Lib.hid (B2.out.trans (b3.mono B2.out.size))
      clear b3
      go_wp2_with (go_at_call 15; refine (num_any _ _).mono ?_; rintro e w' ⟨rfl, rfl⟩)
      go_ret
      exact ⟨rfl, B3.out⟩

end Go.Proofs.Ytdlklcdafembhaa
