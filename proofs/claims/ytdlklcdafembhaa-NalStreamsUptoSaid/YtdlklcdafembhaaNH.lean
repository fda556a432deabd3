/- nal's Unpack. -/
import Derived.Test.YtdlklcdafembhaaNG
namespace Go.Proofs.Ytdlklcdafembhaa
open Go.RowKit Zn Zo

/-- A unit as numbers and bytes. -/
structure UU where
  ref : Int
  ty : Int
  rb : List UInt8

def UU.v (u : UU) : Value := .agg #[.int .i64 u.ref, .int .i64 u.ty, .string ⟨u.rb.toArray⟩]
def UU.zero : UU := ⟨0, 0, []⟩

/-- What Unpack answers. -/
def upAns : List UInt8 → UU × Int
  | [] => (.zero, 202)
  | c :: r => if 128 ≤ c.toNat ∨ c.toNat % 32 = 0 then (.zero, 200) else if (unAns r).2 = 0 then (⟨(c.toNat / 32 : Nat), (c.toNat % 32 : Nat), (unAns r).1⟩, 0) else (.zero, 200)

theorem unAns_code (s : List UInt8) : (unAns s).2 = 0 ∨ (unAns s).2 = 200 := by
  unfold unAns; split
  · exact .inl rfl
  · exact .inr rfl

theorem unAns_bad (s : List UInt8) (h : (unAns s).2 ≠ 0) : (unAns s) = ([], 200) := by
  unfold unAns at h ⊢; split at h
  · exact absurd rfl h
  · rfl

def UPost (t : UU × Int) (B : Nat) (w : World) (e : Ending) (w' : World) : Prop :=
  e = .returned (.tuple #[t.1.v, .int .i64 t.2]) ∧ Below B w w'

theorem str_cons (s : ByteArray) (h : 0 < s.size) : s.data.toList = s[0] :: s.data.toList.drop 1 := by
  have := drop_cons s 0 h
  simpa using this

theorem extract_tail (s : ByteArray) : (s.extract 1 s.size).data.toList = s.data.toList.drop 1 := by
  rw [extract_seg, seg_all]

theorem below_drewN {B : Nat} {a w : World} (h : Below B a w) (n : Nat) : Below B a (w.drewN n) := ⟨h.os, h.tape, h.output, h.size, h.block⟩

theorem unescape_at (s : ByteArray) (w : World) (hs : s.size ≤ 100000000) {t : List UInt8} {code : Int} (h : unAns s.data.toList = (t, code)) :
    Calls Try.prog 11 #[.string s] w fun e w' => e = .returned (.tuple #[.string ⟨t.toArray⟩, .int .i64 code]) ∧ Below w.heap.size w w' := by
  refine (unescape_any s w hs).mono ?_
  rintro e w' ⟨rfl, b⟩
  exact ⟨by rw [h], b⟩

set_option maxHeartbeats 2000000 in
theorem unpack_any (s : ByteArray) (w : World) (hs : s.size ≤ 90000000) :
    Calls Try.prog 19 #[.string s] w (UPost (upAns s.data.toList) w.heap.size w) := by
  by_cases h0 : s.size = 0
  · obtain rfl : s = ⟨#[]⟩ := by
      apply ByteArray.ext
      exact Array.eq_empty_of_size_eq_zero h0
    go_enter Try.func19, Try.ntmps19
    go_wp2_with fail
    refine bodyPost_ret (v := .tuple #[.agg #[.int .i64 0, .int .i64 0, .string ⟨#[]⟩], .int .i64 202]) (by simp [results, Try.results19, go_sem]) rfl ⟨rfl, ?_⟩
    exact (Below.refl _ _).alloc (Nat.le_refl _) _
  · have hp : 0 < s.size := by omega
    have hcons := Lib.hid (str_cons s hp)
    have hc := UInt8.toNat_lt s[0]
    have hne : s.toList.isEmpty = false := by
      rw [Lib.toList_data, hcons.out]; rfl
    by_cases hbad : 128 ≤ s[0].toNat ∨ s[0].toNat % 32 = 0
    · have HA := Lib.hid (show upAns s.data.toList = (.zero, 200) by rw [hcons.out, upAns, if_pos hbad])
      have hc2 : (3 < (s[0].toNat : Int) / 32) ∨ ((s[0].toNat : Int) / 32 ≤ 3 ∧ ((s[0].toNat : Int) % 32 == 0) = true) := by
        by_cases h : 3 < (s[0].toNat : Int) / 32
        · exact .inl h
        · exact .inr ⟨by omega, by simp; omega⟩
      clear hbad h0
      rcases hc2 with g1 | ⟨g1, g2⟩
      all_goals
        go_enter Try.func19, Try.ntmps19
        go_wp2_with fail
        go_quiet (fail)
        go_wp2_with fail
        refine bodyPost_ret (v := .tuple #[.agg #[.int .i64 0, .int .i64 0, .string ⟨#[]⟩], .int .i64 200]) (by simp [results, Try.results19, go_sem]) rfl ⟨by rw [HA.out]; rfl, ?_⟩
        exact (((below_drewN ((Below.refl _ _).alloc (Nat.le_refl _) _) _).setCell (Nat.le_refl _) _).setCell (Nat.le_refl _) _).setCell (Nat.le_refl _) _
    · have HB := Lib.hid (show upAns s.data.toList = if (unAns (s.data.toList.drop 1)).2 = 0 then (⟨(s[0].toNat / 32 : Nat), (s[0].toNat % 32 : Nat), (unAns (s.data.toList.drop 1)).1⟩, 0) else (.zero, 200) by rw [hcons.out, upAns, if_neg hbad]; simp)
      have g1 : (s[0].toNat : Int) / 32 ≤ 3 := by omega
      have g2 : (s[0].toNat : Int) % 32 ≠ 0 := by omega
      have g2' : ((s[0].toNat : Int) % 32 == 0) = false := by simp; omega
      have hsl := slice_from s 1 (by omega)
      have hx2 := Lib.hid (extract_tail s)
      have hxs : (s.extract 1 s.size).size ≤ 100000000 := by simp; omega
      clear hbad h0
      by_cases hcode : (unAns (s.data.toList.drop 1)).2 = 0
      · have HA : Hid (unAns (s.extract 1 s.size).data.toList = ((unAns (s.data.toList.drop 1)).1, 0)) := by
          show _ = _
          rw [hx2.out, ← hcode]
        have HC : Hid (upAns s.data.toList = (⟨(s[0].toNat / 32 : Nat), (s[0].toNat % 32 : Nat), (unAns (s.data.toList.drop 1)).1⟩, 0)) := by
          show _ = _
          rw [HB.out, if_pos hcode]
        obtain ⟨t, ht⟩ : ∃ t, (unAns (s.data.toList.drop 1)).1 = t := ⟨_, rfl⟩
        rw [ht] at HA HC
        clear hcode HB ht
        go_enter Try.func19, Try.ntmps19
        go_wp2_with fail
        go_quiet (fail)
        go_wp2_with fail
        refine (unescape_at _ _ hxs HA.out).mono ?_
        rintro e w2 ⟨rfl, b2⟩
        have hb := (b2.block w.heap.size (by simp)).trans (heap_alloc_last w _)
        have c0 := cell_of_row w2 w.heap.size 0 _ _ _ hb
        have c1 := cell_of_row w2 w.heap.size 1 _ _ _ hb
        have c2 := cell_of_row w2 w.heap.size 2 _ _ _ hb
        have f0 := free_row hb 0
        have f1 := free_row hb 1
        have f2 := free_row hb 2
        simp at c0 c1 c2
        have HB := Lib.hid hb
        have HB2 := Lib.hid b2
        clear hb b2
        go_wp2_with fail
        refine bodyPost_ret (v := .tuple #[.agg #[.int .i64 ((s[0].toNat / 32 : Nat) : Int), .int .i64 ((s[0].toNat % 32 : Nat) : Int), .string ⟨t.toArray⟩], .int .i64 0]) (by simp [results, Try.results19, go_sem, c0, c1, c2]) rfl ⟨by rw [HC.out]; rfl, ?_⟩
        exact ((((below_drewN ((Below.refl _ _).alloc (Nat.le_refl _) _) _).trans (HB2.out.mono (by simp))).setCell (Nat.le_refl _) _).setCell (Nat.le_refl _) _).setCell (Nat.le_refl _) _
      · have HA : Hid (unAns (s.extract 1 s.size).data.toList = ([], 200)) := by
          show _ = _
          rw [hx2.out]; exact unAns_bad _ hcode
        have HC : Hid (upAns s.data.toList = (.zero, 200)) := by
          show _ = _
          rw [HB.out, if_neg hcode]
        clear hcode HB
        go_enter Try.func19, Try.ntmps19
        go_wp2_with fail
        go_quiet (fail)
        go_wp2_with fail
        refine (unescape_at _ _ hxs HA.out).mono ?_
        rintro e w2 ⟨rfl, b2⟩
        have hb := (b2.block w.heap.size (by simp)).trans (heap_alloc_last w _)
        have c0 := cell_of_row w2 w.heap.size 0 _ _ _ hb
        have c1 := cell_of_row w2 w.heap.size 1 _ _ _ hb
        have c2 := cell_of_row w2 w.heap.size 2 _ _ _ hb
        have f0 := free_row hb 0
        have f1 := free_row hb 1
        have f2 := free_row hb 2
        simp at c0 c1 c2
        have HB2 := Lib.hid b2
        clear hb b2
        go_wp2_with fail
        refine bodyPost_ret (v := .tuple #[.agg #[.int .i64 0, .int .i64 0, .string ⟨#[]⟩], .int .i64 200]) (by simp [results, Try.results19, go_sem, c0, c1, c2]) rfl ⟨by rw [HC.out]; rfl, ?_⟩
        exact ((((below_drewN ((Below.refl _ _).alloc (Nat.le_refl _) _) _).trans (HB2.out.mono (by simp))).setCell (Nat.le_refl _) _).setCell (Nat.le_refl _) _).setCell (Nat.le_refl _) _

end Go.Proofs.Ytdlklcdafembhaa
