/- The walks of the laws BitsRefuses, BitsTrails, BitsLengths. -/
import Derived.Test.YtlddankieinkoaaG
namespace Go.Proofs.Ytlddankieinkoaa
open Go.RowKit Zo

/-- BitsRefuses, where the middle call's outcome is known. -/
theorem refuses_at (x k a : Int) (w : World) (ha : k.tmod 40 = a) (h : (a < 0 ∨ 32 < a) ∨ (0 ≤ a ∧ a ≤ 32 ∧ x < 0)) :
    Calls Try.prog 8 #[.int .i64 x, .int .i64 k] w fun e w' => e = .returned (.bool true) ∧ Below w.heap.size w w' := by
  have hans : bitsAns x a = (101, []) := by rw [bitsAns, if_neg (by omega)]
  have H := Lib.hid hans
  clear hans
  rcases h with (h | h) | ⟨h0, h1, h2⟩
  all_goals
    go_enter Try.func8, Try.ntmps8
    go_wp2_with fail
    refine (awake_any _ _ (Nat.le_refl _)).mono ?_
    rintro e w1 ⟨rfl, b1⟩
    go_wp2_with fail
    refine (new_e b1.size).mono ?_
    rintro e w2 ⟨b, rfl, h2, b2, _⟩
    go_wp2_with fail
    refine (bitsW_e 1 3 h2 (by simp)).mono ?_
    rw [show bitsAns 1 3 = (0, [false, false, true]) from by decide]
    rintro e w3 ⟨rfl, h3, b3, _⟩
    go_wp2_with fail
    refine (bitsW_e x a h3 (by simp)).mono ?_
    rw [H.out]
    rintro e w4 ⟨rfl, h4, b4, _⟩
    go_wp2_with fail
    refine (num_any _ _).mono ?_
    rintro e w5 ⟨rfl, rfl⟩
    go_wp2_with fail
    refine (len_e h4 (by simp)).mono ?_
    rintro e w5 ⟨rfl, h5, b5, _⟩
    go_wp2_with fail
    refine (len_e h5 (by simp)).mono ?_
    rintro e w6 ⟨rfl, h6, b6, _⟩
    go_wp2_with fail
    refine (te_e 5 4 h6 (by simp)).mono ?_
    rw [show teAns 5 4 = (101, []) from by decide]
    rintro e w7 ⟨rfl, h7, b7, _⟩
    go_wp2_with fail
    refine (ue_e (-1) h7 (by simp)).mono ?_
    rw [show ueAns (-1) = (101, []) from by decide]
    rintro e w8 ⟨rfl, h8, b8, _⟩
    go_wp2_with fail
    refine (te_e 0 0 h8 (by simp)).mono ?_
    rw [show teAns 0 0 = (101, []) from by decide]
    rintro e w9 ⟨rfl, h9, b9, _⟩
    have c9 := b1.trans (b2.trans (b3.trans (b4.trans (b5.trans (b6.trans (b7.trans (b8.trans b9)))))))
    clear b1 b2 b3 b4 b5 b6 b7 b8 b9
    go_wp2_with (go_at_call 12; refine (num_any _ _).mono ?_; rintro e w' ⟨rfl, rfl⟩)
    refine (len_e h9 (by simp)).mono ?_
    rintro e w10 ⟨rfl, h10, b10, _⟩
    go_wp2_with fail
    go_ret
    exact ⟨rfl, c9.trans b10⟩

theorem two_pow_le32 (m : Nat) (hm : m ≤ 32) : 0 < (2 : Int) ^ m ∧ (2 : Int) ^ m ≤ 4294967296 ∧ (2 : Int) ^ m = ((2 ^ m : Nat) : Int) := by
  have h1 : (2 : Nat) ^ m ≤ 2 ^ 32 := Nat.pow_le_pow_right (by omega) hm
  have h2 := Nat.two_pow_pos m
  have e : (2 : Int) ^ m = ((2 ^ m : Nat) : Int) := by rw [Int.natCast_pow]; rfl
  rw [e]
  refine ⟨by omega, by omega, rfl⟩

theorem wrap64_two_pow (m : Nat) (hm : m ≤ 32) : wrap64 (2 ^ m) = 2 ^ m := by
  obtain ⟨h1, h2, _⟩ := two_pow_le32 m hm
  exact IntWalk.wrap64_in _ ⟨by omega, by omega⟩

theorem refuses_big (x k : Int) (m : Nat) (w : World) (ha : k.tmod 40 = (m : Int)) (hm : m ≤ 32) (h0 : 0 ≤ x) (h : ¬ x < 2 ^ m) :
    Calls Try.prog 8 #[.int .i64 x, .int .i64 k] w fun e w' => e = .returned (.bool true) ∧ Below w.heap.size w w' := by
  have hans : bitsAns x (m : Int) = (101, []) := by
    have := (two_pow_le32 m hm).2.2
    rw [bitsAns, if_neg (by rw [Int.toNat_natCast]; omega)]
  have hd : decide (x < wrap64 (2 ^ m)) = false := by rw [wrap64_two_pow m hm]; simpa using h
  have H := Lib.hid hans
  clear hans h
  go_enter Try.func8, Try.ntmps8
  go_wp2_with fail
  refine (awake_any _ _ (Nat.le_refl _)).mono ?_
  rintro e w1 ⟨rfl, b1⟩
  go_wp2_with fail
  refine (new_e b1.size).mono ?_
  rintro e w2 ⟨b, rfl, h2, b2, _⟩
  go_wp2_with fail
  refine (bitsW_e 1 3 h2 (by simp)).mono ?_
  rw [show bitsAns 1 3 = (0, [false, false, true]) from by decide]
  rintro e w3 ⟨rfl, h3, b3, _⟩
  go_wp2_with fail
  refine (bitsW_e x m h3 (by simp)).mono ?_
  rw [H.out]
  rintro e w4 ⟨rfl, h4, b4, _⟩
  go_wp2_with fail
  refine (num_any _ _).mono ?_
  rintro e w5 ⟨rfl, rfl⟩
  go_wp2_with fail
  refine (len_e h4 (by simp)).mono ?_
  rintro e w5 ⟨rfl, h5, b5, _⟩
  go_wp2_with fail
  refine (len_e h5 (by simp)).mono ?_
  rintro e w6 ⟨rfl, h6, b6, _⟩
  go_wp2_with fail
  refine (te_e 5 4 h6 (by simp)).mono ?_
  rw [show teAns 5 4 = (101, []) from by decide]
  rintro e w7 ⟨rfl, h7, b7, _⟩
  go_wp2_with fail
  refine (ue_e (-1) h7 (by simp)).mono ?_
  rw [show ueAns (-1) = (101, []) from by decide]
  rintro e w8 ⟨rfl, h8, b8, _⟩
  go_wp2_with fail
  refine (te_e 0 0 h8 (by simp)).mono ?_
  rw [show teAns 0 0 = (101, []) from by decide]
  rintro e w9 ⟨rfl, h9, b9, _⟩
  have c9 := b1.trans (b2.trans (b3.trans (b4.trans (b5.trans (b6.trans (b7.trans (b8.trans b9)))))))
  clear b1 b2 b3 b4 b5 b6 b7 b8 b9
  go_wp2_with (go_at_call 12; refine (num_any _ _).mono ?_; rintro e w' ⟨rfl, rfl⟩)
  refine (len_e h9 (by simp)).mono ?_
  rintro e w10 ⟨rfl, h10, b10, _⟩
  go_wp2_with fail
  go_ret
  exact ⟨rfl, c9.trans b10⟩

theorem refuses_fine (x k : Int) (m : Nat) (w : World) (ha : k.tmod 40 = (m : Int)) (hm : m ≤ 32) (h0 : 0 ≤ x) (h : x < 2 ^ m) :
    Calls Try.prog 8 #[.int .i64 x, .int .i64 k] w fun e w' => e = .returned (.bool true) ∧ Below w.heap.size w w' := by
  have hans : bitsAns x (m : Int) = (0, digs m x.toNat) := by
    have := (two_pow_le32 m hm).2.2
    rw [bitsAns, if_pos (by rw [Int.toNat_natCast]; omega), Int.toNat_natCast]
  have hd : decide (x < wrap64 (2 ^ m)) = true := by rw [wrap64_two_pow m hm]; simpa using h
  have H := Lib.hid hans
  clear hans h
  go_enter Try.func8, Try.ntmps8
  go_wp2_with fail
  refine (awake_any _ _ (Nat.le_refl _)).mono ?_
  rintro e w1 ⟨rfl, b1⟩
  go_wp2_with fail
  refine (new_e b1.size).mono ?_
  rintro e w2 ⟨b, rfl, h2, b2, _⟩
  go_wp2_with fail
  refine (bitsW_e 1 3 h2 (by simp)).mono ?_
  rw [show bitsAns 1 3 = (0, [false, false, true]) from by decide]
  rintro e w3 ⟨rfl, h3, b3, _⟩
  go_wp2_with fail
  refine (bitsW_e x m h3 (by simp)).mono ?_
  rw [H.out]
  rintro e w4 ⟨rfl, h4, b4, _⟩
  go_wp2_with fail
  refine (num_any _ _).mono ?_
  rintro e w5 ⟨rfl, rfl⟩
  go_wp2_with fail
  have h5 := h4
  have b5 := Below.refl w.heap.size w4
  refine (len_e h5 (by simp [digs_length]; omega)).mono ?_
  rintro e w6 ⟨rfl, h6, b6, _⟩
  go_wp2_with fail
  refine (te_e 5 4 h6 (by simp [digs_length]; omega)).mono ?_
  rw [show teAns 5 4 = (101, []) from by decide]
  rintro e w7 ⟨rfl, h7, b7, _⟩
  go_wp2_with fail
  refine (ue_e (-1) h7 (by simp [digs_length]; omega)).mono ?_
  rw [show ueAns (-1) = (101, []) from by decide]
  rintro e w8 ⟨rfl, h8, b8, _⟩
  go_wp2_with fail
  refine (te_e 0 0 h8 (by simp [digs_length]; omega)).mono ?_
  rw [show teAns 0 0 = (101, []) from by decide]
  rintro e w9 ⟨rfl, h9, b9, _⟩
  have c9 := b1.trans (b2.trans (b3.trans (b4.trans (b5.trans (b6.trans (b7.trans (b8.trans b9)))))))
  clear b1 b2 b3 b4 b5 b6 b7 b8 b9
  go_wp2_with (go_at_call 12; refine (num_any _ _).mono ?_; rintro e w' ⟨rfl, rfl⟩)
  refine (len_e h9 (by simp [digs_length]; omega)).mono ?_
  rintro e w10 ⟨rfl, h10, b10, _⟩
  go_wp2_with fail
  go_ret
  exact ⟨rfl, c9.trans b10⟩

theorem bitsRefuses_walk (x k : Int) (_ : (Lit.int .i64 x).wf = true) (_ : (Lit.int .i64 k).wf = true) (w : World) :
    Calls Try.prog 8 #[.int .i64 x, .int .i64 k] w fun e w' => e = .returned (.bool true) ∧ Below w.heap.size w w' := by
  by_cases h1 : (k.tmod 40 < 0 ∨ 32 < k.tmod 40) ∨ (0 ≤ k.tmod 40 ∧ k.tmod 40 ≤ 32 ∧ x < 0)
  · exact refuses_at x k _ w rfl h1
  · obtain ⟨m, hm⟩ := Int.eq_ofNat_of_zero_le (show 0 ≤ k.tmod 40 by omega)
    by_cases h2 : x < 2 ^ m
    · exact refuses_fine x k m w hm (by omega) (by omega) h2
    · exact refuses_big x k m w hm (by omega) (by omega) h2
end Go.Proofs.Ytlddankieinkoaa
