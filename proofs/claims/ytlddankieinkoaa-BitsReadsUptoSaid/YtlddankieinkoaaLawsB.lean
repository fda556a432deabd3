/- The walks of the laws BitsTrails, BitsLengths. -/
import Derived.Test.YtlddankieinkoaaLawsA
namespace Go.Proofs.Ytlddankieinkoaa
open Go.RowKit Zo

theorem bytes_numsF (l : List Nat) (h : ∀ x ∈ l, x < 256) (i : Nat) : byteAt (bstr l) i = l.getD i 0 := by
  unfold byteAt
  by_cases hi : i < l.length
  · rw [dif_pos (by rw [bstr_size]; exact hi)]
    have := h l[i] (List.getElem_mem hi)
    simp [bstr, ByteArray.getElem_eq_getElem_data, hi]
    omega
  · rw [dif_neg (by rw [bstr_size]; exact hi)]
    simp [hi]

theorem bitAt_bstr (l : List Nat) (h : ∀ x ∈ l, x < 256) (i : Nat) : bitAt (bstr l) i = (flat l).getD i false := by
  unfold bitAt
  rw [bytes_numsF l h]
  by_cases hi : i < 8 * l.length
  · rw [List.getD_eq_getElem?_getD (l := flat l), flat_get l i hi]; rfl
  · rw [List.getD_eq_getElem?_getD (l := flat l), List.getElem?_eq_none (l := flat l) (by rw [flat_length]; omega)]
    rw [List.getD_eq_getElem?_getD, List.getElem?_eq_none (by omega)]
    simp

/-- The bits of the string that bits make: these, then noughts. -/
theorem bitAt_pack (l : List Bool) (i : Nat) : bitAt (bstr (packB l)) i = l.getD i false := by
  rw [bitAt_bstr _ (packB_lt l), flat_packB]
  simp only [List.getD_eq_getElem?_getD]
  by_cases hi : i < l.length
  · rw [List.getElem?_append_left hi]
  · rw [List.getElem?_append_right (by omega), List.getElem?_eq_none (l := l) (by omega), List.getElem?_replicate]
    split <;> rfl

theorem size_pack (l : List Bool) : (bstr (packB l)).size = (l.length + 7) / 8 := by rw [bstr_size, packB_length]

/-- Behind a Trail: whole bytes, and where the last 1 is. -/
theorem past_trail (l : List Bool) : IsPast (bitAt (bstr (packB (l ++ trailB l.length)))) (8 * (bstr (packB (l ++ trailB l.length))).size) (l.length + 1) := by
  have ht : (l ++ trailB l.length).length = l.length + 1 + (7 - l.length % 8) := by simp [trailB]; omega
  refine ⟨by rw [size_pack, ht]; omega, fun i hi => ?_, fun _ => ?_⟩
  · rw [bitAt_pack, List.getD_eq_getElem?_getD, List.getElem?_append_right (by omega)]
    rw [trailB, show i - l.length = (i - l.length - 1) + 1 from by omega, List.getElem?_cons_succ, List.getElem?_replicate]
    split <;> rfl
  · rw [bitAt_pack, List.getD_eq_getElem?_getD, List.getElem?_append_right (by omega)]
    simp [trailB]

theorem trail_size (l : List Bool) : 8 * (bstr (packB (l ++ trailB l.length))).size = l.length + 1 + (7 - l.length % 8) := by
  have ht : (l ++ trailB l.length).length = l.length + 1 + (7 - l.length % 8) := by simp [trailB]; omega
  rw [size_pack, ht]; omega

theorem bitsTrails_walk (many x : Int) (_ : (Lit.int .i64 many).wf = true) (_ : (Lit.int .i64 x).wf = true) (w : World) :
    Calls Try.prog 7 #[.int .i64 many, .int .i64 x] w fun e w' => e = .returned (.bool true) ∧ Below w.heap.size w w' := by
  have hk : bits .and .i64 many 31 = many % 32 := and_mask_i64 many 5 (by omega)
  have hx : bits .and .i64 x 1 = x % 2 := and_mask_i64 x 1 (by omega)
  obtain ⟨k, hk'⟩ := Int.eq_ofNat_of_zero_le (show 0 ≤ many % 32 by omega)
  obtain ⟨y, hy'⟩ := Int.eq_ofNat_of_zero_le (show 0 ≤ x % 2 by omega)
  have hk31 : k ≤ 31 := by omega
  have hy1 : y ≤ 1 := by omega
  rw [hk'] at hk
  rw [hy'] at hx
  clear hk' hy'
  have A1 := Lib.hid (show bitsAns (y : Int) 1 = (0, digs 1 y) by
    rw [bitsAns, if_pos (by simp; omega)]; rfl)
  have A2 := Lib.hid (show bitsAns 0 (k : Int) = (0, digs k 0) by
    rw [bitsAns, if_pos (by simp [Nat.two_pow_pos]; omega)]; simp)
  have L : ∀ l : List Bool, l = digs 1 y ++ digs k 0 → l.length = k + 1 := by
    intro l hl; rw [hl]; simp [digs_length]; omega
  have L1 := Lib.hid L
  clear L
  go_enter Try.func7, Try.ntmps7
  go_wp2_with fail
  refine (awake_any _ _ (Nat.le_refl _)).mono ?_
  rintro e w1 ⟨rfl, b1⟩
  go_wp2_with fail
  refine (new_e b1.size).mono ?_
  rintro e w2 ⟨b, rfl, h2, b2, _⟩
  go_wp2_with fail
  refine (bitsW_e y 1 h2 (by simp)).mono ?_
  rw [A1.out]
  rintro e w3 ⟨rfl, h3, b3, _⟩
  go_wp2_with fail
  refine (bitsW_e 0 k h3 (by simp [digs_length])).mono ?_
  rw [A2.out]
  rintro e w4 ⟨rfl, h4, b4, _⟩
  rw [List.nil_append] at h4
  have hl := L1.out _ rfl
  generalize digs 1 y ++ digs k 0 = l at h4 hl
  have HL := Lib.hid hl
  clear h3 hl
  go_wp2_with fail
  refine (trailW_e h4 (by rw [HL.out]; omega)).mono ?_
  rintro e w5 ⟨rfl, h5, b5, _⟩
  have ht : (l ++ trailB l.length).length = (k + 1) / 8 * 8 + 8 := by
    have := HL.out
    simp [trailB]; omega
  have hps := past_trail l
  have hsz := trail_size l
  rw [show l.length + 1 = k + 2 from by rw [HL.out]] at hps
  have hsz2 : 8 * (bstr (packB (l ++ trailB l.length))).size = (k + 1) / 8 * 8 + 8 := by have := HL.out; omega
  clear hsz
  generalize l ++ trailB l.length = m at h5 ht hps hsz2
  have HT := Lib.hid ht
  have HP := Lib.hid hps
  have HS := Lib.hid hsz2
  clear ht hps hsz2
  go_wp2_with fail
  refine (bytes_e h5 (by rw [HT.out]; omega)).mono ?_
  rintro e w6 ⟨rfl, h6, b6, _⟩
  generalize bstr (packB m) = s at HP HS
  have hss : s.size ≤ 140737488355328 := by have := HS.out; omega
  have c6 := b1.trans (b2.trans (b3.trans (b4.trans (b5.trans b6))))
  have z6 := c6.size
  clear b1 b2 b3 b4 b5 b6
  go_wp2_with fail
  refine (open_e s z6 hss).mono ?_
  rintro e w7 ⟨b', rfl, h7, b7, t7⟩
  replace h6 := t7 _ _ h6
  clear t7
  go_wp2_with fail
  refine (more_e h7 HP.out hss).mono ?_
  rintro e w8 ⟨rfl, h8, b8, t8⟩
  replace h6 := t8 _ _ h6
  clear t8
  go_wp2_with fail
  obtain ⟨v, hv⟩ : ∃ v, rdBits (bitAt s) (8 * s.size) 0 (1 + (k : Int)) = (v, 0, k + 1) := by
    refine ⟨val (win (bitAt s) 0 (1 + (k : Int)).toNat), ?_⟩
    rw [rdBits, if_neg (by omega), if_neg (by have := HS.out; omega), show 0 + (1 + (k : Int)).toNat = k + 1 from by omega]
  have HV := Lib.hid hv
  clear hv
  refine (rBits_e _ h8 hss).mono ?_
  rw [HV.out]
  rintro e w9 ⟨rfl, h9, b9, t9⟩
  replace h6 := t9 _ _ h6
  clear t9
  go_wp2_with fail
  refine (more_e h9 HP.out hss).mono ?_
  rintro e w10 ⟨rfl, h10, b10, t10⟩
  replace h6 := t10 _ _ h6
  clear t10
  go_wp2_with fail
  refine (trailR_e h10 HP.out hss).mono ?_
  have hT1 : (k + 1 + 1 = k + 2 ∧ 8 * s.size - (k + 1) ≤ 8) := ⟨rfl, by have := HS.out; omega⟩
  rw [if_pos hT1, if_pos hT1]
  clear hT1
  rintro e w11 ⟨rfl, h11, b11, t11⟩
  replace h6 := t11 _ _ h6
  clear t11
  go_wp2_with fail
  refine (trailR_e h11 HP.out hss).mono ?_
  have hT2 : ¬ (8 * s.size + 1 = k + 2 ∧ 8 * s.size - 8 * s.size ≤ 8) := by have := HS.out; omega
  rw [if_neg hT2, if_neg hT2]
  clear hT2
  rintro e w12 ⟨rfl, h12, b12, t12⟩
  replace h6 := t12 _ _ h6
  clear t12
  have c12 := c6.trans (b7.trans (b8.trans (b9.trans (b10.trans (b11.trans b12)))))
  clear b7 b8 b9 b10 b11 b12 c6
  rw [HS.out] at h12
  go_wp2_with fail
  refine (len_e h6 (by rw [HT.out]; omega)).mono ?_
  rw [HT.out]
  rintro e w13 ⟨rfl, h13, b13, t13⟩
  replace h12 := t13 _ _ _ h12
  clear t13
  have hm8 : (((((k + 1) / 8 * 8 + 8 : Nat) : Int) % 8 == 0) = true) := by simp
  go_wp2_with fail
  refine (len_e h13 (by rw [HT.out]; omega)).mono ?_
  rw [HT.out]
  rintro e w14 ⟨rfl, h14, b14, t14⟩
  replace h12 := t14 _ _ _ h12
  clear t14
  go_wp2_with (go_at_call 12; refine (num_any _ _).mono ?_; rintro e w' ⟨rfl, rfl⟩)
  refine (at_e h12).mono ?_
  rintro e w15 ⟨rfl, h15, b15, t15⟩
  replace h14 := t15 _ _ h14
  clear t15
  go_wp2_with fail
  refine (len_e h14 (by rw [HT.out]; omega)).mono ?_
  rw [HT.out]
  rintro e w16 ⟨rfl, h16, b16, t16⟩
  go_wp2_with fail
  go_ret
  exact ⟨rfl, c12.trans (b13.trans (b14.trans (b15.trans b16)))⟩

/-- A Writer that lies wholly below block U. -/
def WrIn (w : World) (B U b : Nat) (bits : List Bool) : Prop := ∃ o, Wr w B b o bits ∧ b < U ∧ ∀ k, o = some k → k < U

theorem WrE.into {w : World} {B b : Nat} {bits : List Bool} (h : WrE w B b bits) : WrIn w B w.heap.size b bits := by
  obtain ⟨o, h⟩ := h
  obtain ⟨⟨_, h1⟩, _, h2⟩ := h.row
  exact ⟨o, h, row_lt h1, fun k e => by obtain ⟨_, _, h3⟩ := h2 k e; exact row_lt h3⟩

theorem WrIn.out {w : World} {B U b : Nat} {bits : List Bool} (h : WrIn w B U b bits) : WrE w B b bits := by obtain ⟨o, h, _⟩ := h; exact ⟨o, h⟩

/-- .. stays what it is while what is written lies from U on. -/
theorem WrIn.below {w w' : World} {B U b : Nat} {bits : List Bool} (h : WrIn w B U b bits) (hb : Below U w w') : WrIn w' B U b bits := by
  obtain ⟨o, h, h1, h2⟩ := h
  exact ⟨o, h.fr (S := fun k => U ≤ k) ⟨hb.os, hb.tape, hb.output, hb.size, fun k _ hn => hb.block k (by omega)⟩ (fun k hk e => by
    rcases hk with rfl | ho
    · omega
    · have := h2 k ho; omega), h1, h2⟩

theorem bitLen_eq (x d : Nat) (h1 : 2 ^ d ≤ x) (h2 : x < 2 ^ (d + 1)) (hd : d < 64) : Lib.bitLen x = d + 1 := by
  have hx : x < 18446744073709551616 := Nat.lt_of_lt_of_le h2 (Nat.pow_le_pow_right (by omega) (show d + 1 ≤ 64 by omega))
  have hp := Nat.two_pow_pos d
  obtain ⟨a1, a2, a3, _⟩ := Zo.bitLen_spec x hx (by omega)
  have hle := Zo.bitLen_le x (d + 1) h2 (by omega)
  by_cases h : Lib.bitLen x ≤ d
  · have : 2 ^ Lib.bitLen x ≤ 2 ^ d := Nat.pow_le_pow_right (by omega) h
    omega
  · omega

theorem half_step (y d x : Nat) (h1 : y * 2 ^ d ≤ x) (h2 : x < (y + 1) * 2 ^ d) : y / 2 * 2 ^ (d + 1) ≤ x ∧ x < (y / 2 + 1) * 2 ^ (d + 1) := by
  rw [Nat.pow_succ, ← Nat.mul_assoc, ← Nat.mul_assoc, Nat.mul_right_comm, Nat.mul_right_comm (y / 2 + 1)]
  have a : y / 2 * 2 ≤ y := by omega
  have b : y + 1 ≤ (y / 2 + 1) * 2 := by omega
  exact ⟨Nat.le_trans (Nat.mul_le_mul_right _ a) h1, Nat.lt_of_lt_of_le h2 (Nat.mul_le_mul_right _ b)⟩

theorem bitsLengths_walk (x : Int) (_ : (Lit.int .i64 x).wf = true) (w : World) :
    Calls Try.prog 6 #[.int .i64 x] w fun e w' => e = .returned (.bool true) ∧ Below w.heap.size w w' := by
  have hw0 : 0 ≤ IntKind.u64.wrap x := by rw [IntKind.wrap_u64]; omega
  obtain ⟨k, hk⟩ := Int.eq_ofNat_of_zero_le (show 0 ≤ IntKind.u64.wrap x % 2147483647 by omega)
  have hk2 : k ≤ 2147483646 := by omega
  have A1 := Lib.hid (show ueAns (k : Int) = (0, ueB k) by rw [ueAns, if_pos (by omega)]; rfl)
  have A2 := Lib.hid (show seAns ((k : Int) / 4) = (0, seB ((k : Int) / 4)) by rw [seAns, if_pos (by omega)])
  have A3 := Lib.hid (show seAns (-((k : Int) / 4)) = (0, seB (-((k : Int) / 4))) by rw [seAns, if_pos (by omega)])
  have U := Lib.hid (ueB_length k hk2)
  have U2 : ∀ z : Int, -1073741823 ≤ z → z ≤ 1073741823 → (seB z).length ≤ 61 := fun z h1 h2 => (ueB_length (foldedN z) (by rw [foldedN]; split <;> omega)).2
  have V2 := Lib.hid (U2 ((k : Int) / 4) (by omega) (by omega))
  clear U2
  go_enter Try.func6, Try.ntmps6
  go_wp2_with fail
  refine (awake_any _ _ (Nat.le_refl _)).mono ?_
  rintro e w1 ⟨rfl, b1⟩
  go_wp2_with fail
  refine (new_e b1.size).mono ?_
  rintro e w2 ⟨b, rfl, h2, b2, _⟩
  go_wp2_with fail
  refine (ue_e k h2 (by simp)).mono ?_
  rw [A1.out]
  rintro e w3 ⟨rfl, h3, b3, _⟩
  have c3 := b1.trans (b2.trans b3)
  rw [List.nil_append] at h3
  clear h2 b1 b2 b3
  go_wp2_with fail
  go_loop [6, 7] (fun d y => ∃ n m : Nat, d = .int .i64 (n : Int) ∧ y = .int .i64 (m : Int) ∧ 1 ≤ m ∧ m ≤ 2147483647 ∧ n ≤ 64 ∧ Aside (m * 2 ^ n ≤ k + 1 ∧ k + 1 < (m + 1) * 2 ^ n)) (fun _ y => (intOf y).toNat)
  case atStart => exact ⟨0, k + 1, rfl, by go_num, by omega, by omega, by omega, by simp, by simp⟩
  case round =>
    obtain ⟨n, m, rfl, rfl, hm1, hm2, hn, A⟩ := hrel
    have hn32 : n ≤ 31 := by
      by_cases hc : n ≤ 31
      · exact hc
      · have h1 : 2 ^ 32 ≤ 2 ^ n := Nat.pow_le_pow_right (by omega) (by omega)
        have h2 : 1 * 2 ^ n ≤ m * 2 ^ n := Nat.mul_le_mul_right _ hm1
        have := A.1
        omega
    by_cases h1 : 1 < m
    · go_wp2_with fail
      go_round
      case rel =>
        exact ⟨n + 1, m / 2, by go_num, by go_num, by omega, by omega, by omega, half_step m n (k + 1) A.1 A.2⟩
      case measure => simp [intOf]; omega
    · obtain rfl : m = 1 := by omega
      have hbl : (ueB k).length = 2 * n + 1 := by
        have := bitLen_eq (k + 1) n (by have := A.1; omega) (by have := A.2; rw [Nat.pow_succ]; omega) (by omega)
        rw [U.out.1, this]; omega
      have HL := Lib.hid hbl
      clear hbl A
      go_wp2_with fail
      refine (new_e (B := w3.heap.size) (Nat.le_refl _)).mono ?_
      rintro e w4 ⟨b', rfl, h4, b4, _⟩
      replace h3 := h3.into.below b4
      have z3 := c3.size
      replace c3 := c3.trans (b4.mono z3)
      generalize w3.heap.size = U at *
      go_wp2_with fail
      refine (se_e _ h4 (by simp)).mono ?_
      rw [A2.out, List.nil_append]
      rintro e w5 ⟨rfl, h5, b5, _⟩
      replace h3 := h3.below b5
      replace c3 := c3.trans (b5.mono z3)
      go_wp2_with fail
      refine (se_e _ h5 (by have := V2.out; omega)).mono ?_
      rw [A3.out]
      rintro e w6 ⟨rfl, h6, b6, _⟩
      replace h3 := (h3.below b6).out
      replace c3 := c3.trans (b6.mono z3)
      clear h4 h5 h6 b4 b5 b6
      go_wp2_with (go_at_call 12; refine (num_any _ _).mono ?_; rintro e w' ⟨rfl, rfl⟩)
      refine (len_e h3 (by have := HL.out; omega)).mono ?_
      rw [HL.out]
      rintro e w7 ⟨rfl, h7, b7, _⟩
      go_wp2_with (go_at_call 12; refine (num_any _ _).mono ?_; rintro e w' ⟨rfl, rfl⟩)
      refine (bytes_e h7 (by have := HL.out; omega)).mono ?_
      rintro e w8 ⟨rfl, h8, b8, _⟩
      have hsz : (((bstr (packB (ueB k))).size : Int) == (2 * (n : Int) + 8) / 8) = true := by rw [size_pack, HL.out]; simp; omega
      generalize bstr (packB (ueB k)) = s at *
      go_wp2_with fail
      go_ret
      exact ⟨rfl, c3.trans (b7.trans b8)⟩
end Go.Proofs.Ytlddankieinkoaa
