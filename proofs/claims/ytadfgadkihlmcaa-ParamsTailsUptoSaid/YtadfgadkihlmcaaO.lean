/- What is written is read as it was: codes as windows of bits. Plain mathematics. -/
import Derived.Test.YtadfgadkihlmcaaN
namespace Zo

theorem win_list (pre c post : List Bool) : win (fun i => (pre ++ c ++ post).getD i false) pre.length c.length = c := by
  apply List.ext_getElem?
  intro i
  by_cases h : i < c.length
  · rw [win_get _ _ _ _ h, List.getD_eq_getElem?_getD, List.append_assoc, List.getElem?_append_right (by omega), List.getElem?_append_left (by omega)]
    rw [show pre.length + i - pre.length = i from by omega, List.getElem?_eq_getElem h]
    rfl
  · rw [List.getElem?_eq_none (by rw [win_length]; omega), List.getElem?_eq_none (by omega)]

theorem win_get' {f : Nat → Bool} {p n : Nat} {c : List Bool} (h : win f p n = c) (i : Nat) (hi : i < n) : f (p + i) = c.getD i false := by
  rw [← h, List.getD_eq_getElem?_getD, win_get _ _ _ _ hi]; rfl

theorem win_split {f : Nat → Bool} {p : Nat} {a b : List Bool} (h : win f p (a ++ b).length = a ++ b) : win f p a.length = a ∧ win f (p + a.length) b.length = b := by
  rw [List.length_append, win_add] at h
  exact List.append_inj h (by rw [win_length])

/-- The first digit of a number that is not 0 is a 1. -/
theorem digs_top (x : Nat) (hx : x < 18446744073709551616) (h0 : 0 < x) : x.testBit (Go.Lib.bitLen x - 1) = true := by
  obtain ⟨h1, h2, h3, _⟩ := Zo.bitLen_spec x hx h0
  rw [Nat.testBit_eq_decide_div_mod_eq]
  have hd : x / 2 ^ (Go.Lib.bitLen x - 1) = 1 := by
    have e : 2 ^ Go.Lib.bitLen x = 2 ^ (Go.Lib.bitLen x - 1) * 2 := by rw [← Nat.pow_succ]; congr 1; omega
    rw [Nat.div_eq_iff (Nat.two_pow_pos _)]
    omega
  rw [hd]; rfl

theorem rdUe_back (f : Nat → Bool) (T p x : Nat) (most : Int) (hx : x ≤ 2147483646) (hw : win f p (ueB x).length = ueB x) (hT : p + (ueB x).length ≤ T) (hm : (x : Int) ≤ most) :
    rdUe f T p most = (x, 0, p + (ueB x).length) := by
  obtain ⟨hlen, _⟩ := ueB_length x hx
  have hL31 := Zo.bitLen_le (x + 1) 31 (by omega) (by omega)
  obtain ⟨_, hlt, hL0, _⟩ := Zo.bitLen_spec (x + 1) (by omega) (by omega)
  have htop := digs_top (x + 1) (by omega) (by omega)
  have hs := hw
  unfold ueB at hs
  obtain ⟨w1, w2⟩ := win_split hs
  rw [List.length_replicate] at w1 w2
  rw [digs_length] at w2
  clear hs hw
  rw [hlen] at hT ⊢
  generalize Go.Lib.bitLen (x + 1) = L at *
  obtain ⟨n, rfl⟩ : ∃ n, L = n + 1 := ⟨L - 1, by omega⟩
  rw [show n + 1 - 1 = n from rfl] at w1 w2 htop
  have hlead : lead f p 32 = n := by
    refine lead_eq f p 32 n (by omega) ?_ ?_
    · have := win_get' w2 0 (by omega)
      rw [Nat.add_zero] at this
      rw [this, digs_cons, List.getD_cons_zero, htop]
    · intro j hj
      have := win_get' w1 j hj
      rw [this, List.getD_eq_getElem?_getD, List.getElem?_replicate, if_pos hj]; rfl
  have hv : val (win f (p + n) (n + 1)) = x + 1 := by rw [w2, val_digs, Nat.mod_eq_of_lt hlt]
  unfold rdUe
  rw [hlead, if_neg (by omega), if_neg (by omega), hv, if_neg (by simp; omega), show x + 1 - 1 = x from rfl, show 2 * (n + 1) - 1 = 2 * n + 1 from by omega]

theorem unfolded_folded (x : Int) : unfoldedZ (foldedN x) = x := by
  unfold unfoldedZ foldedN
  split
  · split <;> omega
  · split <;> omega

theorem foldedN_le (x : Int) (h1 : -1073741823 ≤ x) (h2 : x ≤ 1073741823) : foldedN x ≤ 2147483646 := by
  unfold foldedN; split <;> omega

theorem rdBits_back (f : Nat → Bool) (T p x n : Nat) (hx : x < 2 ^ n) (hn : n ≤ 32) (hw : win f p n = digs n x) (hT : p + n ≤ T) : rdBits f T p (n : Int) = (x, 0, p + n) := by
  unfold rdBits
  rw [if_neg (by omega), if_neg (by omega), Int.toNat_natCast, hw, val_digs, Nat.mod_eq_of_lt hx]

theorem rdTe_back (f : Nat → Bool) (T p x most : Nat) (hx : x ≤ 2147483646) (hm0 : 1 ≤ most) (hm : x ≤ most) (hw : win f p (teB x most).length = teB x most) (hT : p + (teB x most).length ≤ T) :
    rdTe f T p (most : Int) = (x, 0, p + (teB x most).length) := by
  unfold rdTe
  rw [if_neg (by omega)]
  by_cases h1 : most = 1
  · subst h1
    simp only [teB, if_pos] at hw hT ⊢
    have hb := win_get' hw 0 (by simp)
    rw [Nat.add_zero] at hb
    simp at hT
    rw [if_pos (show ((1 : Nat) : Int) = 1 from rfl), if_neg (by omega), hb]
    have : x = 0 ∨ x = 1 := by omega
    rcases this with rfl | rfl <;> simp
  · rw [if_neg (by omega)]
    rw [teB, if_neg h1] at hw hT ⊢
    exact rdUe_back f T p x _ hx hw hT (by omega)

/-! ## BitsBack's own row of codes -/

def backB (m : Nat) (z : Int) : List Bool := seB (z.tmod 1000000) ++ ueB (z.tmod 1000000).natAbs ++ teB ((z.tmod 1000000).natAbs % (m + 1)) m ++ digs 20 (z.tmod 1000000).natAbs

theorem tmod_bounds (z : Int) : -1000000 < z.tmod 1000000 ∧ z.tmod 1000000 < 1000000 := by
  by_cases h : 0 ≤ z
  · rw [Int.tmod_eq_emod_of_nonneg h]; omega
  · obtain ⟨y, rfl⟩ : ∃ y : Int, z = -y := ⟨-z, by omega⟩
    rw [Int.neg_tmod, Int.tmod_eq_emod_of_nonneg (by omega)]; omega

theorem backB_length (m : Nat) (hm : m ≤ 1000) (z : Int) : (backB m z).length ≤ 203 := by
  obtain ⟨h1, h2⟩ := tmod_bounds z
  have a1 := (ueB_length (foldedN (z.tmod 1000000)) (foldedN_le _ (by omega) (by omega))).2
  have a2 := (ueB_length (z.tmod 1000000).natAbs (by omega)).2
  have hmod := Nat.mod_lt (z.tmod 1000000).natAbs (show 0 < m + 1 by omega)
  have a3 : (teB ((z.tmod 1000000).natAbs % (m + 1)) m).length ≤ 61 := by
    unfold teB; split
    · simp
    · exact (ueB_length _ (by omega)).2
  simp only [backB, List.length_append, digs_length]
  rw [show (seB (z.tmod 1000000)).length = (ueB (foldedN (z.tmod 1000000))).length from rfl]
  omega

def backsB (m : Nat) (zs : List Int) : List Bool := zs.flatMap (backB m)

theorem backsB_length (m : Nat) (hm : m ≤ 1000) (zs : List Int) : (backsB m zs).length ≤ 203 * zs.length := by
  induction zs with
  | nil => simp [backsB]
  | cons z zs ih =>
    have := backB_length m hm z
    rw [show backsB m (z :: zs) = backB m z ++ backsB m zs from rfl, List.length_append, List.length_cons]
    omega

/-- Where a row of codes stands in the bits, its four readings give back the number. -/
theorem back_reads (f : Nat → Bool) (T P m : Nat) (hm1 : 1 ≤ m) (hm : m ≤ 1000) (z y : Int) (a : Nat) (hy : z.tmod 1000000 = y) (ha : y.natAbs = a) (hw : win f P (backB m z).length = backB m z) (hT : P + (backB m z).length ≤ T) :
    ∃ P1 P2 P3, rdUe f T P 2147483646 = (foldedN y, 0, P1) ∧ rdUe f T P1 2147483646 = (a, 0, P2) ∧ rdTe f T P2 (m : Int) = (a % (m + 1), 0, P3) ∧ rdBits f T P3 20 = (a, 0, P + (backB m z).length) := by
  obtain ⟨h1, h2⟩ := tmod_bounds z
  rw [hy] at h1 h2
  have e : backB m z = seB y ++ ueB a ++ teB (a % (m + 1)) m ++ digs 20 a := by rw [backB, hy, ha]
  rw [e] at hw hT ⊢
  obtain ⟨w3, w4⟩ := win_split hw
  obtain ⟨w2, w3⟩ := win_split w3
  obtain ⟨w1, w2⟩ := win_split w2
  simp only [List.length_append, digs_length] at w1 w2 w3 w4 hT ⊢
  have ha6 : a < 1000000 := by omega
  have hmod := Nat.mod_lt a (show 0 < m + 1 by omega)
  have e1 : (ueB (foldedN y)).length = (seB y).length := rfl
  have r1 := rdUe_back f T P (foldedN y) 2147483646 (foldedN_le y (by omega) (by omega)) w1 (by omega) (by have := foldedN_le y (by omega) (by omega); omega)
  have r2 := rdUe_back f T (P + (seB y).length) a 2147483646 (by omega) w2 (by omega) (by omega)
  have r3 := rdTe_back f T (P + (seB y).length + (ueB a).length) (a % (m + 1)) m (by omega) hm1 (by omega) (by rw [Nat.add_assoc]; exact w3) (by omega)
  have r4 := rdBits_back f T (P + (seB y).length + (ueB a).length + (teB (a % (m + 1)) m).length) a 20 (by omega) (by omega) (by rw [Nat.add_assoc P, Nat.add_assoc P]; exact w4) (by omega)
  rw [e1] at r1
  refine ⟨_, _, _, r1, r2, r3, ?_⟩
  rw [show P + ((seB y).length + (ueB a).length + (teB (a % (m + 1)) m).length + 20) = P + (seB y).length + (ueB a).length + (teB (a % (m + 1)) m).length + 20 from by omega]
  exact r4

theorem backsB_append (m : Nat) (a b : List Int) : backsB m (a ++ b) = backsB m a ++ backsB m b := by simp [backsB]

theorem backsB_snoc (m : Nat) (zs : List Int) (z : Int) : backsB m (zs ++ [z]) = backsB m zs ++ backB m z := by
  simp [backsB]

end Zo
