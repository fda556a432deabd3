/- Plain mathematics of layer 3: what bytes answer as parameters, and which bytes parameters answer. No program is named here. -/
import Derived.Test.YtadfgadkihlmcaaPB
namespace Zp
open Zo

instance (f : Nat → Bool) (T p q : Nat) (l : List Bool) : Decidable (Is f T p q l) := by unfold Is; infer_instance
instance (f : Nat → Bool) (T p : Nat) : Decidable (Trails f T p) := by unfold Trails; infer_instance

def PpsN.zero : PpsN := ⟨false, false, 0, 0, 0, false, false, 0, 0⟩

/-- The answer of GetSps: 300 of the form, 301 of the range. -/
def gotSps (f : Nat → Bool) (T : Nat) : SpsN × Int := match pSps f T with
  | none => (.zero, 300)
  | some none => (.zero, 301)
  | some (some (s, q)) => if Trails f T q then if s.may then (s, 0) else (.zero, 301) else (.zero, 300)

def gotPps (f : Nat → Bool) (T : Nat) : PpsN × Int := match pPps f T with
  | none => (.zero, 300)
  | some (s, q) => if Trails f T q then if s.may then (s, 0) else (.zero, 301) else (.zero, 300)

def trailed (l : List Bool) : List Bool := l ++ trailB l.length

theorem gotSps_back {f : Nat → Bool} {T : Nat} {s : SpsN} (hs : s.may) (h : win f 0 T = trailed (spsB s)) : gotSps f T = (s, 0) := by
  obtain ⟨h1, h2⟩ := of_all_bits h
  rw [gotSps, pSps_back hs h1]
  simp only
  rw [if_pos h2, if_pos hs]

theorem gotSps_forth {f : Nat → Bool} {T : Nat} {s : SpsN} (h : gotSps f T = (s, 0)) : s.may ∧ win f 0 T = trailed (spsB s) := by
  unfold gotSps at h
  split at h
  · simp at h
  · simp at h
  · rename_i s' q hp
    split at h
    · rename_i ht
      split at h
      · rename_i hm
        simp only [Prod.mk.injEq, and_true] at h
        subst h
        exact ⟨hm, all_bits (pSps_forth hp) ht⟩
      · simp at h
    · simp at h

theorem gotPps_back {f : Nat → Bool} {T : Nat} {s : PpsN} (hs : s.may) (h : win f 0 T = trailed (ppsB s)) : gotPps f T = (s, 0) := by
  obtain ⟨h1, h2⟩ := of_all_bits h
  rw [gotPps, pPps_back hs h1]
  simp only
  rw [if_pos h2, if_pos hs]

theorem gotPps_forth {f : Nat → Bool} {T : Nat} {s : PpsN} (h : gotPps f T = (s, 0)) : s.may ∧ win f 0 T = trailed (ppsB s) := by
  unfold gotPps at h
  split at h
  · simp at h
  · rename_i s' q hp
    split at h
    · rename_i ht
      split at h
      · rename_i hm
        simp only [Prod.mk.injEq, and_true] at h
        subst h
        exact ⟨hm, all_bits (pPps_forth hp) ht⟩
      · simp at h
    · simp at h

/-! ### Bytes and their bits -/

theorem nums_getD (s : ByteArray) (i : Nat) : (nums s).getD i 0 = byteAt s i := by
  unfold byteAt
  by_cases h : i < s.size
  · rw [dif_pos h, List.getD_eq_getElem?_getD, List.getElem?_eq_getElem (by rw [nums_length]; exact h)]
    simp [nums]
    rfl
  · rw [dif_neg h, List.getD_eq_getElem?_getD, List.getElem?_eq_none (by rw [nums_length]; omega)]; rfl

theorem flat_nums (s : ByteArray) : flat (nums s) = win (bitAt s) 0 (8 * s.size) := by
  apply List.ext_getElem?
  intro i
  by_cases h : i < 8 * s.size
  · rw [flat_get _ _ (by rw [nums_length]; exact h), win_get _ _ _ _ h, nums_getD, Nat.zero_add, bitAt]
  · rw [List.getElem?_eq_none (by rw [flat_length, nums_length]; omega), List.getElem?_eq_none (by rw [win_length]; omega)]

theorem packB_nums (s : ByteArray) : packB (win (bitAt s) 0 (8 * s.size)) = nums s := by
  have := packB_flat (nums s) (nums_lt s) []
  rw [List.append_nil, flat_nums] at this
  rw [this]
  simp [packB]

theorem trailed_length (l : List Bool) : (trailed l).length = l.length / 8 * 8 + 8 := by rw [trailed, List.length_append, trailB_length]; omega

/-- The bits of bytes that are packed of these bits and their trail. -/
theorem win_nums {s : ByteArray} {l : List Bool} (h : nums s = packB (trailed l)) : win (bitAt s) 0 (8 * s.size) = trailed l := by
  rw [← flat_nums, h, flat_packB, trailed_length]
  have : (8 - (l.length / 8 * 8 + 8) % 8) % 8 = 0 := by omega
  rw [this]; simp

/-- There and back. -/
theorem sps_there {t : ByteArray} {s : SpsN} (hs : s.may) (h : nums t = packB (trailed (spsB s))) : gotSps (bitAt t) (8 * t.size) = (s, 0) := gotSps_back hs (win_nums h)
theorem pps_there {t : ByteArray} {s : PpsN} (hs : s.may) (h : nums t = packB (trailed (ppsB s))) : gotPps (bitAt t) (8 * t.size) = (s, 0) := gotPps_back hs (win_nums h)
theorem sps_again {t : ByteArray} {s : SpsN} (h : gotSps (bitAt t) (8 * t.size) = (s, 0)) : s.may ∧ nums t = packB (trailed (spsB s)) := by
  obtain ⟨h1, h2⟩ := gotSps_forth h
  exact ⟨h1, by rw [← h2, packB_nums]⟩
theorem pps_again {t : ByteArray} {s : PpsN} (h : gotPps (bitAt t) (8 * t.size) = (s, 0)) : s.may ∧ nums t = packB (trailed (ppsB s)) := by
  obtain ⟨h1, h2⟩ := gotPps_forth h
  exact ⟨h1, by rw [← h2, packB_nums]⟩

end Zp
