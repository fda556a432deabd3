/- The walks of the laws BitsTrails, BitsLengths. -/
import Derived.Test.YtadfgadkihlmcaaLawsA
namespace Go.Proofs.Ytadfgadkihlmcaa
open Go.RowKit Zo

theorem bytes_numsF (l : List Nat) (h : ∀ x ∈ l, x < 256) (i : Nat) : byteAt (bstr l) i = l.getD i 0 := by
  unfold byteAt
  by_cases hi : i < l.length
  · rw [dif_pos (by rw [bstr_size]; exact hi)]
    have := h l[i] (List.getElem_mem hi)
    simp [bstr, ByteArray.getElem_eq_getElem_data, hi]
    omega
  · rw [dif_neg (by rw [bstr_size]; exact hi)]
    simp [hi]

theorem bitAt_bstr (l : List Nat) (h : ∀ x ∈ l, x < 256) (i : Nat) : bitAt (bstr l) i = (flat l).getD i false := by
  unfold bitAt
  rw [bytes_numsF l h]
  by_cases hi : i < 8 * l.length
  · rw [List.getD_eq_getElem?_getD (l := flat l), flat_get l i hi]; rfl
  · rw [List.getD_eq_getElem?_getD (l := flat l), List.getElem?_eq_none (l := flat l) (by rw [flat_length]; omega)]
    rw [List.getD_eq_getElem?_getD, List.getElem?_eq_none (by omega)]
    simp

/-- The bits of the string that bits make: these, then noughts. -/
theorem bitAt_pack (l : List Bool) (i : Nat) : bitAt (bstr (packB l)) i = l.getD i false := by
  rw [bitAt_bstr _ (packB_lt l), flat_packB]
  simp only [List.getD_eq_getElem?_getD]
  by_cases hi : i < l.length
  · rw [List.getElem?_append_left hi]
  · rw [List.getElem?_append_right (by omega), List.getElem?_eq_none (l := l) (by omega), List.getElem?_replicate]
    split <;> rfl

theorem size_pack (l : List Bool) : (bstr (packB l)).size = (l.length + 7) / 8 := by rw [bstr_size, packB_length]

/-- Behind a Trail: whole bytes, and where the last 1 is. -/
theorem past_trail (l : List Bool) : IsPast (bitAt (bstr (packB (l ++ trailB l.length)))) (8 * (bstr (packB (l ++ trailB l.length))).size) (l.length + 1) := by
  have ht : (l ++ trailB l.length).length = l.length + 1 + (7 - l.length % 8) := by simp [trailB]; omega
  refine ⟨by rw [size_pack, ht]; omega, fun i hi => ?_, fun _ => ?_⟩
  · rw [bitAt_pack, List.getD_eq_getElem?_getD, List.getElem?_append_right (by omega)]
    rw [trailB, show i - l.length = (i - l.length - 1) + 1 from by omega, List.getElem?_cons_succ, List.getElem?_replicate]
    split <;> rfl
  · rw [bitAt_pack, List.getD_eq_getElem?_getD, List.getElem?_append_right (by omega)]
    simp [trailB]

theorem trail_size (l : List Bool) : 8 * (bstr (packB (l ++ trailB l.length))).size = l.length + 1 + (7 - l.length % 8) := by
  have ht : (l ++ trailB l.length).length = l.length + 1 + (7 - l.length % 8) := by simp [trailB]; omega
  rw [size_pack, ht]; omega

/-- A Writer that lies wholly below block U. -/
def WrIn (w : World) (B U b : Nat) (bits : List Bool) : Prop := ∃ o, Wr w B b o bits ∧ b < U ∧ ∀ k, o = some k → k < U

theorem WrE.into {w : World} {B b : Nat} {bits : List Bool} (h : WrE w B b bits) : WrIn w B w.heap.size b bits := by
  obtain ⟨o, h⟩ := h
  obtain ⟨⟨_, h1⟩, _, h2⟩ := h.row
  exact ⟨o, h, row_lt h1, fun k e => by obtain ⟨_, _, h3⟩ := h2 k e; exact row_lt h3⟩

theorem WrIn.out {w : World} {B U b : Nat} {bits : List Bool} (h : WrIn w B U b bits) : WrE w B b bits := by obtain ⟨o, h, _⟩ := h; exact ⟨o, h⟩

/-- .. stays what it is while what is written lies from U on. -/
theorem WrIn.below {w w' : World} {B U b : Nat} {bits : List Bool} (h : WrIn w B U b bits) (hb : Below U w w') : WrIn w' B U b bits := by
  obtain ⟨o, h, h1, h2⟩ := h
  exact ⟨o, h.fr (S := fun k => U ≤ k) ⟨hb.os, hb.tape, hb.output, hb.size, fun k _ hn => hb.block k (by omega)⟩ (fun k hk e => by
    rcases hk with rfl | ho
    · omega
    · have := h2 k ho; omega), h1, h2⟩

theorem bitLen_eq (x d : Nat) (h1 : 2 ^ d ≤ x) (h2 : x < 2 ^ (d + 1)) (hd : d < 64) : Lib.bitLen x = d + 1 := by
  have hx : x < 18446744073709551616 := Nat.lt_of_lt_of_le h2 (Nat.pow_le_pow_right (by omega) (show d + 1 ≤ 64 by omega))
  have hp := Nat.two_pow_pos d
  obtain ⟨a1, a2, a3, _⟩ := Zo.bitLen_spec x hx (by omega)
  have hle := Zo.bitLen_le x (d + 1) h2 (by omega)
  by_cases h : Lib.bitLen x ≤ d
  · have : 2 ^ Lib.bitLen x ≤ 2 ^ d := Nat.pow_le_pow_right (by omega) h
    omega
  · omega

theorem half_step (y d x : Nat) (h1 : y * 2 ^ d ≤ x) (h2 : x < (y + 1) * 2 ^ d) : y / 2 * 2 ^ (d + 1) ≤ x ∧ x < (y / 2 + 1) * 2 ^ (d + 1) := by
  rw [Nat.pow_succ, ← Nat.mul_assoc, ← Nat.mul_assoc, Nat.mul_right_comm, Nat.mul_right_comm (y / 2 + 1)]
  have a : y / 2 * 2 ≤ y := by omega
  have b : y + 1 ≤ (y / 2 + 1) * 2 := by omega
  exact ⟨Nat.le_trans (Nat.mul_le_mul_right _ a) h1, Nat.lt_of_lt_of_le h2 (Nat.mul_le_mul_right _ b)⟩

end Go.Proofs.Ytadfgadkihlmcaa
