/- The walks of the laws BitsRefuses, BitsTrails, BitsLengths. -/
import Derived.Test.YtadfgadkihlmcaaG
namespace Go.Proofs.Ytadfgadkihlmcaa
open Go.RowKit Zo

theorem two_pow_le32 (m : Nat) (hm : m ≤ 32) : 0 < (2 : Int) ^ m ∧ (2 : Int) ^ m ≤ 4294967296 ∧ (2 : Int) ^ m = ((2 ^ m : Nat) : Int) := by
  have h1 : (2 : Nat) ^ m ≤ 2 ^ 32 := Nat.pow_le_pow_right (by omega) hm
  have h2 := Nat.two_pow_pos m
  have e : (2 : Int) ^ m = ((2 ^ m : Nat) : Int) := by rw [Int.natCast_pow]; rfl
  rw [e]
  refine ⟨by omega, by omega, rfl⟩

theorem wrap64_two_pow (m : Nat) (hm : m ≤ 32) : wrap64 (2 ^ m) = 2 ^ m := by
  obtain ⟨h1, h2, _⟩ := two_pow_le32 m hm
  exact IntWalk.wrap64_in _ ⟨by omega, by omega⟩

end Go.Proofs.Ytadfgadkihlmcaa
