/- What these laws need besides. -/
import Derived.Test.YthcbgijmnonckaaGreatKF
import Derived.Below
import Derived.Deep.AppendLies
import Derived.Laws.BitsAllLaws
import Derived.Lib.Hide
import Derived.WalkKit





namespace Zo
open Go Go.RowKit

theorem and_mask_i64 (x : Int) (k : Nat) (hk : k ≤ 62) : bits .and .i64 x ((2 ^ k - 1 : Nat) : Int) = x % ((2 ^ k : Nat) : Int) := by
  have hp := Nat.two_pow_pos k
  have hle : 2 ^ k ≤ 2 ^ 62 := Nat.pow_le_pow_right (by omega) hk
  have e62 : (2 : Nat) ^ 62 = 4611686018427387904 := by decide
  have h1 : (BitVec.ofInt 64 x &&& BitVec.ofInt 64 ((2 ^ k - 1 : Nat) : Int)).toNat = (x % 18446744073709551616).toNat % 2 ^ k := by
    rw [BitVec.toNat_and, BitVec.toNat_ofInt, ofInt_u64 _ (by omega), Nat.and_two_pow_sub_one_eq_mod, show ((2 ^ 64 : Nat) : Int) = 18446744073709551616 from by decide]
  have h2 : ((x % 18446744073709551616).toNat % 2 ^ k : Nat) = ((x % ((2 ^ k : Nat) : Int)).toNat) := by
    have hd : ((2 ^ k : Nat) : Int) ∣ 18446744073709551616 := by
      refine ⟨((2 ^ (64 - k) : Nat) : Int), ?_⟩
      rw [← Int.natCast_mul, ← Nat.pow_add, show k + (64 - k) = 64 from by omega]
      decide
    have := Int.emod_emod_of_dvd x hd
    have h0 := Int.emod_nonneg x (show (18446744073709551616 : Int) ≠ 0 by decide)
    generalize x % 18446744073709551616 = y at *
    obtain ⟨n, rfl⟩ := Int.eq_ofNat_of_zero_le h0
    rw [← this, ← Int.natCast_emod, Int.toNat_natCast, Int.toNat_natCast]
  have h3 := Int.emod_nonneg x (show ((2 ^ k : Nat) : Int) ≠ 0 by omega)
  have h4 := Int.emod_lt_of_pos x (show (0 : Int) < ((2 ^ k : Nat) : Int) by omega)
  unfold bits
  show IntKind.i64.wrap ((BitVec.ofInt 64 x &&& BitVec.ofInt 64 ((2 ^ k - 1 : Nat) : Int)).toNat : Int) = _
  rw [h1, h2]
  rw [IntWalk.i64_in _ (by omega)]
  omega

end Zo
