/- The law BitsReads at every input of bounded size. -/
import Derived.Test.YtlddankieinkoaaAA
namespace Go.Proofs.Ytlddankieinkoaa
open Go.RowKit Zo

set_option maxRecDepth 100000 in
theorem reads_empty (s : ByteArray) (hs : s.size ≤ 1048576) (a : Option Addr) (cap : Nat) (w : World) :
    Calls Try.prog 4 #[.string s, .slice a 0 cap] w fun e w' => e = .returned (.bool true) ∧ Below w.heap.size w w' := by
  go_enter Try.func4, Try.ntmps4
  go_wp2_with fail
  refine (open_any s _ _ (Nat.le_refl _) (by omega)).mono ?_
  rintro e w1 ⟨rfl, h1, f1, z1⟩
  have bl1 : Below w.heap.size w w1 := f1.below (Nat.le_refl _) (fun _ h => h.elim)
  have s1 := bl1.size
  clear z1
  go_wp2_with fail
  refine (openRef_any s _ hs).mono ?_
  rintro e w2 ⟨v, rfl, g, capg, rfl, _, _, _, bl2⟩
  have bl3 := bl1.trans (bl2.mono s1)
  have s3 := bl3.size
  go_wp2_with fail
  refine wp_loop_rounds 1 ?_
  rw [rounds_succ]
  go_wp2_with fail
  refine (awake_any _ w.heap.size (by simp; omega)).mono ?_
  rintro e w3 ⟨rfl, b3⟩
  go_wp2_with fail
  go_ret
  exact ⟨rfl, (bl3.alloc s3 _).trans b3⟩

theorem bitsReads_walk {H : Type} {enc : TypeId × Value → H} (s : ByteArray) (a : Option Addr) (len cap : Nat) {d : DataW H} {p : List MemPlace} {W : World} (hs : s.size ≤ 1048576)
    (h : DataW.Trod enc Try.prog W 0 (fun _ => true) true 22 (.slice a len cap) d p) :
    Calls Try.prog 4 #[.string s, .slice a len cap] W fun e w' => e = .returned (.bool true) ∧ Below W.heap.size W w' := by
  by_cases h0 : len = 0
  · subst h0; exact reads_empty s hs a cap W
  · obtain ⟨b, off, f, rfl, h1, h2⟩ := acts_open h (by omega)
    exact reads_some s b off len cap f W hs h1 h2
end Go.Proofs.Ytlddankieinkoaa
