/- The bits' Writer: its length and its bytes. -/
import Derived.Test.YtadfgadkihlmcaaC
namespace Go.Proofs.Ytadfgadkihlmcaa
open Go.RowKit Zo

/-- Bytes as a string. -/
def bstr (l : List Nat) : ByteArray := ⟨⟨l.map UInt8.ofNat⟩⟩

theorem bstr_append (a b : List Nat) : bstr a ++ bstr b = bstr (a ++ b) := by
  apply ByteArray.ext
  simp [bstr]

theorem bstr_size (a : List Nat) : (bstr a).size = a.length := by simp [bstr, ByteArray.size]

theorem conv_bytes (w : World) (base : Nat) (v : Value) (bytes : List Nat) (hown : w.ownsRow base 5 1 v bytes.length (u8s bytes)) (h256 : ∀ x ∈ bytes, x < 256) :
    (convert 56 9 v).run Try.prog w = .ok (.string (bstr bytes)) w := by
  rcases hown.2 with ⟨rfl, h0⟩ | ⟨g, cap, cur, rfl, _, hg, _, _, _, htake⟩
  · obtain rfl : bytes = [] := List.eq_nil_of_length_eq_zero h0
    exact Lib.run_convert_nil_bytes w _ _ _ 0 Try.underlying56 Try.underlying5 Try.underlying9
  · have hc : Lib.Bytes w g 0 (bstr bytes) := by
      intro i hi
      rw [bstr_size] at hi
      rw [Nat.zero_add, cell_of_row w g i _ _ _ hg]
      have h1 : (u8s bytes)[i]? = some (.int .u8 ((bytes[i] : Nat) : Int)) := by simp [u8s, hi]
      rw [← htake, List.getElem?_take] at h1
      split at h1
      · rw [← Array.getElem?_toList, h1]
        have := h256 bytes[i] (List.getElem_mem hi)
        simp [bstr, ByteArray.getElem_eq_getElem_data]
        omega
      · cases h1
    have := Lib.run_convert_whole w _ _ _ Try.underlying56 Try.underlying5 Try.underlying9 g 0 (bstr bytes) hc cap
    rwa [bstr_size] at this

theorem conv_one (w : World) (g : Nat) (x : Int) {n : Nat} (hg : w.heap[g]? = some (.cells #[.int .u8 x] 5 (0, 0))) (hx : x = (n : Int)) (hn : n < 256) :
    (convert 56 9 (.slice (some ⟨g, 0, none⟩) 1 1)).run Try.prog w = .ok (.string (bstr [n])) w := by
  have hc : Lib.Bytes w g 0 (bstr [n]) := by
    intro i hi
    rw [bstr_size] at hi
    obtain rfl : i = 0 := by simpa using hi
    rw [Nat.zero_add, cell_of_row w g 0 _ _ _ hg, hx]
    simp [bstr, ByteArray.getElem_eq_getElem_data]
    omega
  exact Lib.run_convert_whole w _ _ _ Try.underlying56 Try.underlying5 Try.underlying9 g 0 (bstr [n]) hc 1

theorem Wr.drewN {w : World} {base b : Nat} {o : Option Nat} {bits : List Bool} (h : Wr w base b o bits) (n : Nat) : Wr (w.drewN n) base b o bits := h

theorem WPost.drewN {w w' : World} {base b : Nat} {o : Option Nat} {bits : List Bool} (h : WPost w base b o bits w') (n : Nat) : WPost w base b o bits (w'.drewN n) := by
  obtain ⟨o', h1, h2, h3⟩ := h
  exact ⟨o', h1, ⟨h2.os, h2.tape, h2.output, h2.size, h2.block⟩, h3⟩

theorem Wr.fr {S : Nat → Prop} {w w' : World} {base b : Nat} {o : Option Nat} {bits : List Bool} (h : Wr w base b o bits) (f : Fr S w w') (hS : ∀ k, wsel b o k → ¬ S k) : Wr w' base b o bits := by
  obtain ⟨bytes, k, r, ⟨c, v, hrow, hbb, hv, hown, h256⟩, hk⟩ := h
  refine ⟨bytes, k, r, ⟨c, v, (f.block b (row_lt hrow) (hS b (.inl rfl))).trans hrow, hbb, hv, ownsRow_fr hown f (fun i e => hS i (.inr (by rw [← hv, e]))), h256⟩, hk⟩

theorem WPost.alloc {w w' : World} {base b : Nat} {o : Option Nat} {bits : List Bool} (h : WPost w base b o bits w') (x : Obj) : WPost w base b o bits (w'.alloc x) := by
  obtain ⟨o', h1, h2, h3⟩ := h
  exact ⟨o', h1.fr (S := fun _ => False) ((Fr.refl _ _).alloc x) (fun _ _ h => h), h2.alloc x, h3⟩

theorem WPost.drew {w w' : World} {base b : Nat} {o : Option Nat} {bits : List Bool} (h : WPost w base b o bits w') : WPost w base b o bits w'.drew := h.drewN 1

set_option maxRecDepth 100000 in
theorem bytes_any (w : World) (base b : Nat) (o : Option Nat) (bits : List Bool) (h : Wr w base b o bits) (hb : bits.length ≤ 100000000000) :
    Calls Try.prog 33 #[.pointer (some ⟨b, 0, none⟩)] w fun e w' => e = .returned (.string (bstr (packB bits))) ∧ WPost w base b o bits w' := by
  go_enter Try.func33, Try.ntmps33
  go_wp2_with fail
  refine (count_wr _ base b o bits h).mono ?_
  rintro e w1 ⟨rfl, h1, f1⟩
  have P := Lib.hid (count_post h1 f1)
  obtain ⟨bytes, k, r, ⟨c, v, hrow, _, _, hown, h256⟩, hk, hr, hh⟩ := h1
  have hp : packB bits = bytes ++ if k = 0 then [] else [(r <<< (8 - k)) % 256] := by rw [← hh]; exact packB_held bytes k r h256 hk hr
  have HP := Lib.hid hp
  have hcv := conv_bytes w1 base v bytes hown h256
  have c1 := cell_of_row w1 b 1 _ _ _ hrow
  have c2 := cell_of_row w1 b 2 _ _ _ hrow
  have c3 := cell_of_row w1 b 3 _ _ _ hrow
  simp at c1 c2 c3
  clear hrow hh hown hp
  by_cases h0 : k = 0
  · subst h0
    go_wp2_with fail
    go_ret
    refine ⟨by rw [HP.out]; simp, P.out⟩
  · have h0' : 0 < k := by omega
    have hr7 : r < 128 := by have : 2 ^ k ≤ 2 ^ 7 := Nat.pow_le_pow_right (by omega) hk; omega
    have hx : IntKind.u64.wrap ((r : Int) * 2 ^ (8 - k)) % 256 = (((r <<< (8 - k)) % 256 : Nat) : Int) := by
      have h2 : (2 : Nat) ^ (8 - k) ≤ 2 ^ 8 := Nat.pow_le_pow_right (by omega) (by omega)
      have h3 : r * 2 ^ (8 - k) ≤ 128 * 2 ^ 8 := Nat.mul_le_mul (by omega) h2
      have e : ((r : Int) * 2 ^ (8 - k)) = ((r * 2 ^ (8 - k) : Nat) : Int) := by rw [Int.natCast_mul, Int.natCast_pow]; rfl
      rw [e, wrap_u64_nat _ (by omega), Nat.shiftLeft_eq, Int.natCast_emod]
      rfl
    have kc := conv_one (w1.alloc (.cells #[.int .u8 (IntKind.u64.wrap ((r : Int) * 2 ^ (8 - k)) % 256)] 5)).drew _ _ (heap_alloc_last w1 _) hx (Nat.mod_lt _ (by omega))
    have hsz : (bstr bytes).size ≤ 1000000000000 := by rw [bstr_size]; have := held_length bytes k r; have hl : (packB bits).length = bytes.length + 1 := by rw [HP.out, if_neg h0]; simp
                                                       rw [packB_length] at hl; omega
    have hsz1 : (bstr [(r <<< (8 - k)) % 256]).size = 1 := rfl
    have HX := Lib.hid hx
    clear hx
    go_wp2_with fail
    go_region
    all_goals
      go_wp2
      go_ret
      have e : bstr (packB bits) = bstr bytes ++ bstr [(r <<< (8 - k)) % 256] := by rw [HP.out, if_neg h0, bstr_append]
      exact ⟨by rw [e]; rfl, (P.out.alloc _).drew⟩
end Go.Proofs.Ytadfgadkihlmcaa
