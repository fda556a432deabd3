/- Bytes out of bits, a bit at a time. Plain mathematics. -/
import Derived.Test.YtadfgadkihlmcaaM
namespace Zo

theorem val8 (a b c d e f g h : Bool) : val [a, b, c, d, e, f, g, h] = a.toNat * 128 + b.toNat * 64 + c.toNat * 32 + d.toNat * 16 + e.toNat * 8 + f.toNat * 4 + g.toNat * 2 + h.toNat := by
  simp [val]; omega

theorem or8 : ∀ (a b c d e f g h : Bool) (i : Fin 8), [a, b, c, d, e, f, g, h][i.val]? = some false →
    val ([a, b, c, d, e, f, g, h].set i.val true) = (val [a, b, c, d, e, f, g, h] ||| 128 >>> i.val) := by decide +kernel

theorem packB_set (l : List Bool) (T : Nat) (hT : l.length = 8 * T) (i : Nat) (hi : l[i]? = some false) :
    packB (l.set i true) = (packB l).set (i / 8) ((packB l).getD (i / 8) 0 ||| 128 >>> (i % 8)) := by
  induction T generalizing l i with
  | zero => obtain rfl : l = [] := List.eq_nil_of_length_eq_zero (by omega); simp at hi
  | succ T ih =>
    match l, hT with
    | a :: b :: c :: d :: e :: f :: g :: h :: t, hT =>
      have ht : t.length = 8 * T := by simp at hT; omega
      by_cases h8 : i < 8
      · have e0 : (a :: b :: c :: d :: e :: f :: g :: h :: t).set i true = [a, b, c, d, e, f, g, h].set i true ++ t := by
          rw [show a :: b :: c :: d :: e :: f :: g :: h :: t = [a, b, c, d, e, f, g, h] ++ t from rfl, List.set_append_left _ _ (by simpa using h8)]
        have hi' : [a, b, c, d, e, f, g, h][i]? = some false := by
          rw [show a :: b :: c :: d :: e :: f :: g :: h :: t = [a, b, c, d, e, f, g, h] ++ t from rfl, List.getElem?_append_left (by simpa using h8)] at hi
          exact hi
        rw [e0, packB_chunk _ _ (by simp), or8 a b c d e f g h ⟨i, h8⟩ hi', show i / 8 = 0 from by omega, show i % 8 = i from by omega]
        rfl
      · obtain ⟨j, rfl⟩ : ∃ j, i = j + 8 := ⟨i - 8, by omega⟩
        have e0 : (a :: b :: c :: d :: e :: f :: g :: h :: t).set (j + 8) true = a :: b :: c :: d :: e :: f :: g :: h :: t.set j true := rfl
        rw [e0, show packB (a :: b :: c :: d :: e :: f :: g :: h :: t.set j true) = val [a, b, c, d, e, f, g, h] :: packB (t.set j true) from rfl,
          show packB (a :: b :: c :: d :: e :: f :: g :: h :: t) = val [a, b, c, d, e, f, g, h] :: packB t from rfl,
          ih t ht j (by simpa using hi), show (j + 8) / 8 = j / 8 + 1 from by omega, show (j + 8) % 8 = j % 8 from by omega]
        rfl

/-- The bytes of the first i bits, with noughts up to T bytes. -/
def packTo (l : List Bool) (T i : Nat) : List Nat := packB (l.take i ++ List.replicate (8 * T - i) false)

theorem packB_zeros (T : Nat) : packB (List.replicate (8 * T) false) = List.replicate T 0 := by
  induction T with
  | zero => rfl
  | succ T ih =>
    rw [Nat.mul_add, Nat.add_comm, ← List.replicate_append_replicate, packB_chunk _ _ (by simp), ih, val_replicate]
    rfl

theorem packTo_zero (l : List Bool) (T : Nat) : packTo l T 0 = List.replicate T 0 := by
  rw [packTo, List.take_zero, List.nil_append, Nat.sub_zero, packB_zeros]

theorem packB_pad (l : List Bool) : packB (l ++ List.replicate ((8 - l.length % 8) % 8) false) = packB l := by
  refine chunk_ind (P := fun l => packB (l ++ List.replicate ((8 - l.length % 8) % 8) false) = packB l) ?_ ?_ l
  · intro l hl
    by_cases h0 : l = []
    · subst h0; rfl
    · have hp : 0 < l.length := by cases l <;> simp_all
      rw [show (8 - l.length % 8) % 8 = 8 - l.length from by omega, packB_short l hl h0]
      have := packB_chunk (l ++ List.replicate (8 - l.length) false) [] (by simp; omega)
      rw [List.append_nil] at this
      exact this
  · intro l t hl ih
    rw [List.append_assoc, packB_chunk l _ hl, packB_chunk l t hl, List.length_append, hl, show (8 + t.length) % 8 = t.length % 8 from by omega, ih]

theorem packTo_all (l : List Bool) : packTo l ((l.length + 7) / 8) l.length = packB l := by
  rw [packTo, List.take_length, ← packB_pad l]
  congr 3
  omega

theorem packTo_length (l : List Bool) (T i : Nat) (hi : i ≤ l.length) (hT : i ≤ 8 * T) : (packTo l T i).length = T := by
  rw [packTo, packB_length]; simp; omega

theorem packTo_no (l : List Bool) (T i : Nat) (hi : l[i]? = some false) (hT : i < 8 * T) : packTo l T (i + 1) = packTo l T i := by
  have hl : i < l.length := by
    rcases Nat.lt_or_ge i l.length with h | h
    · exact h
    · rw [List.getElem?_eq_none h] at hi; cases hi
  unfold packTo
  congr 1
  rw [List.take_succ_eq_append_getElem hl]
  rw [List.getElem?_eq_getElem hl] at hi
  rw [Option.some.inj hi, List.append_assoc, List.singleton_append, show 8 * T - i = (8 * T - (i + 1)) + 1 from by omega, List.replicate_succ]

theorem packTo_yes (l : List Bool) (T i : Nat) (hi : l[i]? = some true) (hT : i < 8 * T) :
    packTo l T (i + 1) = (packTo l T i).set (i / 8) ((packTo l T i).getD (i / 8) 0 ||| 128 >>> (i % 8)) := by
  have hl : i < l.length := by
    rcases Nat.lt_or_ge i l.length with h | h
    · exact h
    · rw [List.getElem?_eq_none h] at hi; cases hi
  have htk : (l.take i).length = i := by simp; omega
  unfold packTo
  rw [← packB_set _ T (by simp; omega) i (by rw [List.getElem?_append_right (by omega), htk, Nat.sub_self, List.getElem?_replicate, if_pos (by omega)])]
  congr 1
  rw [List.take_succ_eq_append_getElem hl]
  rw [List.getElem?_eq_getElem hl] at hi
  rw [Option.some.inj hi, List.append_assoc, List.singleton_append, show 8 * T - i = (8 * T - (i + 1)) + 1 from by omega, List.replicate_succ]
  rw [List.set_append_right _ _ (by omega), htk, Nat.sub_self]
  rfl

end Zo
