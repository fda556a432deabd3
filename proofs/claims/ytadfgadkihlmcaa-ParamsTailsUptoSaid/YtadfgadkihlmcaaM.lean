/- Bits as lists: the binary digits of a number, the highest first, and what a writer of bits holds. Plain mathematics: no program is named here. -/
import Derived.Lib.BitFns
namespace Zo

/-- x in k binary digits. -/
def digs (k x : Nat) : List Bool := (List.range k).map fun i => x.testBit (k - 1 - i)

theorem digs_length (k x : Nat) : (digs k x).length = k := by simp [digs]

theorem digs_get (k x i : Nat) (h : i < k) : (digs k x)[i]? = some (x.testBit (k - 1 - i)) := by
  simp [digs, h]

theorem digs_ext {k x y : Nat} (h : ∀ j, j < k → x.testBit j = y.testBit j) : digs k x = digs k y := by
  unfold digs
  apply List.map_congr_left
  intro i hi
  simp at hi
  exact h _ (by omega)

theorem digs_add (a b x : Nat) : digs (a + b) x = digs a (x >>> b) ++ digs b x := by
  apply List.ext_getElem?
  intro i
  by_cases h : i < a
  · rw [digs_get _ _ _ (by omega), List.getElem?_append_left (by simpa [digs_length] using h), digs_get _ _ _ h, Nat.testBit_shiftRight]
    congr 2; omega
  · by_cases h2 : i < a + b
    · rw [digs_get _ _ _ h2, List.getElem?_append_right (by simpa [digs_length] using h), digs_length, digs_get _ _ _ (by omega)]
      congr 2; omega
    · rw [List.getElem?_eq_none (by simp [digs_length]; omega), List.getElem?_eq_none (by simp [digs_length]; omega)]

theorem digs_mod (k x : Nat) : digs k (x % 2 ^ k) = digs k x := by
  apply digs_ext
  intro j hj
  rw [Nat.testBit_mod_two_pow]
  simp [hj]

theorem digs_zero (x : Nat) : digs 0 x = [] := rfl

theorem digs_of_zero (k : Nat) : digs k 0 = List.replicate k false := by
  apply List.ext_getElem?
  intro i
  by_cases h : i < k
  · rw [digs_get _ _ _ h, List.getElem?_replicate]; simp [h]
  · rw [List.getElem?_eq_none (by simp [digs_length]; omega), List.getElem?_eq_none (by simp; omega)]

theorem digs_or (h n r x : Nat) (hx : x < 2 ^ n) : digs (h + n) (r <<< n ||| x) = digs h r ++ digs n x := by
  rw [digs_add]
  congr 1
  · apply digs_ext
    intro j hj
    rw [Nat.testBit_shiftRight, Nat.testBit_or, Nat.testBit_shiftLeft, Nat.testBit_lt_two_pow (x := x) (i := n + j) (Nat.lt_of_lt_of_le hx (Nat.pow_le_pow_right (by omega) (by omega)))]
    simp
  · apply digs_ext
    intro j hj
    rw [Nat.testBit_or, Nat.testBit_shiftLeft]
    simp; omega

theorem digs_succ (k x : Nat) : digs (k + 1) x = digs k (x / 2) ++ [decide (x % 2 = 1)] := by
  rw [digs_add k 1 x, show x >>> 1 = x / 2 from by rw [Nat.shiftRight_eq_div_pow]]
  congr 1
  simp [digs, Nat.testBit_zero]

/-- The number that digits are. -/
def val (l : List Bool) : Nat := l.foldl (fun a b => 2 * a + b.toNat) 0

theorem foldl_val (l : List Bool) (a : Nat) : l.foldl (fun a b => 2 * a + b.toNat) a = a * 2 ^ l.length + val l := by
  induction l generalizing a with
  | nil => simp [val]
  | cons b l ih =>
    unfold val
    rw [List.foldl_cons, List.foldl_cons, ih, ih]
    simp only [List.length_cons, Nat.pow_succ]
    rw [Nat.add_mul, Nat.add_mul, Nat.mul_comm 2 a, Nat.mul_assoc a 2, Nat.mul_comm 2 (2 ^ l.length)]
    omega

theorem val_append (l m : List Bool) : val (l ++ m) = val l * 2 ^ m.length + val m := by
  unfold val
  rw [List.foldl_append, foldl_val]
  rfl

theorem val_nil : val [] = 0 := rfl
theorem val_single (b : Bool) : val [b] = b.toNat := by simp [val]
theorem val_cons (b : Bool) (l : List Bool) : val (b :: l) = b.toNat * 2 ^ l.length + val l := by
  have := val_append [b] l
  rwa [val_single] at this

theorem val_lt (l : List Bool) : val l < 2 ^ l.length := by
  induction l with
  | nil => simp [val]
  | cons b l ih =>
    rw [val_cons, List.length_cons, Nat.pow_succ]
    cases b <;> simp <;> omega

theorem val_digs (k x : Nat) : val (digs k x) = x % 2 ^ k := by
  induction k generalizing x with
  | zero => simp [digs_zero, val_nil, Nat.mod_one]
  | succ k ih =>
    rw [digs_succ, val_append, ih, val_single]
    simp only [List.length_singleton, Nat.pow_one]
    rw [Nat.pow_succ, Nat.mul_comm (2 ^ k) 2, Nat.mod_mul]
    have : (decide (x % 2 = 1)).toNat = x % 2 := by
      rcases Nat.mod_two_eq_zero_or_one x with h | h <;> simp [h]
    omega

theorem digs_cons (k x : Nat) : digs (k + 1) x = x.testBit k :: digs k x := by
  rw [Nat.add_comm k 1, digs_add 1 k x]
  simp [digs]

theorem digs_val (l : List Bool) : digs l.length (val l) = l := by
  induction l with
  | nil => rfl
  | cons b l ih =>
    rw [List.length_cons, digs_cons, val_cons]
    have hl := val_lt l
    have h1 : (b.toNat * 2 ^ l.length + val l).testBit l.length = b := by
      rw [Nat.testBit_eq_decide_div_mod_eq, Nat.mul_comm, Nat.mul_add_div (Nat.two_pow_pos _), Nat.div_eq_of_lt hl]
      cases b <;> simp
    have h2 : digs l.length (b.toNat * 2 ^ l.length + val l) = l := by
      rw [← digs_mod, Nat.add_comm, Nat.add_mul_mod_self_right, digs_mod, ih]
    rw [h1, h2]

theorem val_inj {l m : List Bool} (hl : l.length = m.length) (h : val l = val m) : l = m := by
  rw [← digs_val l, ← digs_val m, hl, h]

theorem val_replicate (k : Nat) : val (List.replicate k false) = 0 := by
  rw [← digs_of_zero, val_digs]; simp

/-! ## What a writer holds: whole bytes, and bits that fill none yet -/

def flat (bytes : List Nat) : List Bool := bytes.flatMap (digs 8)

def held (bytes : List Nat) (k r : Nat) : List Bool := flat bytes ++ digs k r

theorem flat_append (a b : List Nat) : flat (a ++ b) = flat a ++ flat b := by simp [flat]
theorem flat_single (a : Nat) : flat [a] = digs 8 a := by simp [flat]
theorem flat_length (a : List Nat) : (flat a).length = 8 * a.length := by
  induction a with
  | nil => rfl
  | cons x a ih => rw [show x :: a = [x] ++ a from rfl, flat_append, flat_single, List.length_append, digs_length, ih]; simp; omega

theorem held_length (bytes : List Nat) (k r : Nat) : (held bytes k r).length = 8 * bytes.length + k := by
  simp [held, flat_length, digs_length]

theorem held_push (bytes : List Nat) (k r n x : Nat) (hx : x < 2 ^ n) : held bytes (k + n) (r <<< n ||| x) = held bytes k r ++ digs n x := by
  rw [held, digs_or _ _ _ _ hx, held, List.append_assoc]

theorem held_byte (bytes : List Nat) (k r : Nat) : held (bytes ++ [(r >>> k) % 256]) k r = held bytes (8 + k) r := by
  rw [held, held, flat_append, flat_single, digs_add 8 k r, show (256 : Nat) = 2 ^ 8 from rfl, digs_mod, List.append_assoc]

theorem held_mask (bytes : List Nat) (k r : Nat) : held bytes k (r % 2 ^ k) = held bytes k r := by
  rw [held, held, digs_mod]

/-! ## Bits as bytes, with noughts behind -/

def packB : List Bool → List Nat
  | a :: b :: c :: d :: e :: f :: g :: h :: t => val [a, b, c, d, e, f, g, h] :: packB t
  | [] => []
  | l => [val (l ++ List.replicate (8 - l.length) false)]

theorem eight {l : List Bool} (h : l.length = 8) : ∃ a b c d e f g i, l = [a, b, c, d, e, f, g, i] := by
  match l, h with
  | [a, b, c, d, e, f, g, i], _ => exact ⟨a, b, c, d, e, f, g, i, rfl⟩

theorem packB_chunk (l t : List Bool) (h : l.length = 8) : packB (l ++ t) = val l :: packB t := by
  obtain ⟨a, b, c, d, e, f, g, i, rfl⟩ := eight h
  rfl

theorem packB_short (l : List Bool) (h : l.length < 8) (h0 : l ≠ []) : packB l = [val (l ++ List.replicate (8 - l.length) false)] := by
  match l, h, h0 with
  | [_], _, _ => rfl
  | [_, _], _, _ => rfl
  | [_, _, _], _, _ => rfl
  | [_, _, _, _], _, _ => rfl
  | [_, _, _, _, _], _, _ => rfl
  | [_, _, _, _, _, _], _, _ => rfl
  | [_, _, _, _, _, _, _], _, _ => rfl

theorem packB_flat (bytes : List Nat) (hb : ∀ x ∈ bytes, x < 256) (t : List Bool) : packB (flat bytes ++ t) = bytes ++ packB t := by
  induction bytes with
  | nil => rfl
  | cons x l ih =>
    rw [show flat (x :: l) = digs 8 x ++ flat l from rfl, List.append_assoc, packB_chunk _ _ (digs_length _ _), val_digs, Nat.mod_eq_of_lt (hb x (by simp)), ih (fun y hy => hb y (by simp [hy]))]
    rfl

theorem packB_held (bytes : List Nat) (k r : Nat) (hb : ∀ x ∈ bytes, x < 256) (hk : k ≤ 7) (hr : r < 2 ^ k) :
    packB (held bytes k r) = bytes ++ if k = 0 then [] else [(r <<< (8 - k)) % 256] := by
  rw [held, packB_flat _ hb]
  congr 1
  by_cases h0 : k = 0
  · subst h0; rfl
  · rw [if_neg h0, packB_short _ (by rw [digs_length]; omega) (by intro e; have := digs_length k r; rw [e] at this; simp at this; omega)]
    rw [val_append, val_replicate, digs_length, List.length_replicate, val_digs, Nat.mod_eq_of_lt hr, Nat.shiftLeft_eq]
    have : r * 2 ^ (8 - k) < 2 ^ k * 2 ^ (8 - k) := Nat.mul_lt_mul_of_pos_right hr (Nat.two_pow_pos _)
    rw [← Nat.pow_add, show k + (8 - k) = 8 from by omega] at this
    rw [Nat.mod_eq_of_lt this, Nat.add_zero]

theorem chunk_ind {P : List Bool → Prop} (hs : ∀ l, l.length < 8 → P l) (hc : ∀ l t, l.length = 8 → P t → P (l ++ t)) (l : List Bool) : P l := by
  have h : ∀ n, ∀ l : List Bool, l.length ≤ n → P l := by
    intro n
    induction n with
    | zero => intro l hl; exact hs l (by omega)
    | succ n ih =>
      intro l hl
      by_cases h8 : l.length < 8
      · exact hs l h8
      · rw [← List.take_append_drop 8 l]
        exact hc _ _ (by simp; omega) (ih _ (by simp; omega))
  exact h l.length l (Nat.le_refl _)

theorem packB_length (l : List Bool) : (packB l).length = (l.length + 7) / 8 := by
  refine chunk_ind (P := fun l => (packB l).length = (l.length + 7) / 8) ?_ ?_ l
  · intro l hl
    by_cases h0 : l = []
    · subst h0; rfl
    · rw [packB_short l hl h0]
      have : 0 < l.length := by cases l <;> simp_all
      simp; omega
  · intro l t hl ih
    rw [packB_chunk l t hl, List.length_cons, ih, List.length_append, hl]; omega

theorem packB_lt (l : List Bool) : ∀ x ∈ packB l, x < 256 := by
  refine chunk_ind (P := fun l => ∀ x ∈ packB l, x < 256) ?_ ?_ l
  · intro l hl x hx
    by_cases h0 : l = []
    · subst h0; simp [packB] at hx
    · rw [packB_short l hl h0] at hx
      simp at hx
      have := val_lt (l ++ List.replicate (8 - l.length) false)
      rw [List.length_append, List.length_replicate, show l.length + (8 - l.length) = 8 from by omega] at this
      rw [hx]; exact this
  · intro l t hl ih x hx
    rw [packB_chunk l t hl] at hx
    rcases List.mem_cons.1 hx with h | h
    · have := val_lt l; rw [hl] at this; rw [h]; exact this
    · exact ih x h

/-- What the bytes of bits are as bits: these, and noughts up to a whole byte. -/
theorem flat_packB (l : List Bool) : flat (packB l) = l ++ List.replicate ((8 - l.length % 8) % 8) false := by
  refine chunk_ind (P := fun l => flat (packB l) = l ++ List.replicate ((8 - l.length % 8) % 8) false) ?_ ?_ l
  · intro l hl
    by_cases h0 : l = []
    · subst h0; rfl
    · have hp : 0 < l.length := by cases l <;> simp_all
      rw [packB_short l hl h0, flat_single, show (8 - l.length % 8) % 8 = 8 - l.length from by omega]
      have := digs_val (l ++ List.replicate (8 - l.length) false)
      rwa [List.length_append, List.length_replicate, show l.length + (8 - l.length) = 8 from by omega] at this
  · intro l t hl ih
    rw [packB_chunk l t hl, show flat (val l :: packB t) = digs 8 (val l) ++ flat (packB t) from rfl, ih, List.length_append, hl, show (8 + t.length) % 8 = t.length % 8 from by omega]
    have := digs_val l
    rw [hl] at this
    rw [this, List.append_assoc]

/-! ## The codes -/

def ueB (x : Nat) : List Bool := List.replicate (Go.Lib.bitLen (x + 1) - 1) false ++ digs (Go.Lib.bitLen (x + 1)) (x + 1)

def foldedN (x : Int) : Nat := if 0 < x then (2 * x - 1).toNat else (-2 * x).toNat

def seB (x : Int) : List Bool := ueB (foldedN x)

def teB (x most : Nat) : List Bool := if most = 1 then [decide (x = 0)] else ueB x

def trailB (n : Nat) : List Bool := true :: List.replicate ((7 - n % 8)) false

theorem bitLenAux_spec (f x : Nat) (hx : x < 2 ^ f) : x < 2 ^ Go.Lib.bitLenAux f x ∧ (0 < x → 2 ^ (Go.Lib.bitLenAux f x - 1) ≤ x ∧ 0 < Go.Lib.bitLenAux f x) ∧ Go.Lib.bitLenAux f x ≤ f := by
  induction f generalizing x with
  | zero => simp [Go.Lib.bitLenAux] at hx ⊢; omega
  | succ f ih =>
    unfold Go.Lib.bitLenAux
    by_cases h0 : x = 0
    · simp [h0]
    · rw [if_neg h0]
      have hx2 : x / 2 < 2 ^ f := by rw [Nat.pow_succ] at hx; omega
      obtain ⟨h1, h2, h3⟩ := ih (x / 2) hx2
      refine ⟨?_, fun _ => ⟨?_, by omega⟩, by omega⟩
      · rw [Nat.add_comm, Nat.pow_succ]; omega
      · rw [show 1 + Go.Lib.bitLenAux f (x / 2) - 1 = Go.Lib.bitLenAux f (x / 2) from by omega]
        by_cases hh : x / 2 = 0
        · rw [hh]
          cases f <;> simp [Go.Lib.bitLenAux] <;> omega
        · obtain ⟨a, b⟩ := h2 (by omega)
          obtain ⟨c, hc⟩ : ∃ c, Go.Lib.bitLenAux f (x / 2) = c + 1 := ⟨_, (Nat.succ_pred_eq_of_pos b).symm⟩
          rw [hc] at a ⊢
          rw [Nat.pow_succ]
          simp at a
          omega

/-- What 'bitLen' is. -/
theorem bitLen_spec (x : Nat) (hx : x < 18446744073709551616) (h0 : 0 < x) : 2 ^ (Go.Lib.bitLen x - 1) ≤ x ∧ x < 2 ^ Go.Lib.bitLen x ∧ 0 < Go.Lib.bitLen x ∧ Go.Lib.bitLen x ≤ 64 := by
  obtain ⟨h1, h2, h3⟩ := bitLenAux_spec 64 x hx
  exact ⟨(h2 h0).1, h1, (h2 h0).2, h3⟩

theorem bitLen_le (x k : Nat) (hx : x < 2 ^ k) (hk : k ≤ 64) : Go.Lib.bitLen x ≤ k := by
  by_cases h0 : x = 0
  · subst h0; decide +revert
  · have h64 : x < 18446744073709551616 := Nat.lt_of_lt_of_le hx (Nat.pow_le_pow_right (by omega) hk)
    obtain ⟨h1, _, h3, _⟩ := bitLen_spec x h64 (by omega)
    by_cases h : Go.Lib.bitLen x ≤ k
    · exact h
    · have : 2 ^ k ≤ 2 ^ (Go.Lib.bitLen x - 1) := Nat.pow_le_pow_right (by omega) (by omega)
      omega

theorem ueB_length (x : Nat) (hx : x ≤ 2147483646) : (ueB x).length = 2 * Go.Lib.bitLen (x + 1) - 1 ∧ (ueB x).length ≤ 61 := by
  have h1 := bitLen_le (x + 1) 31 (by omega) (by omega)
  obtain ⟨_, _, h3, _⟩ := bitLen_spec (x + 1) (by omega) (by omega)
  simp [ueB, digs_length]
  omega

end Zo
