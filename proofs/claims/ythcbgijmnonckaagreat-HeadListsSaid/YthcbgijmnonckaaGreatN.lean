/- Bits as lists: the binary digits of a number, the highest first, and what a writer of bits holds. Plain mathematics: no program is named here. -/
import Derived.Lib.BitFns
namespace Zo

/-- x in k binary digits. -/
def digs (k x : Nat) : List Bool := (List.range k).map fun i => x.testBit (k - 1 - i)

theorem digs_length (k x : Nat) : (digs k x).length = k := by simp [digs]

theorem digs_get (k x i : Nat) (h : i < k) : (digs k x)[i]? = some (x.testBit (k - 1 - i)) := by
  simp [digs, h]

theorem digs_ext {k x y : Nat} (h : ∀ j, j < k → x.testBit j = y.testBit j) : digs k x = digs k y := by
  unfold digs
  apply List.map_congr_left
  intro i hi
  simp at hi
  exact h _ (by omega)

theorem digs_add (a b x : Nat) : digs (a + b) x = digs a (x >>> b) ++ digs b x := by
  apply List.ext_getElem?
  intro i
  by_cases h : i < a
  · rw [digs_get _ _ _ (by omega), List.getElem?_append_left (by simpa [digs_length] using h), digs_get _ _ _ h, Nat.testBit_shiftRight]
    congr 2; omega
  · by_cases h2 : i < a + b
    · rw [digs_get _ _ _ h2, List.getElem?_append_right (by simpa [digs_length] using h), digs_length, digs_get _ _ _ (by omega)]
      congr 2; omega
    · rw [List.getElem?_eq_none (by simp [digs_length]; omega), List.getElem?_eq_none (by simp [digs_length]; omega)]

theorem digs_mod (k x : Nat) : digs k (x % 2 ^ k) = digs k x := by
  apply digs_ext
  intro j hj
  rw [Nat.testBit_mod_two_pow]
  simp [hj]

theorem digs_zero (x : Nat) : digs 0 x = [] := rfl

theorem digs_of_zero (k : Nat) : digs k 0 = List.replicate k false := by
  apply List.ext_getElem?
  intro i
  by_cases h : i < k
  · rw [digs_get _ _ _ h, List.getElem?_replicate]; simp [h]
  · rw [List.getElem?_eq_none (by simp [digs_length]; omega), List.getElem?_eq_none (by simp; omega)]

theorem digs_or (h n r x : Nat) (hx : x < 2 ^ n) : digs (h + n) (r <<< n ||| x) = digs h r ++ digs n x := by
  rw [digs_add]
  congr 1
  · apply digs_ext
    intro j hj
    rw [Nat.testBit_shiftRight, Nat.testBit_or, Nat.testBit_shiftLeft, Nat.testBit_lt_two_pow (x := x) (i := n + j) (Nat.lt_of_lt_of_le hx (Nat.pow_le_pow_right (by omega) (by omega)))]
    simp
  · apply digs_ext
    intro j hj
    rw [Nat.testBit_or, Nat.testBit_shiftLeft]
    simp; omega

theorem digs_succ (k x : Nat) : digs (k + 1) x = digs k (x / 2) ++ [decide (x % 2 = 1)] := by
  rw [digs_add k 1 x, show x >>> 1 = x / 2 from by rw [Nat.shiftRight_eq_div_pow]]
  congr 1
  simp [digs, Nat.testBit_zero]

/-- The number that digits are. -/
def val (l : List Bool) : Nat := l.foldl (fun a b => 2 * a + b.toNat) 0

theorem foldl_val (l : List Bool) (a : Nat) : l.foldl (fun a b => 2 * a + b.toNat) a = a * 2 ^ l.length + val l := by
  induction l generalizing a with
  | nil => simp [val]
  | cons b l ih =>
    unfold val
    rw [List.foldl_cons, List.foldl_cons, ih, ih]
    simp only [List.length_cons, Nat.pow_succ]
    rw [Nat.add_mul, Nat.add_mul, Nat.mul_comm 2 a, Nat.mul_assoc a 2, Nat.mul_comm 2 (2 ^ l.length)]
    omega

theorem val_append (l m : List Bool) : val (l ++ m) = val l * 2 ^ m.length + val m := by
  unfold val
  rw [List.foldl_append, foldl_val]
  rfl

theorem val_nil : val [] = 0 := rfl
theorem val_single (b : Bool) : val [b] = b.toNat := by simp [val]
theorem val_cons (b : Bool) (l : List Bool) : val (b :: l) = b.toNat * 2 ^ l.length + val l := by
  have := val_append [b] l
  rwa [val_single] at this

theorem val_lt (l : List Bool) : val l < 2 ^ l.length := by
  induction l with
  | nil => simp [val]
  | cons b l ih =>
    rw [val_cons, List.length_cons, Nat.pow_succ]
    cases b <;> simp <;> omega

theorem val_digs (k x : Nat) : val (digs k x) = x % 2 ^ k := by
  induction k generalizing x with
  | zero => simp [digs_zero, val_nil, Nat.mod_one]
  | succ k ih =>
    rw [digs_succ, val_append, ih, val_single]
    simp only [List.length_singleton, Nat.pow_one]
    rw [Nat.pow_succ, Nat.mul_comm (2 ^ k) 2, Nat.mod_mul]
    have : (decide (x % 2 = 1)).toNat = x % 2 := by
      rcases Nat.mod_two_eq_zero_or_one x with h | h <;> simp [h]
    omega

theorem digs_cons (k x : Nat) : digs (k + 1) x = x.testBit k :: digs k x := by
  rw [Nat.add_comm k 1, digs_add 1 k x]
  simp [digs]

theorem digs_val (l : List Bool) : digs l.length (val l) = l := by
  induction l with
  | nil => rfl
  | cons b l ih =>
    rw [List.length_cons, digs_cons, val_cons]
    have hl := val_lt l
    have h1 : (b.toNat * 2 ^ l.length + val l).testBit l.length = b := by
      rw [Nat.testBit_eq_decide_div_mod_eq, Nat.mul_comm, Nat.mul_add_div (Nat.two_pow_pos _), Nat.div_eq_of_lt hl]
      cases b <;> simp
    have h2 : digs l.length (b.toNat * 2 ^ l.length + val l) = l := by
      rw [← digs_mod, Nat.add_comm, Nat.add_mul_mod_self_right, digs_mod, ih]
    rw [h1, h2]

theorem val_replicate (k : Nat) : val (List.replicate k false) = 0 := by
  rw [← digs_of_zero, val_digs]; simp

/-! ## What a writer holds: whole bytes, and bits that fill none yet -/

def flat (bytes : List Nat) : List Bool := bytes.flatMap (digs 8)

def held (bytes : List Nat) (k r : Nat) : List Bool := flat bytes ++ digs k r

theorem flat_append (a b : List Nat) : flat (a ++ b) = flat a ++ flat b := by simp [flat]
theorem flat_single (a : Nat) : flat [a] = digs 8 a := by simp [flat]
theorem flat_length (a : List Nat) : (flat a).length = 8 * a.length := by
  induction a with
  | nil => rfl
  | cons x a ih => rw [show x :: a = [x] ++ a from rfl, flat_append, flat_single, List.length_append, digs_length, ih]; simp; omega

theorem held_length (bytes : List Nat) (k r : Nat) : (held bytes k r).length = 8 * bytes.length + k := by
  simp [held, flat_length, digs_length]

theorem held_push (bytes : List Nat) (k r n x : Nat) (hx : x < 2 ^ n) : held bytes (k + n) (r <<< n ||| x) = held bytes k r ++ digs n x := by
  rw [held, digs_or _ _ _ _ hx, held, List.append_assoc]

theorem held_byte (bytes : List Nat) (k r : Nat) : held (bytes ++ [(r >>> k) % 256]) k r = held bytes (8 + k) r := by
  rw [held, held, flat_append, flat_single, digs_add 8 k r, show (256 : Nat) = 2 ^ 8 from rfl, digs_mod, List.append_assoc]

theorem held_mask (bytes : List Nat) (k r : Nat) : held bytes k (r % 2 ^ k) = held bytes k r := by
  rw [held, held, digs_mod]

/-! ## Bits as bytes, with noughts behind -/

def packB : List Bool → List Nat
  | a :: b :: c :: d :: e :: f :: g :: h :: t => val [a, b, c, d, e, f, g, h] :: packB t
  | [] => []
  | l => [val (l ++ List.replicate (8 - l.length) false)]

theorem eight {l : List Bool} (h : l.length = 8) : ∃ a b c d e f g i, l = [a, b, c, d, e, f, g, i] := by
  match l, h with
  | [a, b, c, d, e, f, g, i], _ => exact ⟨a, b, c, d, e, f, g, i, rfl⟩

theorem packB_chunk (l t : List Bool) (h : l.length = 8) : packB (l ++ t) = val l :: packB t := by
  obtain ⟨a, b, c, d, e, f, g, i, rfl⟩ := eight h
  rfl

theorem packB_short (l : List Bool) (h : l.length < 8) (h0 : l ≠ []) : packB l = [val (l ++ List.replicate (8 - l.length) false)] := by
  match l, h, h0 with
  | [_], _, _ => rfl
  | [_, _], _, _ => rfl
  | [_, _, _], _, _ => rfl
  | [_, _, _, _], _, _ => rfl
  | [_, _, _, _, _], _, _ => rfl
  | [_, _, _, _, _, _], _, _ => rfl
  | [_, _, _, _, _, _, _], _, _ => rfl

theorem packB_flat (bytes : List Nat) (hb : ∀ x ∈ bytes, x < 256) (t : List Bool) : packB (flat bytes ++ t) = bytes ++ packB t := by
  induction bytes with
  | nil => rfl
  | cons x l ih =>
    rw [show flat (x :: l) = digs 8 x ++ flat l from rfl, List.append_assoc, packB_chunk _ _ (digs_length _ _), val_digs, Nat.mod_eq_of_lt (hb x (by simp)), ih (fun y hy => hb y (by simp [hy]))]
    rfl

theorem packB_held (bytes : List Nat) (k r : Nat) (hb : ∀ x ∈ bytes, x < 256) (hk : k ≤ 7) (hr : r < 2 ^ k) :
    packB (held bytes k r) = bytes ++ if k = 0 then [] else [(r <<< (8 - k)) % 256] := by
  rw [held, packB_flat _ hb]
  congr 1
  by_cases h0 : k = 0
  · subst h0; rfl
  · rw [if_neg h0, packB_short _ (by rw [digs_length]; omega) (by intro e; have := digs_length k r; rw [e] at this; simp at this; omega)]
    rw [val_append, val_replicate, digs_length, List.length_replicate, val_digs, Nat.mod_eq_of_lt hr, Nat.shiftLeft_eq]
    have : r * 2 ^ (8 - k) < 2 ^ k * 2 ^ (8 - k) := Nat.mul_lt_mul_of_pos_right hr (Nat.two_pow_pos _)
    rw [← Nat.pow_add, show k + (8 - k) = 8 from by omega] at this
    rw [Nat.mod_eq_of_lt this, Nat.add_zero]

theorem chunk_ind {P : List Bool → Prop} (hs : ∀ l, l.length < 8 → P l) (hc : ∀ l t, l.length = 8 → P t → P (l ++ t)) (l : List Bool) : P l := by
  have h : ∀ n, ∀ l : List Bool, l.length ≤ n → P l := by
    intro n
    induction n with
    | zero => intro l hl; exact hs l (by omega)
    | succ n ih =>
      intro l hl
      by_cases h8 : l.length < 8
      · exact hs l h8
      · rw [← List.take_append_drop 8 l]
        exact hc _ _ (by simp; omega) (ih _ (by simp; omega))
  exact h l.length l (Nat.le_refl _)

theorem packB_length (l : List Bool) : (packB l).length = (l.length + 7) / 8 := by
  refine chunk_ind (P := fun l => (packB l).length = (l.length + 7) / 8) ?_ ?_ l
  · intro l hl
    by_cases h0 : l = []
    · subst h0; rfl
    · rw [packB_short l hl h0]
      have : 0 < l.length := by cases l <;> simp_all
      simp; omega
  · intro l t hl ih
    rw [packB_chunk l t hl, List.length_cons, ih, List.length_append, hl]; omega

theorem packB_lt (l : List Bool) : ∀ x ∈ packB l, x < 256 := by
  refine chunk_ind (P := fun l => ∀ x ∈ packB l, x < 256) ?_ ?_ l
  · intro l hl x hx
    by_cases h0 : l = []
    · subst h0; simp [packB] at hx
    · rw [packB_short l hl h0] at hx
      simp at hx
      have := val_lt (l ++ List.replicate (8 - l.length) false)
      rw [List.length_append, List.length_replicate, show l.length + (8 - l.length) = 8 from by omega] at this
      rw [hx]; exact this
  · intro l t hl ih x hx
    rw [packB_chunk l t hl] at hx
    rcases List.mem_cons.1 hx with h | h
    · have := val_lt l; rw [hl] at this; rw [h]; exact this
    · exact ih x h

/-- What the bytes of bits are as bits: these, and noughts up to a whole byte. -/
theorem flat_packB (l : List Bool) : flat (packB l) = l ++ List.replicate ((8 - l.length % 8) % 8) false := by
  refine chunk_ind (P := fun l => flat (packB l) = l ++ List.replicate ((8 - l.length % 8) % 8) false) ?_ ?_ l
  · intro l hl
    by_cases h0 : l = []
    · subst h0; rfl
    · have hp : 0 < l.length := by cases l <;> simp_all
      rw [packB_short l hl h0, flat_single, show (8 - l.length % 8) % 8 = 8 - l.length from by omega]
      have := digs_val (l ++ List.replicate (8 - l.length) false)
      rwa [List.length_append, List.length_replicate, show l.length + (8 - l.length) = 8 from by omega] at this
  · intro l t hl ih
    rw [packB_chunk l t hl, show flat (val l :: packB t) = digs 8 (val l) ++ flat (packB t) from rfl, ih, List.length_append, hl, show (8 + t.length) % 8 = t.length % 8 from by omega]
    have := digs_val l
    rw [hl] at this
    rw [this, List.append_assoc]

/-! ## The codes -/

def ueB (x : Nat) : List Bool := List.replicate (Go.Lib.bitLen (x + 1) - 1) false ++ digs (Go.Lib.bitLen (x + 1)) (x + 1)

def foldedN (x : Int) : Nat := if 0 < x then (2 * x - 1).toNat else (-2 * x).toNat

def seB (x : Int) : List Bool := ueB (foldedN x)

def trailB (n : Nat) : List Bool := true :: List.replicate ((7 - n % 8)) false

theorem bitLenAux_spec (f x : Nat) (hx : x < 2 ^ f) : x < 2 ^ Go.Lib.bitLenAux f x ∧ (0 < x → 2 ^ (Go.Lib.bitLenAux f x - 1) ≤ x ∧ 0 < Go.Lib.bitLenAux f x) ∧ Go.Lib.bitLenAux f x ≤ f := by
  induction f generalizing x with
  | zero => simp [Go.Lib.bitLenAux] at hx ⊢; omega
  | succ f ih =>
    unfold Go.Lib.bitLenAux
    by_cases h0 : x = 0
    · simp [h0]
    · rw [if_neg h0]
      have hx2 : x / 2 < 2 ^ f := by rw [Nat.pow_succ] at hx; omega
      obtain ⟨h1, h2, h3⟩ := ih (x / 2) hx2
      refine ⟨?_, fun _ => ⟨?_, by omega⟩, by omega⟩
      · rw [Nat.add_comm, Nat.pow_succ]; omega
      · rw [show 1 + Go.Lib.bitLenAux f (x / 2) - 1 = Go.Lib.bitLenAux f (x / 2) from by omega]
        by_cases hh : x / 2 = 0
        · rw [hh]
          cases f <;> simp [Go.Lib.bitLenAux] <;> omega
        · obtain ⟨a, b⟩ := h2 (by omega)
          obtain ⟨c, hc⟩ : ∃ c, Go.Lib.bitLenAux f (x / 2) = c + 1 := ⟨_, (Nat.succ_pred_eq_of_pos b).symm⟩
          rw [hc] at a ⊢
          rw [Nat.pow_succ]
          simp at a
          omega

/-- What 'bitLen' is. -/
theorem bitLen_spec (x : Nat) (hx : x < 18446744073709551616) (h0 : 0 < x) : 2 ^ (Go.Lib.bitLen x - 1) ≤ x ∧ x < 2 ^ Go.Lib.bitLen x ∧ 0 < Go.Lib.bitLen x ∧ Go.Lib.bitLen x ≤ 64 := by
  obtain ⟨h1, h2, h3⟩ := bitLenAux_spec 64 x hx
  exact ⟨(h2 h0).1, h1, (h2 h0).2, h3⟩

theorem bitLen_le (x k : Nat) (hx : x < 2 ^ k) (hk : k ≤ 64) : Go.Lib.bitLen x ≤ k := by
  by_cases h0 : x = 0
  · subst h0; decide +revert
  · have h64 : x < 18446744073709551616 := Nat.lt_of_lt_of_le hx (Nat.pow_le_pow_right (by omega) hk)
    obtain ⟨h1, _, h3, _⟩ := bitLen_spec x h64 (by omega)
    by_cases h : Go.Lib.bitLen x ≤ k
    · exact h
    · have : 2 ^ k ≤ 2 ^ (Go.Lib.bitLen x - 1) := Nat.pow_le_pow_right (by omega) (by omega)
      omega

theorem ueB_length (x : Nat) (hx : x ≤ 2147483646) : (ueB x).length = 2 * Go.Lib.bitLen (x + 1) - 1 ∧ (ueB x).length ≤ 61 := by
  have h1 := bitLen_le (x + 1) 31 (by omega) (by omega)
  obtain ⟨_, _, h3, _⟩ := bitLen_spec (x + 1) (by omega) (by omega)
  simp [ueB, digs_length]
  omega

end Zo
/- Bits that are read: a row of bits as a function of the place, windows of it, and what each reading answers. Plain mathematics. -/
namespace Zo

/-- The byte at place i of a string, 0 behind its end. -/
def byteAt (s : ByteArray) (i : Nat) : Nat := if h : i < s.size then s[i].toNat else 0

/-- The bit at place i of a string, a nought behind its end. -/
def bitAt (s : ByteArray) (i : Nat) : Bool := (byteAt s (i / 8)).testBit (7 - i % 8)

/-- n bits from a place on. -/
def win (f : Nat → Bool) (p n : Nat) : List Bool := (List.range n).map fun j => f (p + j)

theorem win_length (f : Nat → Bool) (p n : Nat) : (win f p n).length = n := by simp [win]

theorem win_add (f : Nat → Bool) (p a b : Nat) : win f p (a + b) = win f p a ++ win f (p + a) b := by
  unfold win
  rw [List.range_add, List.map_append, List.map_map]
  congr 1
  apply List.map_congr_left
  intro j _
  show f (p + (a + j)) = f (p + a + j)
  rw [Nat.add_assoc]

theorem win_cons (f : Nat → Bool) (p n : Nat) : win f p (n + 1) = f p :: win f (p + 1) n := by
  rw [Nat.add_comm, win_add]; rfl

theorem win_get (f : Nat → Bool) (p n i : Nat) (h : i < n) : (win f p n)[i]? = some (f (p + i)) := by simp [win, h]

theorem byteAt_lt (s : ByteArray) (i : Nat) : byteAt s i < 256 := by
  unfold byteAt; split
  · exact UInt8.toNat_lt _
  · omega

theorem win_byte (s : ByteArray) (i : Nat) : win (bitAt s) (8 * i) 8 = digs 8 (byteAt s i) := by
  apply List.ext_getElem?
  intro j
  by_cases h : j < 8
  · rw [win_get _ _ _ _ h, digs_get _ _ _ h, bitAt, show (8 * i + j) / 8 = i from by omega, show (8 * i + j) % 8 = j from by omega]
  · rw [List.getElem?_eq_none (by rw [win_length]; omega), List.getElem?_eq_none (by rw [digs_length]; omega)]

/-- The bytes from place i on, as a number. -/
def bytesVal (s : ByteArray) (i n : Nat) : Nat := val (win (bitAt s) (8 * i) (8 * n))

theorem bytesVal_succ (s : ByteArray) (i n : Nat) : bytesVal s i (n + 1) = bytesVal s i n * 256 + byteAt s (i + n) := by
  unfold bytesVal
  rw [Nat.mul_add, win_add, val_append, win_length, ← Nat.mul_add, Nat.mul_one, win_byte, val_digs]
  rw [Nat.mod_eq_of_lt (byteAt_lt s (i + n))]

theorem bytesVal_lt (s : ByteArray) (i n : Nat) : bytesVal s i n < 2 ^ (8 * n) := by
  have := val_lt (win (bitAt s) (8 * i) (8 * n))
  rwa [win_length] at this

/-- Of a window's number: what lies ahead of its last k bits, and those. -/
theorem win_div (f : Nat → Bool) (p a k : Nat) : val (win f p (a + k)) / 2 ^ k = val (win f p a) := by
  rw [win_add, val_append, win_length]
  have := val_lt (win f (p + a) k)
  rw [win_length] at this
  rw [Nat.mul_comm, Nat.mul_add_div (Nat.two_pow_pos k), Nat.div_eq_of_lt this, Nat.add_zero]

theorem win_mod (f : Nat → Bool) (p a k : Nat) : val (win f p (a + k)) % 2 ^ k = val (win f (p + a) k) := by
  rw [win_add, val_append, win_length]
  have := val_lt (win f (p + a) k)
  rw [win_length] at this
  rw [Nat.add_comm, Nat.add_mul_mod_self_right, Nat.mod_eq_of_lt this]

/-- The 32 bits from place p on, out of five bytes. -/
theorem look_val (s : ByteArray) (p : Nat) : bytesVal s (p / 8) 5 / 2 ^ (8 - p % 8) % 4294967296 = val (win (bitAt s) p 32) := by
  unfold bytesVal
  rw [show (4294967296 : Nat) = 2 ^ 32 from by decide]
  have hp := Nat.mod_lt p (show 0 < 8 by omega)
  rw [show 8 * 5 = (p % 8 + 32) + (8 - p % 8) from by omega, win_div, win_mod, show 8 * (p / 8) + p % 8 = p from by omega]

/-- How many noughts stand from place p on, at most n. -/
def lead (f : Nat → Bool) (p : Nat) : Nat → Nat
  | 0 => 0
  | n + 1 => if f p then 0 else lead f (p + 1) n + 1

theorem lead_le (f : Nat → Bool) (p n : Nat) : lead f p n ≤ n := by
  induction n generalizing p with
  | zero => simp [lead]
  | succ n ih => unfold lead; split <;> have := ih (p + 1) <;> omega

theorem bitLen_cons (b : Bool) (l : List Bool) (h : l.length < 64) : Go.Lib.bitLen (val (b :: l)) = if b then l.length + 1 else Go.Lib.bitLen (val l) := by
  have hl := val_lt l
  cases b with
  | false => simp [val_cons]
  | true =>
    rw [val_cons, if_pos rfl, Bool.toNat_true, Nat.one_mul]
    have h64 : 2 ^ (l.length + 1) ≤ 2 ^ 64 := Nat.pow_le_pow_right (by omega) (by omega)
    have hs : 2 ^ (l.length + 1) = 2 ^ l.length * 2 := Nat.pow_succ ..
    have hp := Nat.two_pow_pos l.length
    have e64 : (2 : Nat) ^ 64 = 18446744073709551616 := by decide
    obtain ⟨h1, h2, h3, _⟩ := Zo.bitLen_spec (2 ^ l.length + val l) (by omega) (by omega)
    have hle := Zo.bitLen_le (2 ^ l.length + val l) (l.length + 1) (by omega) (by omega)
    by_cases hh : Go.Lib.bitLen (2 ^ l.length + val l) ≤ l.length
    · have : 2 ^ Go.Lib.bitLen (2 ^ l.length + val l) ≤ 2 ^ l.length := Nat.pow_le_pow_right (by omega) hh
      omega
    · omega

theorem bitLen_win (f : Nat → Bool) (p n : Nat) (hn : n ≤ 64) : Go.Lib.bitLen (val (win f p n)) = n - lead f p n := by
  induction n generalizing p with
  | zero => rfl
  | succ n ih =>
    rw [win_cons, bitLen_cons _ _ (by rw [win_length]; omega), ih _ (by omega), win_length, show lead f p (n + 1) = if f p then 0 else lead f (p + 1) n + 1 from rfl]
    split
    · rfl
    · omega

theorem lead_one (f : Nat → Bool) (p n : Nat) (h : lead f p n < n) : f (p + lead f p n) = true := by
  induction n generalizing p with
  | zero => omega
  | succ n ih =>
    unfold lead at h ⊢
    split
    · rename_i hf; simpa using hf
    · rename_i hf
      rw [if_neg hf] at h
      have := ih (p + 1) (by omega)
      rwa [show p + (lead f (p + 1) n + 1) = p + 1 + lead f (p + 1) n from by omega]

theorem lead_nought (f : Nat → Bool) (p n j : Nat) (h : j < lead f p n) : f (p + j) = false := by
  induction n generalizing p j with
  | zero => simp [lead] at h
  | succ n ih =>
    unfold lead at h
    split at h
    · omega
    · rename_i hf
      cases j with
      | zero => simpa using hf
      | succ j =>
        have := ih (p + 1) j (by omega)
        rwa [show p + (j + 1) = p + 1 + j from by omega]

theorem lead_eq (f : Nat → Bool) (p n k : Nat) (hk : k < n) (h1 : f (p + k) = true) (h0 : ∀ j, j < k → f (p + j) = false) : lead f p n = k := by
  by_cases h : lead f p n < k
  · have := lead_one f p n (by omega)
    rw [h0 _ h] at this
    cases this
  · by_cases h2 : k < lead f p n
    · rw [lead_nought f p n k h2] at h1; cases h1
    · omega

/-! ## What a reader answers: value, code, and where it then is -/

def rdBits (f : Nat → Bool) (T p : Nat) (n : Int) : Nat × Int × Nat :=
  if n < 0 ∨ 32 < n then (0, 101, p) else if ((T - p : Nat) : Int) < n then (0, 100, p) else (val (win f p n.toNat), 0, p + n.toNat)

def rdUe (f : Nat → Bool) (T p : Nat) (most : Int) : Nat × Int × Nat :=
  if 30 < lead f p 32 ∧ 30 < T - p then (0, 101, p)
  else if T - p < 2 * lead f p 32 + 1 then (0, 100, p)
  else if most < ((val (win f (p + lead f p 32) (lead f p 32 + 1)) - 1 : Nat) : Int) then (0, 101, p)
  else (val (win f (p + lead f p 32) (lead f p 32 + 1)) - 1, 0, p + (2 * lead f p 32 + 1))

def unfoldedZ (x : Nat) : Int := if x % 2 = 1 then ((x + 1) / 2 : Nat) else -((x / 2 : Nat) : Int)

/-- p is behind the last 1 of the bits below T. -/
def IsPast (f : Nat → Bool) (T p : Nat) : Prop := p ≤ T ∧ (∀ i, p ≤ i → f i = false) ∧ (0 < p → f (p - 1) = true)

theorem get_byteAt (s : ByteArray) : ∀ (n : Nat) (h : n < s.size), ((s[n]'h).toNat : Int) = (byteAt s n : Int) := fun n h => by unfold byteAt; rw [dif_pos h]

theorem byteAt_end (s : ByteArray) {k : Nat} (h : s.size ≤ k) : byteAt s k = 0 := by unfold byteAt; rw [dif_neg (by omega)]

theorem ntz_spec : ∀ x : Fin 256, x.val ≠ 0 → x.val.testBit (Go.Lib.trailingZeros8 x.val) = true ∧ Go.Lib.trailingZeros8 x.val ≤ 7 ∧ ∀ j : Fin 8, j.val < Go.Lib.trailingZeros8 x.val → x.val.testBit j.val = false := by decide +kernel

theorem ntz_of (x : Nat) (hx : x < 256) (h0 : x ≠ 0) : x.testBit (Go.Lib.trailingZeros8 x) = true ∧ Go.Lib.trailingZeros8 x ≤ 7 ∧ ∀ j, j < Go.Lib.trailingZeros8 x → x.testBit j = false := by
  obtain ⟨h1, h2, h3⟩ := ntz_spec ⟨x, hx⟩ h0
  exact ⟨h1, h2, fun j hj => h3 ⟨j, by simp at h2; omega⟩ hj⟩

theorem past_none (s : ByteArray) (h : ∀ j, byteAt s j = 0) : IsPast (bitAt s) (8 * s.size) 0 :=
  ⟨by omega, fun i _ => by rw [bitAt, h]; simp, fun h => by omega⟩

theorem past_at (s : ByteArray) (i : Nat) (hi : i < s.size) (h0 : byteAt s i ≠ 0) (h : ∀ j, i + 1 ≤ j → byteAt s j = 0) :
    IsPast (bitAt s) (8 * s.size) (8 * i + 8 - Go.Lib.trailingZeros8 (byteAt s i)) := by
  obtain ⟨h1, h2, h3⟩ := ntz_of _ (byteAt_lt s i) h0
  refine ⟨by omega, fun j hj => ?_, fun _ => ?_⟩
  · unfold bitAt
    by_cases hji : j / 8 = i
    · rw [hji]
      exact h3 _ (by omega)
    · rw [h _ (by omega)]; simp
  · unfold bitAt
    rw [show (8 * i + 8 - Go.Lib.trailingZeros8 (byteAt s i) - 1) / 8 = i from by omega, show 7 - (8 * i + 8 - Go.Lib.trailingZeros8 (byteAt s i) - 1) % 8 = Go.Lib.trailingZeros8 (byteAt s i) from by omega]
    exact h1

theorem flat_get (l : List Nat) (i : Nat) (h : i < 8 * l.length) : (flat l)[i]? = some ((l.getD (i / 8) 0).testBit (7 - i % 8)) := by
  induction l generalizing i with
  | nil => simp at h
  | cons x l ih =>
    rw [show flat (x :: l) = digs 8 x ++ flat l from rfl]
    by_cases h8 : i < 8
    · rw [List.getElem?_append_left (by rw [digs_length]; exact h8), digs_get _ _ _ h8, show i / 8 = 0 from by omega, show i % 8 = i from by omega]
      rfl
    · rw [List.getElem?_append_right (by rw [digs_length]; omega), digs_length, ih _ (by simp at h; omega)]
      obtain ⟨m, rfl⟩ : ∃ m, i = m + 8 := ⟨i - 8, by omega⟩
      rw [show (m + 8) / 8 = m / 8 + 1 from by omega, show (m + 8) % 8 = m % 8 from by omega, show m + 8 - 8 = m from by omega]
      rfl

end Zo
