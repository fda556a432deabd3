/- Bits that are read: a row of bits as a function of the place, windows of it, and what each reading answers. Plain mathematics. -/
import Derived.Test.YtadfgadkihlmcaaM
namespace Zo

/-- The byte at place i of a string, 0 behind its end. -/
def byteAt (s : ByteArray) (i : Nat) : Nat := if h : i < s.size then s[i].toNat else 0

/-- The bit at place i of a string, a nought behind its end. -/
def bitAt (s : ByteArray) (i : Nat) : Bool := (byteAt s (i / 8)).testBit (7 - i % 8)

/-- n bits from a place on. -/
def win (f : Nat → Bool) (p n : Nat) : List Bool := (List.range n).map fun j => f (p + j)

theorem win_length (f : Nat → Bool) (p n : Nat) : (win f p n).length = n := by simp [win]

theorem win_zero (f : Nat → Bool) (p : Nat) : win f p 0 = [] := rfl

theorem win_add (f : Nat → Bool) (p a b : Nat) : win f p (a + b) = win f p a ++ win f (p + a) b := by
  unfold win
  rw [List.range_add, List.map_append, List.map_map]
  congr 1
  apply List.map_congr_left
  intro j _
  show f (p + (a + j)) = f (p + a + j)
  rw [Nat.add_assoc]

theorem win_succ (f : Nat → Bool) (p n : Nat) : win f p (n + 1) = win f p n ++ [f (p + n)] := by
  rw [win_add]; rfl

theorem win_cons (f : Nat → Bool) (p n : Nat) : win f p (n + 1) = f p :: win f (p + 1) n := by
  rw [Nat.add_comm, win_add]; rfl

theorem win_get (f : Nat → Bool) (p n i : Nat) (h : i < n) : (win f p n)[i]? = some (f (p + i)) := by simp [win, h]

theorem byteAt_lt (s : ByteArray) (i : Nat) : byteAt s i < 256 := by
  unfold byteAt; split
  · exact UInt8.toNat_lt _
  · omega

theorem win_byte (s : ByteArray) (i : Nat) : win (bitAt s) (8 * i) 8 = digs 8 (byteAt s i) := by
  apply List.ext_getElem?
  intro j
  by_cases h : j < 8
  · rw [win_get _ _ _ _ h, digs_get _ _ _ h, bitAt, show (8 * i + j) / 8 = i from by omega, show (8 * i + j) % 8 = j from by omega]
  · rw [List.getElem?_eq_none (by rw [win_length]; omega), List.getElem?_eq_none (by rw [digs_length]; omega)]

/-- The bytes from place i on, as a number. -/
def bytesVal (s : ByteArray) (i n : Nat) : Nat := val (win (bitAt s) (8 * i) (8 * n))

theorem bytesVal_zero (s : ByteArray) (i : Nat) : bytesVal s i 0 = 0 := rfl

theorem bytesVal_succ (s : ByteArray) (i n : Nat) : bytesVal s i (n + 1) = bytesVal s i n * 256 + byteAt s (i + n) := by
  unfold bytesVal
  rw [Nat.mul_add, win_add, val_append, win_length, ← Nat.mul_add, Nat.mul_one, win_byte, val_digs]
  rw [Nat.mod_eq_of_lt (byteAt_lt s (i + n))]

theorem bytesVal_lt (s : ByteArray) (i n : Nat) : bytesVal s i n < 2 ^ (8 * n) := by
  have := val_lt (win (bitAt s) (8 * i) (8 * n))
  rwa [win_length] at this

/-- Of a window's number: what lies ahead of its last k bits, and those. -/
theorem win_div (f : Nat → Bool) (p a k : Nat) : val (win f p (a + k)) / 2 ^ k = val (win f p a) := by
  rw [win_add, val_append, win_length]
  have := val_lt (win f (p + a) k)
  rw [win_length] at this
  rw [Nat.mul_comm, Nat.mul_add_div (Nat.two_pow_pos k), Nat.div_eq_of_lt this, Nat.add_zero]

theorem win_mod (f : Nat → Bool) (p a k : Nat) : val (win f p (a + k)) % 2 ^ k = val (win f (p + a) k) := by
  rw [win_add, val_append, win_length]
  have := val_lt (win f (p + a) k)
  rw [win_length] at this
  rw [Nat.add_comm, Nat.add_mul_mod_self_right, Nat.mod_eq_of_lt this]

/-- The 32 bits from place p on, out of five bytes. -/
theorem look_val (s : ByteArray) (p : Nat) : bytesVal s (p / 8) 5 / 2 ^ (8 - p % 8) % 4294967296 = val (win (bitAt s) p 32) := by
  unfold bytesVal
  rw [show (4294967296 : Nat) = 2 ^ 32 from by decide]
  have hp := Nat.mod_lt p (show 0 < 8 by omega)
  rw [show 8 * 5 = (p % 8 + 32) + (8 - p % 8) from by omega, win_div, win_mod, show 8 * (p / 8) + p % 8 = p from by omega]

/-- How many noughts stand from place p on, at most n. -/
def lead (f : Nat → Bool) (p : Nat) : Nat → Nat
  | 0 => 0
  | n + 1 => if f p then 0 else lead f (p + 1) n + 1

theorem lead_le (f : Nat → Bool) (p n : Nat) : lead f p n ≤ n := by
  induction n generalizing p with
  | zero => simp [lead]
  | succ n ih => unfold lead; split <;> have := ih (p + 1) <;> omega

theorem bitLen_cons (b : Bool) (l : List Bool) (h : l.length < 64) : Go.Lib.bitLen (val (b :: l)) = if b then l.length + 1 else Go.Lib.bitLen (val l) := by
  have hl := val_lt l
  cases b with
  | false => simp [val_cons]
  | true =>
    rw [val_cons, if_pos rfl, Bool.toNat_true, Nat.one_mul]
    have h64 : 2 ^ (l.length + 1) ≤ 2 ^ 64 := Nat.pow_le_pow_right (by omega) (by omega)
    have hs : 2 ^ (l.length + 1) = 2 ^ l.length * 2 := Nat.pow_succ ..
    have hp := Nat.two_pow_pos l.length
    have e64 : (2 : Nat) ^ 64 = 18446744073709551616 := by decide
    obtain ⟨h1, h2, h3, _⟩ := Zo.bitLen_spec (2 ^ l.length + val l) (by omega) (by omega)
    have hle := Zo.bitLen_le (2 ^ l.length + val l) (l.length + 1) (by omega) (by omega)
    by_cases hh : Go.Lib.bitLen (2 ^ l.length + val l) ≤ l.length
    · have : 2 ^ Go.Lib.bitLen (2 ^ l.length + val l) ≤ 2 ^ l.length := Nat.pow_le_pow_right (by omega) hh
      omega
    · omega

theorem bitLen_win (f : Nat → Bool) (p n : Nat) (hn : n ≤ 64) : Go.Lib.bitLen (val (win f p n)) = n - lead f p n := by
  induction n generalizing p with
  | zero => rfl
  | succ n ih =>
    rw [win_cons, bitLen_cons _ _ (by rw [win_length]; omega), ih _ (by omega), win_length, show lead f p (n + 1) = if f p then 0 else lead f (p + 1) n + 1 from rfl]
    split
    · rfl
    · omega

theorem lead_one (f : Nat → Bool) (p n : Nat) (h : lead f p n < n) : f (p + lead f p n) = true := by
  induction n generalizing p with
  | zero => omega
  | succ n ih =>
    unfold lead at h ⊢
    split
    · rename_i hf; simpa using hf
    · rename_i hf
      rw [if_neg hf] at h
      have := ih (p + 1) (by omega)
      rwa [show p + (lead f (p + 1) n + 1) = p + 1 + lead f (p + 1) n from by omega]

theorem lead_nought (f : Nat → Bool) (p n j : Nat) (h : j < lead f p n) : f (p + j) = false := by
  induction n generalizing p j with
  | zero => simp [lead] at h
  | succ n ih =>
    unfold lead at h
    split at h
    · omega
    · rename_i hf
      cases j with
      | zero => simpa using hf
      | succ j =>
        have := ih (p + 1) j (by omega)
        rwa [show p + (j + 1) = p + 1 + j from by omega]

theorem lead_eq (f : Nat → Bool) (p n k : Nat) (hk : k < n) (h1 : f (p + k) = true) (h0 : ∀ j, j < k → f (p + j) = false) : lead f p n = k := by
  by_cases h : lead f p n < k
  · have := lead_one f p n (by omega)
    rw [h0 _ h] at this
    cases this
  · by_cases h2 : k < lead f p n
    · rw [lead_nought f p n k h2] at h1; cases h1
    · omega

/-! ## What a reader answers: value, code, and where it then is -/

def rdBits (f : Nat → Bool) (T p : Nat) (n : Int) : Nat × Int × Nat :=
  if n < 0 ∨ 32 < n then (0, 101, p) else if ((T - p : Nat) : Int) < n then (0, 100, p) else (val (win f p n.toNat), 0, p + n.toNat)

def rdUe (f : Nat → Bool) (T p : Nat) (most : Int) : Nat × Int × Nat :=
  if 30 < lead f p 32 ∧ 30 < T - p then (0, 101, p)
  else if T - p < 2 * lead f p 32 + 1 then (0, 100, p)
  else if most < ((val (win f (p + lead f p 32) (lead f p 32 + 1)) - 1 : Nat) : Int) then (0, 101, p)
  else (val (win f (p + lead f p 32) (lead f p 32 + 1)) - 1, 0, p + (2 * lead f p 32 + 1))

def unfoldedZ (x : Nat) : Int := if x % 2 = 1 then ((x + 1) / 2 : Nat) else -((x / 2 : Nat) : Int)

def rdTe (f : Nat → Bool) (T p : Nat) (most : Int) : Nat × Int × Nat :=
  if most < 1 then (0, 101, p) else if most = 1 then (if T - p < 1 then (0, 100, p) else (1 - (f p).toNat, 0, p + 1)) else rdUe f T p most

/-- p is behind the last 1 of the bits below T. -/
def IsPast (f : Nat → Bool) (T p : Nat) : Prop := p ≤ T ∧ (∀ i, p ≤ i → f i = false) ∧ (0 < p → f (p - 1) = true)

theorem IsPast.unique {f : Nat → Bool} {T p q : Nat} (hp : IsPast f T p) (hq : IsPast f T q) : p = q := by
  obtain ⟨_, a2, a3⟩ := hp
  obtain ⟨_, b2, b3⟩ := hq
  by_cases h : p < q
  · have := b3 (by omega)
    rw [a2 _ (by omega)] at this; cases this
  · by_cases h2 : q < p
    · have := a3 (by omega)
      rw [b2 _ (by omega)] at this; cases this
    · omega

theorem get_byteAt (s : ByteArray) : ∀ (n : Nat) (h : n < s.size), ((s[n]'h).toNat : Int) = (byteAt s n : Int) := fun n h => by unfold byteAt; rw [dif_pos h]

theorem byteAt_end (s : ByteArray) {k : Nat} (h : s.size ≤ k) : byteAt s k = 0 := by unfold byteAt; rw [dif_neg (by omega)]

theorem ntz_spec : ∀ x : Fin 256, x.val ≠ 0 → x.val.testBit (Go.Lib.trailingZeros8 x.val) = true ∧ Go.Lib.trailingZeros8 x.val ≤ 7 ∧ ∀ j : Fin 8, j.val < Go.Lib.trailingZeros8 x.val → x.val.testBit j.val = false := by decide +kernel

theorem ntz_of (x : Nat) (hx : x < 256) (h0 : x ≠ 0) : x.testBit (Go.Lib.trailingZeros8 x) = true ∧ Go.Lib.trailingZeros8 x ≤ 7 ∧ ∀ j, j < Go.Lib.trailingZeros8 x → x.testBit j = false := by
  obtain ⟨h1, h2, h3⟩ := ntz_spec ⟨x, hx⟩ h0
  exact ⟨h1, h2, fun j hj => h3 ⟨j, by simp at h2; omega⟩ hj⟩

theorem past_none (s : ByteArray) (h : ∀ j, byteAt s j = 0) : IsPast (bitAt s) (8 * s.size) 0 :=
  ⟨by omega, fun i _ => by rw [bitAt, h]; simp, fun h => by omega⟩

theorem past_at (s : ByteArray) (i : Nat) (hi : i < s.size) (h0 : byteAt s i ≠ 0) (h : ∀ j, i + 1 ≤ j → byteAt s j = 0) :
    IsPast (bitAt s) (8 * s.size) (8 * i + 8 - Go.Lib.trailingZeros8 (byteAt s i)) := by
  obtain ⟨h1, h2, h3⟩ := ntz_of _ (byteAt_lt s i) h0
  refine ⟨by omega, fun j hj => ?_, fun _ => ?_⟩
  · unfold bitAt
    by_cases hji : j / 8 = i
    · rw [hji]
      exact h3 _ (by omega)
    · rw [h _ (by omega)]; simp
  · unfold bitAt
    rw [show (8 * i + 8 - Go.Lib.trailingZeros8 (byteAt s i) - 1) / 8 = i from by omega, show 7 - (8 * i + 8 - Go.Lib.trailingZeros8 (byteAt s i) - 1) % 8 = Go.Lib.trailingZeros8 (byteAt s i) from by omega]
    exact h1

/-! ## A string out of bits -/

def nums (s : ByteArray) : List Nat := s.data.toList.map UInt8.toNat

theorem flat_get (l : List Nat) (i : Nat) (h : i < 8 * l.length) : (flat l)[i]? = some ((l.getD (i / 8) 0).testBit (7 - i % 8)) := by
  induction l generalizing i with
  | nil => simp at h
  | cons x l ih =>
    rw [show flat (x :: l) = digs 8 x ++ flat l from rfl]
    by_cases h8 : i < 8
    · rw [List.getElem?_append_left (by rw [digs_length]; exact h8), digs_get _ _ _ h8, show i / 8 = 0 from by omega, show i % 8 = i from by omega]
      rfl
    · rw [List.getElem?_append_right (by rw [digs_length]; omega), digs_length, ih _ (by simp at h; omega)]
      obtain ⟨m, rfl⟩ : ∃ m, i = m + 8 := ⟨i - 8, by omega⟩
      rw [show (m + 8) / 8 = m / 8 + 1 from by omega, show (m + 8) % 8 = m % 8 from by omega, show m + 8 - 8 = m from by omega]
      rfl

end Zo
