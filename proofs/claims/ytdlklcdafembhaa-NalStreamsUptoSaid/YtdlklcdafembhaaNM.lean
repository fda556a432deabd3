/- Plain mathematics of layer 2: bytes escaped and read back, a stream cut at its starts. No program is named here. -/
import Derived.Lib.IndexMore
import Derived.Lib.Strings
import Derived.Lib.UnsafeStr
namespace Zn
open Go

/-- How many bytes 0 stand together, once c stands behind z of them. -/
def nb (z : Nat) (c : UInt8) : Nat := if c = 0 then z + 1 else 0

/-- One byte, escaped, behind z bytes 0; and how many stand together behind it. -/
def stp (z : Nat) (c : UInt8) : List UInt8 := if z = 2 ∧ c ≤ 3 then [3, c] else [c]
def zs (z : Nat) (c : UInt8) : Nat := if z = 2 ∧ c ≤ 3 then nb 0 c else nb z c

def esc : Nat → List UInt8 → List UInt8
  | _, [] => []
  | z, c :: s => stp z c ++ esc (zs z c) s

/-- What is escaped, read back: z bytes 0 stand ahead; g: a guard stands just ahead. -/
def dec : Nat → Bool → List UInt8 → Option (List UInt8)
  | _, g, [] => if g then none else some []
  | z, g, c :: s => if (g = true ∧ 3 < c) ∨ (z = 2 ∧ c < 3) then none else if z = 2 ∧ c = 3 then dec 0 true s else (dec (nb z c) false s).map (c :: ·)

/-- The document's way: each 3 behind two bytes 0 goes. -/
def un : Nat → List UInt8 → List UInt8
  | _, [] => []
  | z, c :: s => if c = 3 ∧ z = 2 then un 0 s else c :: un (nb z c) s

theorem nb_le (z : Nat) (c : UInt8) : nb z c ≤ z + 1 := by unfold nb; split <;> omega
theorem nb_zero (z : Nat) : nb z 0 = z + 1 := by simp [nb]
theorem nb_pos (z : Nat) (c : UInt8) (h : c ≠ 0) : nb z c = 0 := by simp [nb, h]

theorem u8_cases (c : UInt8) : c < 3 ∨ c = 3 ∨ 3 < c := by
  simp only [UInt8.lt_iff_toNat_lt, ← UInt8.toNat_inj]
  have : (3 : UInt8).toNat = 3 := rfl
  omega

theorem u8_lt3 {c : UInt8} (h : c < 3) : c ≤ 3 ∧ c ≠ 3 ∧ ¬ 3 < c := by
  rw [UInt8.lt_iff_toNat_lt] at h
  rw [UInt8.le_iff_toNat_le, UInt8.lt_iff_toNat_lt, Ne, ← UInt8.toNat_inj]
  have : (3 : UInt8).toNat = 3 := rfl
  omega

theorem u8_gt3 {c : UInt8} (h : 3 < c) : ¬ c ≤ 3 ∧ c ≠ 3 ∧ ¬ c < 3 ∧ c ≠ 0 := by
  rw [UInt8.lt_iff_toNat_lt] at h
  rw [UInt8.le_iff_toNat_le, UInt8.lt_iff_toNat_lt, Ne, Ne, ← UInt8.toNat_inj, ← UInt8.toNat_inj]
  have : (3 : UInt8).toNat = 3 := rfl
  have : (0 : UInt8).toNat = 0 := rfl
  omega

theorem le3 {c : UInt8} (h : c ≤ 3) : c < 3 ∨ c = 3 := by
  rcases u8_cases c with a | a | a
  · exact .inl a
  · exact .inr a
  · exact absurd h (u8_gt3 a).1

theorem zs_le (z : Nat) (c : UInt8) (h : z ≤ 2) : zs z c ≤ 2 := by
  unfold zs
  split
  · exact Nat.le_trans (nb_le 0 c) (by omega)
  · rename_i hn
    by_cases h2 : z = 2
    · rw [nb_pos]
      · omega
      · intro h0
        subst h0
        exact hn ⟨h2, by decide⟩
    · exact Nat.le_trans (nb_le z c) (by omega)

theorem dec_esc : ∀ (t : List UInt8) (z : Nat), z ≤ 2 → dec z false (esc z t) = some t
  | [], z, _ => by simp [esc, dec]
  | c :: t, z, hz => by
    have ih := dec_esc t (zs z c) (zs_le z c hz)
    by_cases h : z = 2 ∧ c ≤ 3
    · obtain ⟨rfl, hc⟩ := h
      have hn : ¬ 3 < c := fun h3 => (u8_gt3 h3).1 hc
      simp only [esc, stp, zs, hc, and_self, if_true] at ih ⊢
      rw [List.cons_append, dec, if_neg (by decide), if_pos (by decide), List.cons_append, List.nil_append, dec, if_neg (by simp [hn]), if_neg (by simp), ih]
      rfl
    · have e1 : esc z (c :: t) = c :: esc (nb z c) t := by simp [esc, stp, zs, h]
      have e2 : zs z c = nb z c := by simp [zs, h]
      rw [e2] at ih
      rw [e1, dec, if_neg, if_neg, ih]
      · rfl
      · rintro ⟨h2, rfl⟩; exact h ⟨h2, by decide⟩
      · rintro (⟨hf, _⟩ | ⟨h2, h3⟩)
        · cases hf
        · exact h ⟨h2, (u8_lt3 h3).1⟩

theorem un_esc : ∀ (t : List UInt8) (z : Nat), z ≤ 2 → un z (esc z t) = t
  | [], z, _ => rfl
  | c :: t, z, hz => by
    have ih := un_esc t (zs z c) (zs_le z c hz)
    by_cases h : z = 2 ∧ c ≤ 3
    · obtain ⟨rfl, hc⟩ := h
      simp only [esc, stp, zs, hc, and_self, if_true] at ih ⊢
      rw [List.cons_append, un, if_pos (by decide), List.cons_append, List.nil_append, un, if_neg (by simp), ih]
    · have e1 : esc z (c :: t) = c :: esc (nb z c) t := by simp [esc, stp, zs, h]
      have e2 : zs z c = nb z c := by simp [zs, h]
      rw [e2] at ih
      rw [e1, un, if_neg, ih]
      rintro ⟨rfl, h2⟩; exact h ⟨h2, by decide⟩

theorem esc_dec : ∀ (s t : List UInt8) (z : Nat) (g : Bool), z ≤ 2 → (g = true → z = 0) → dec z g s = some t → (g = false → esc z t = s) ∧ (g = true → ∃ c t', t = c :: t' ∧ c ≤ 3 ∧ esc 0 t = s)
  | [], t, z, g, _, _, h => by
    cases g
    · simp [dec] at h; subst h; exact ⟨fun _ => rfl, fun h => by cases h⟩
    · simp [dec] at h
  | c :: s, t, z, g, hz, hg, h => by
    rw [dec] at h
    by_cases hb : (g = true ∧ 3 < c) ∨ (z = 2 ∧ c < 3)
    · rw [if_pos hb] at h; cases h
    · rw [if_neg hb] at h
      by_cases h3 : z = 2 ∧ c = 3
      · rw [if_pos h3] at h
        obtain ⟨rfl, rfl⟩ := h3
        obtain ⟨d, t', rfl, hd, hs⟩ := (esc_dec s t 0 true (by omega) (fun _ => rfl) h).2 rfl
        refine ⟨fun _ => ?_, fun hgt => ?_⟩
        · rw [← hs]
          simp [esc, stp, zs, hd]
        · exact absurd (hg hgt) (by decide)
      · rw [if_neg h3] at h
        rw [Option.map_eq_some_iff] at h
        obtain ⟨u, hu, rfl⟩ := h
        have hn : ¬ (z = 2 ∧ c ≤ 3) := by
          rintro ⟨h2, hc⟩
          rcases le3 hc with h | h
          · exact hb (.inr ⟨h2, h⟩)
          · exact h3 ⟨h2, h⟩
        have e2 : zs z c = nb z c := by simp [zs, hn]
        have ih := (esc_dec s u (nb z c) false (by rw [← e2]; exact zs_le z c hz) (fun h => by cases h) hu).1 rfl
        have e1 : esc z (c :: u) = c :: s := by simp [esc, stp, hn, e2, ih]
        refine ⟨fun _ => e1, fun hgt => ⟨c, u, rfl, ?_, ?_⟩⟩
        · rcases u8_cases c with a | a | a
          · exact (u8_lt3 a).1
          · rw [a]; decide
          · exact absurd (.inl ⟨hgt, a⟩) hb
        · rw [← hg hgt]; exact e1

/-- What Unescape answers. -/
def unAns (s : List UInt8) : List UInt8 × Int := match dec 0 false s with
  | some t => (t, 0)
  | none => ([], 200)

/-- The document's answer is that. -/
theorem unAns_ref (s : List UInt8) : unAns s = if esc 0 (un 0 s) = s then (un 0 s, 0) else ([], 200) := by
  unfold unAns
  cases h : dec 0 false s with
  | some t =>
    have e := (esc_dec s t 0 false (by omega) (fun h => by cases h) h).1 rfl
    have e2 := un_esc t 0 (by omega)
    rw [e] at e2
    rw [if_pos (by rw [e2, e]), e2]
  | none =>
    rw [if_neg]
    intro e
    have := dec_esc (un 0 s) 0 (by omega)
    rw [e, h] at this
    cases this

theorem unAns_esc (t : List UInt8) : unAns (esc 0 t) = (t, 0) := by rw [unAns, dec_esc t 0 (by omega)]

theorem esc_length_ge : ∀ (t : List UInt8) (z : Nat), t.length ≤ (esc z t).length
  | [], _ => Nat.le_refl _
  | c :: t, z => by
    have ih := esc_length_ge t (zs z c)
    simp only [esc, List.length_append, List.length_cons]
    have : 1 ≤ (stp z c).length := by unfold stp; split <;> simp
    omega

theorem esc_length_le : ∀ (t : List UInt8) (z : Nat), z ≤ 2 → 2 * (esc z t).length ≤ 3 * t.length + z
  | [], z, _ => by simp [esc]
  | c :: t, z, hz => by
    have ih := esc_length_le t (zs z c) (zs_le z c hz)
    simp only [esc, List.length_append, List.length_cons]
    by_cases h : z = 2 ∧ c ≤ 3
    · have e1 : (stp z c).length = 2 := by simp [stp, h]
      have e2 : zs z c ≤ 1 := by simp only [zs, if_pos h]; exact nb_le 0 c
      omega
    · have e1 : (stp z c).length = 1 := by simp [stp, h]
      have e2 : zs z c ≤ z + 1 := by simp only [zs, if_neg h]; exact nb_le z c
      omega

theorem un_length : ∀ (s : List UInt8) (z : Nat), (un z s).length ≤ s.length
  | [], _ => Nat.le_refl _
  | c :: s, z => by
    rw [un]
    split
    · have := un_length s 0; simp; omega
    · have := un_length s (nb z c); simp; omega

theorem dec_length : ∀ (s t : List UInt8) (z : Nat) (g : Bool), dec z g s = some t → t.length ≤ s.length
  | [], t, z, g, h => by cases g <;> simp [dec] at h; subst h; simp
  | c :: s, t, z, g, h => by
    rw [dec] at h
    split at h
    · cases h
    · split at h
      · have := dec_length s t _ _ h; simp; omega
      · rw [Option.map_eq_some_iff] at h
        obtain ⟨u, hu, rfl⟩ := h
        have := dec_length s u _ _ hu
        simp; omega

theorem unAns_length (s : List UInt8) : (unAns s).1.length ≤ s.length := by
  unfold unAns
  split
  · rename_i t h; exact dec_length _ _ _ _ h
  · simp

/-- No start stands in it: behind z bytes 0. -/
def chk : Nat → List UInt8 → Prop
  | _, [] => True
  | z, c :: s => ¬ (2 ≤ z ∧ c < 3) ∧ chk (nb z c) s

theorem chk_esc : ∀ (t : List UInt8) (z : Nat), z ≤ 2 → chk z (esc z t)
  | [], _, _ => trivial
  | c :: t, z, hz => by
    have ih := chk_esc t (zs z c) (zs_le z c hz)
    by_cases h : z = 2 ∧ c ≤ 3
    · obtain ⟨rfl, hc⟩ := h
      simp only [esc, stp, zs, hc, and_self, if_true] at ih ⊢
      exact ⟨by decide, ⟨by rw [show nb 2 3 = 0 from rfl]; omega, ih⟩⟩
    · have e1 : esc z (c :: t) = c :: esc (nb z c) t := by simp [esc, stp, zs, h]
      have e2 : zs z c = nb z c := by simp [zs, h]
      rw [e1]
      rw [e2] at ih
      exact ⟨fun ⟨h2, h3⟩ => h ⟨by omega, (u8_lt3 h3).1⟩, ih⟩

theorem chk_mono : ∀ (s : List UInt8) (y z : Nat), y ≤ z → chk z s → chk y s
  | [], _, _, _, _ => trivial
  | c :: s, y, z, h, ⟨h1, h2⟩ => by
    refine ⟨fun ⟨a, b⟩ => h1 ⟨by omega, b⟩, chk_mono s _ _ ?_ h2⟩
    unfold nb; split <;> omega

theorem chk_drop : ∀ (k : Nat) (s : List UInt8) (z : Nat), chk z s → chk 0 (s.drop k)
  | 0, s, z, h => chk_mono s 0 z (by omega) h
  | k + 1, [], z, _ => by simp [chk]
  | k + 1, c :: s, z, h => chk_drop k s _ h.2

/-- No two bytes 0 and one below 3 stand in what is escaped. -/
theorem chk_at (s : List UInt8) (z k : Nat) (h : chk z s) (c : UInt8) (h0 : s[k]? = some 0) (h1 : s[k + 1]? = some 0) (h2 : s[k + 2]? = some c) : ¬ c < 3 := by
  have hd := chk_drop k s z h
  have e0 : (s.drop k)[0]? = some 0 := by simpa using h0
  have e1 : (s.drop k)[1]? = some 0 := by simpa using h1
  have e2 : (s.drop k)[2]? = some c := by simpa using h2
  generalize s.drop k = r at *
  match r, e0, e1, e2, hd with
  | a :: b :: d :: r, e0, e1, e2, hd =>
    simp at e0 e1 e2
    subst e0 e1 e2
    exact fun h3 => hd.2.2.1 ⟨by simp [nb], h3⟩

/-! ### A stream cut at its starts -/

def start : List UInt8 := [0, 0, 1]

def sp : List UInt8 → List (List UInt8)
  | [] => [[]]
  | c :: s => if start.isPrefixOf (c :: s) then [] :: sp (s.drop 2) else match sp s with
    | p :: ps => (c :: p) :: ps
    | [] => [[c]]
termination_by s => s.length
decreasing_by all_goals (simp_wf; try omega)

/-- p ahead of the first piece. -/
def pre (p : List UInt8) : List (List UInt8) → List (List UInt8)
  | q :: qs => (p ++ q) :: qs
  | [] => [p]

theorem sp_nil : sp [] = [[]] := by rw [sp]
theorem sp_start (c : UInt8) (s : List UInt8) (h : start.isPrefixOf (c :: s) = true) : sp (c :: s) = [] :: sp (s.drop 2) := by rw [sp, if_pos h]
theorem sp_other (c : UInt8) (s : List UInt8) (h : start.isPrefixOf (c :: s) = false) : sp (c :: s) = pre [c] (sp s) := by
  rw [sp, if_neg (by simp [h])]
  cases sp s <;> rfl

theorem pre_pre (p q : List UInt8) (l : List (List UInt8)) : pre p (pre q l) = pre (p ++ q) l := by cases l <;> simp [pre]
theorem pre_nil (l : List (List UInt8)) (h : l ≠ []) : pre [] l = l := by
  cases l with
  | nil => exact absurd rfl h
  | cons => rfl
theorem sp_ne (s : List UInt8) : sp s ≠ [] := by
  cases s with
  | nil => rw [sp_nil]; simp
  | cons c s =>
    cases h : start.isPrefixOf (c :: s) with
    | true => rw [sp_start c s h]; simp
    | false => rw [sp_other c s h]; cases sp s <;> simp [pre]

theorem cut_hit (s : List UInt8) (i : Nat) (h : Lib.index s start = (i : Int)) : Lib.cut s start = (s.take i, s.drop (i + 3), true) := by
  rw [Lib.cut, h, if_pos (by omega), Int.toNat_natCast]; rfl

theorem cut_miss (s : List UInt8) (h : Lib.index s start = -1) : Lib.cut s start = (s, [], false) := by
  rw [Lib.cut, h, if_neg (by omega)]

theorem sp_cut : ∀ s : List UInt8, sp s = if (Lib.cut s start).2.2 then (Lib.cut s start).1 :: sp (Lib.cut s start).2.1 else [(Lib.cut s start).1]
  | [] => by
    rw [cut_miss [] rfl, sp_nil]; rfl
  | c :: s => by
    have ih := sp_cut s
    cases h : start.isPrefixOf (c :: s) with
    | true =>
      rw [cut_hit (c :: s) 0 (by rw [Lib.index, if_pos h]; rfl), sp_start c s h]
      simp
    | false =>
      rw [sp_other c s h, ih]
      rcases Lib.index_spec s start with ⟨h1, _⟩ | ⟨i, h1, _⟩
      · rw [cut_miss s h1, cut_miss (c :: s) (by rw [Lib.index, if_neg (by simp [h]), h1]; rfl)]
        simp [pre]
      · rw [cut_hit s i h1, cut_hit (c :: s) (i + 1) (by rw [Lib.index, if_neg (by simp [h]), h1, if_neg (by simp)]; omega)]
        simp [pre]

theorem cut_true_length (s : List UInt8) (h : (Lib.cut s start).2.2 = true) : (Lib.cut s start).2.1.length < s.length ∧ (Lib.cut s start).1.length + 3 + (Lib.cut s start).2.1.length = s.length := by
  unfold Lib.cut at h ⊢
  split at h
  · rename_i h0
    have := Lib.index_room s start h0
    have h3 : start.length = 3 := rfl
    rw [if_pos h0]
    simp only [List.length_drop, List.length_take]
    omega
  · cases h

theorem cut_length (s : List UInt8) : (Lib.cut s start).1.length ≤ s.length := by
  unfold Lib.cut
  split
  · simp; omega
  · simp

theorem sp_sum : ∀ (n : Nat) (s : List UInt8), s.length ≤ n → ((sp s).map fun p => 3 + p.length).sum = s.length + 3 := by
  intro n
  induction n with
  | zero => intro s h; obtain rfl : s = [] := List.eq_nil_of_length_eq_zero (by omega); rw [sp_nil]; rfl
  | succ n ih =>
    intro s h
    rw [sp_cut s]
    split
    · rename_i hc
      have := cut_true_length s hc
      rw [List.map_cons, List.sum_cons, ih _ (by omega)]
      omega
    · rename_i hc
      have : (Lib.cut s start).1 = s := by
        unfold Lib.cut at hc ⊢
        split
        · rename_i h0; rw [if_pos h0] at hc; simp at hc
        · rfl
      rw [this]; simp; omega

theorem start_not {z : Nat} {c : UInt8} {p r : List UInt8} (h : chk z (c :: p)) : start.isPrefixOf (c :: (p ++ 0 :: 0 :: 1 :: r)) = false ∧ start.isPrefixOf (c :: p) = false := by
  constructor
  · rw [Bool.eq_false_iff]
    intro hp
    match p, h, hp with
    | [], h, hp => simp [start, List.isPrefixOf] at hp
    | [d], h, hp => simp [start, List.isPrefixOf] at hp
    | d :: e :: q, h, hp =>
      simp only [start, List.cons_append, List.isPrefixOf, Bool.and_eq_true, beq_iff_eq] at hp
      obtain ⟨h1, h2, h3, _⟩ := hp
      subst h1 h2 h3
      exact h.2.2.1 ⟨by simp [nb], by decide⟩
  · rw [Bool.eq_false_iff]
    intro hp
    match p, h, hp with
    | [], h, hp => simp [start, List.isPrefixOf] at hp
    | [d], h, hp => simp [start, List.isPrefixOf] at hp
    | d :: e :: q, h, hp =>
      simp only [start, List.isPrefixOf, Bool.and_eq_true, beq_iff_eq] at hp
      obtain ⟨h1, h2, h3, _⟩ := hp
      subst h1 h2 h3
      exact h.2.2.1 ⟨by simp [nb], by decide⟩

theorem sp_one : ∀ (p : List UInt8) (z : Nat), chk z p → sp p = [p]
  | [], _, _ => sp_nil
  | c :: p, z, h => by rw [sp_other c p (start_not (r := []) h).2, sp_one p _ h.2]; rfl

theorem sp_more (r : List UInt8) : ∀ (p : List UInt8) (z : Nat), chk z p → sp (p ++ 0 :: 0 :: 1 :: r) = p :: sp r
  | [], _, _ => by rw [List.nil_append, sp_start 0 _ rfl]; simp
  | c :: p, z, h => by rw [List.cons_append, sp_other c _ (start_not (r := r) h).1, sp_more r p _ h.2]; rfl

/-- Pieces, each behind a start. -/
def strm : List (List UInt8) → List UInt8
  | [] => []
  | p :: ps => start ++ p ++ strm ps

theorem strm_append : ∀ a b : List (List UInt8), strm (a ++ b) = strm a ++ strm b
  | [], b => rfl
  | p :: a, b => by simp [strm, strm_append a b]

theorem sp_strm : ∀ (ps : List (List UInt8)) (p : List UInt8), (∀ q ∈ p :: ps, chk 0 q) → sp (p ++ strm ps) = p :: ps
  | [], p, h => by simp [strm, sp_one p 0 (h p (by simp))]
  | q :: ps, p, h => by
    have := sp_more (q ++ strm ps) p 0 (h p (by simp))
    rw [sp_strm ps q (fun x hx => h x (by simp at hx ⊢; exact .inr hx))] at this
    rw [← this]
    simp [strm, start]

theorem chk_pack (b : UInt8) (t : List UInt8) (hb : b ≠ 0) : chk 0 (b :: esc 0 t) := ⟨by omega, by rw [nb_pos 0 b hb]; exact chk_esc t 0 (by omega)⟩

/-! ### Noughts alone -/

theorem zeros_all : ∀ k < 64, (esc 0 (List.replicate k 0)).length = k + (k - 1) / 2 ∧ ((esc 0 (List.replicate k 0)).countP (· == 3)) = (k - 1) / 2 ∧ (esc 0 (List.replicate k 0)).all (fun c => c == 0 || c == 3) = true := by
  decide

end Zn
