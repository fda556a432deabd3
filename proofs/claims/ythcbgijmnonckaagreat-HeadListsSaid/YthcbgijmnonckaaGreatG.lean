/- The bits' Reader, call by call. -/
import Derived.Test.YthcbgijmnonckaaGreatD
import Derived.Test.YthcbgijmnonckaaGreatN
namespace Go.Proofs.YthcbgijmnonckaaGreat
open Go.RowKit Zo

/-- Block b is a Reader of s that stands at place p. -/
def Rd (w : World) (base b : Nat) (s : ByteArray) (p : Nat) : Prop :=
  ∃ (c : Int) (ones : Nat), w.heap[b]? = some (.cells #[.int .u32 c, .string s, .int .i64 (ones : Int), .int .i64 (p : Int)] 116 (0,0)) ∧ base ≤ b ∧ IsPast (bitAt s) (8 * s.size) ones ∧ p ≤ 8 * s.size

theorem Rd.fr {S : Nat → Prop} {w w' : World} {base b : Nat} {s : ByteArray} {p : Nat} (h : Rd w base b s p) (f : Fr S w w') (hS : ¬ S b) : Rd w' base b s p := by
  obtain ⟨c, ones, hrow, hb, hp⟩ := h
  exact ⟨c, ones, (f.block b (row_lt hrow) hS).trans hrow, hb, hp⟩

def RPost (w : World) (base b : Nat) (s : ByteArray) (p : Nat) (w' : World) : Prop := Rd w' base b s p ∧ Fr (fun k => k = b) w w'

theorem RPost.chain {w w1 w2 : World} {base b : Nat} {s : ByteArray} {p : Nat} (f1 : Fr (fun k => k = b) w w1) (h : RPost w1 base b s p w2) : RPost w base b s p w2 :=
  ⟨h.1, f1.trans h.2 (fun _ _ h => h)⟩

theorem past_any (s : ByteArray) (w : World) (hs : s.size ≤ 140737488355328) :
    Calls Tryz.prog 59 #[.string s] w fun e w' => ∃ n : Nat, e = .returned (.int .i64 (n : Int)) ∧ IsPast (bitAt s) (8 * s.size) n ∧ w = w' := by
  have gb := get_byteAt s
  go_enter Tryz.func59, Tryz.ntmps59
  go_wp2
  go_loop [3] (fun i => ∃ k : Nat, k ≤ s.size ∧ i = .int .i64 ((k : Int) - 1) ∧ Aside (∀ j, k ≤ j → byteAt s j = 0)) (fun i => (intOf i + 1).toNat)
  case atStart => exact ⟨s.size, Nat.le_refl _, rfl, fun j hj => byteAt_end s hj⟩
  case round =>
    obtain ⟨k, hk, rfl, A⟩ := hrel
    by_cases h0 : k = 0
    · subst h0
      go_wp2
      go_ret
      exact ⟨0, rfl, past_none s (fun j => A j (by omega)), rfl⟩
    · obtain ⟨k, rfl⟩ : ∃ i, k = i + 1 := ⟨k - 1, by omega⟩
      clear h0
      have e1 : ((k + 1 : Nat) : Int) - 1 = k := by omega
      rw [e1]
      clear e1
      have hlt : k < s.size := hk
      have hb := byteAt_lt s k
      by_cases hz : byteAt s k = 0
      · have hz' : ((byteAt s k : Int) != 0) = false := by rw [hz]; rfl
        have Z := Lib.hid hz
        clear hz
        go_wp2
        go_round
        case rel => exact ⟨k, by omega, rfl, fun j hj => by
          by_cases hjk : j = k
          · subst hjk; exact Z.out
          · exact A j (by omega)⟩
        case measure => simp [intOf]
      · have hz' : ((byteAt s k : Int) != 0) = true := by simp; omega
        have Z := Lib.hid hz
        clear hz
        have hn := (ntz_of _ hb Z.out).2.1
        go_wp2_with fail
        refine (Tryz.bits_TrailingZeros8 _ _ (by omega) (by omega)).mono ?_
        rintro e w' ⟨rfl, rfl⟩
        go_wp2_with fail
        go_ret
        refine ⟨8 * k + 8 - Lib.trailingZeros8 (byteAt s k), ret_int (by omega), past_at s k hlt Z.out A, rfl⟩

theorem open_any (s : ByteArray) (w : World) (base : Nat) (hb : base ≤ w.heap.size) (hs : s.size ≤ 140737488355328) :
    Calls Tryz.prog 24 #[.string s] w fun e w' => e = .returned (.pointer (some ⟨w.heap.size, 0, none⟩)) ∧ Rd w' base w.heap.size s 0 ∧ Fr (fun _ => False) w w' ∧ w'.heap.size = w.heap.size + 1 := by
  go_enter Tryz.func24, Tryz.ntmps24
  go_wp2_with fail
  refine (past_any s _ hs).mono ?_
  rintro e w' ⟨n, rfl, hn, rfl⟩
  go_wp2_with fail
  go_ret
  exact ⟨rfl, ⟨0, n, heap_alloc_last w _, hb, hn, by omega⟩, (Fr.refl _ _).alloc _, by simp⟩

theorem count_rd (w : World) (base b : Nat) (s : ByteArray) (p : Nat) (h : Rd w base b s p) :
    Calls Tryz.prog 37 #[.pointer (some ⟨b, 0, none⟩)] w fun e w' => e = .returned (.tuple #[]) ∧ RPost w base b s p w' := by
  obtain ⟨c, ones, h, hbb, hp⟩ := h
  have h0 := cell_of_row w b 0 _ _ _ h
  have f0 := free_row h 0
  simp at h0
  have hadd := run_call_add (P := Tryz.prog) Tryz.func72 (by kernel_rfl) (by kernel_rfl) (by kernel_rfl) .u32 (by kernel_rfl) (y := 1) (s := IntKind.u32.wrap (c + 1)) h0 f0 (by simp [go_sem])
  go_enter Tryz.func37, Tryz.ntmps37
  go_wp2
  go_end0
  exact ⟨rfl, ⟨(c + 1) % 4294967296, ones, (heap_setCell_row h 0 _).trans (by simp), hbb, hp⟩, Fr.setCell (S := fun k => k = b) (Fr.refl _ _) (fun _ => rfl) _⟩

theorem left_any (w : World) (base b : Nat) (s : ByteArray) (p : Nat) (h : Rd w base b s p) (hs : s.size ≤ 140737488355328) :
    Calls Tryz.prog 93 #[.pointer (some ⟨b, 0, none⟩)] w fun e w' => e = .returned (.int .i64 ((8 * s.size - p : Nat) : Int)) ∧ ∃ n, w' = w.drewN n := by
  obtain ⟨c, ones, h, hbb, _, hp⟩ := h
  have c1 := cell_of_row w b 1 _ _ _ h
  have c3 := cell_of_row w b 3 _ _ _ h
  simp at c1 c3
  clear h
  go_enter Tryz.func93, Tryz.ntmps93
  go_wp2_with fail
  go_quiet (fail)
  go_wp2
  go_ret
  exact ⟨ret_int (by omega), _, rfl⟩

theorem or_byte (x y : Nat) (hx : x < 4294967296) (hy : y < 256) : bits .or .u64 ((x : Int) * 256) (y : Int) = ((x * 256 + y : Nat) : Int) := by
  rw [show (x : Int) * 256 = ((x * 256 : Nat) : Int) from by omega, u64_or_nat _ _ (by omega) (by omega), nat_join 8 (x * 256) y (by omega) hy]

theorem look_any (w : World) (base b : Nat) (s : ByteArray) (p q : Nat) (h : Rd w base b s p) (hq : q ≤ 8 * s.size + 100) (hs : s.size ≤ 140737488355328) :
    Calls Tryz.prog 94 #[.pointer (some ⟨b, 0, none⟩), .int .i64 (q : Int)] w fun e w' => e = .returned (.int .u32 (val (win (bitAt s) q 32) : Nat)) ∧ ∃ n, w' = w.drewN n := by
  obtain ⟨c, ones, h, hbb, _, hp⟩ := h
  have c1 := cell_of_row w b 1 _ _ _ h
  simp at c1
  clear h hp
  have gb := get_byteAt s
  go_enter Tryz.func94, Tryz.ntmps94
  have hq8 : (q : Int) / 8 = ((q / 8 : Nat) : Int) := by omega
  have L := Lib.hid (look_val s q)
  generalize q / 8 = m at hq8 L
  go_wp2
  go_loop [5, 6] (fun x i => ∃ k : Nat, k ≤ 5 ∧ i = .int .i64 ((m : Int) + k) ∧ x = .int .u64 (bytesVal s m k : Nat)) (fun _ i => (5 + (m : Int) - intOf i).toNat)
  case atStart => exact ⟨0, by omega, by simp, rfl⟩
  case round =>
    obtain ⟨k, hk, rfl, rfl⟩ := hrel
    by_cases h5 : k < 5
    · have hX : bytesVal s m k < 4294967296 := Nat.lt_of_lt_of_le (bytesVal_lt s m k) (Nat.pow_le_pow_right (by omega) (show 8 * k ≤ 32 by omega))
      have hb := byteAt_lt s (m + k)
      have E := Lib.hid (bytesVal_succ s m k)
      by_cases hlt : m + k < s.size
      · go_wp2
        go_round
        case rel => exact ⟨k + 1, by omega, by go_num, by rw [E.out, or_byte _ _ hX hb]⟩
        case measure => simp [intOf]; omega
      · have Z := Lib.hid (byteAt_end s (k := m + k) (by omega))
        go_wp2
        go_round
        case rel => exact ⟨k + 1, by omega, by go_num, by rw [E.out, Z.out, Nat.add_zero, Int.natCast_mul]; rfl⟩
        case measure => simp [intOf]; omega
    · obtain rfl : k = 5 := by omega
      have hX := bytesVal_lt s m 5
      go_wp2
      go_ret
      refine ⟨ret_int ?_, 0, rfl⟩
      rw [← L.out, Int.natCast_emod, Int.natCast_ediv, Int.natCast_pow]
      rfl

theorem Fr.drewN {S : Nat → Prop} {a w : World} (h : Fr S a w) (n : Nat) : Fr S a (w.drewN n) := ⟨h.os, h.tape, h.output, h.size, h.block⟩

theorem rd_row {w : World} {base b : Nat} {s : ByteArray} {p : Nat} (h : Rd w base b s p) :
    w.cell? ⟨b, 3, none⟩ = some (.int .i64 (p : Int)) ∧ w.frozen? ⟨b, 3, none⟩ = false ∧ p ≤ 8 * s.size := by
  obtain ⟨c, ones, h, _, _, hp⟩ := h
  have c3 := cell_of_row w b 3 _ _ _ h
  simp at c3
  exact ⟨c3, free_row h 3, hp⟩

theorem rd_move {w : World} {base b : Nat} {s : ByteArray} {p : Nat} (h : Rd w base b s p) (q : Nat) (hq : q ≤ 8 * s.size) : RPost w base b s q (w.setCell ⟨b, 3, none⟩ (.int .i64 (q : Int))) := by
  obtain ⟨c, ones, h, hb, hp, _⟩ := h
  exact ⟨⟨c, ones, (heap_setCell_row h 3 _).trans (by simp), hb, hp, hq⟩, Fr.setCell (S := fun k => k = b) (Fr.refl _ _) (fun _ => rfl) _⟩

theorem RPost.drewN {w w' : World} {base b : Nat} {s : ByteArray} {p : Nat} (h : RPost w base b s p w') (n : Nat) : RPost w base b s p (w'.drewN n) := ⟨h.1, Fr.drewN h.2 n⟩

theorem RPost.refl {w : World} {base b : Nat} {s : ByteArray} {p : Nat} (h : Rd w base b s p) (n : Nat) : RPost w base b s p (w.drewN n) := ⟨h, Fr.drewN (Fr.refl _ _) n⟩

theorem ret2 {k : IntKind} {a b c d : Int} (h : a = b) (h' : c = d) : Ending.returned (.tuple #[.int k a, .int k c]) = .returned (.tuple #[.int k b, .int k d]) := by rw [h, h']

theorem val_win_lt (f : Nat → Bool) (p n : Nat) (hn : n ≤ 32) : val (win f p n) < 4294967296 := by
  have h := val_lt (win f p n)
  rw [win_length] at h
  exact Nat.lt_of_lt_of_le h (Nat.pow_le_pow_right (by omega) hn)

theorem take_any (w : World) (base b : Nat) (s : ByteArray) (p : Nat) (n : Int) (h : Rd w base b s p) (hs : s.size ≤ 140737488355328) (h0 : 0 ≤ n) (h32 : n ≤ 32) :
    Calls Tryz.prog 60 #[.pointer (some ⟨b, 0, none⟩), .int .i64 n] w fun e w' =>
      e = .returned (.tuple #[.int .i64 ((rdBits (bitAt s) (8 * s.size) p n).1 : Int), .int .i64 (rdBits (bitAt s) (8 * s.size) p n).2.1]) ∧ RPost w base b s (rdBits (bitAt s) (8 * s.size) p n).2.2 w' := by
  obtain ⟨m, rfl⟩ := Int.eq_ofNat_of_zero_le h0
  obtain ⟨c3, f3, hp⟩ := rd_row h
  by_cases hl : 8 * s.size - p < m
  · rw [rdBits, if_neg (by omega), if_pos (by omega)]
    go_enter Tryz.func60, Tryz.ntmps60
    go_wp2_with fail
    refine (left_any _ base b s p h hs).mono ?_
    rintro e w1 ⟨rfl, n1, rfl⟩
    go_wp2_with fail
    go_ret2
    exact ⟨rfl, .refl h _⟩
  · rw [rdBits, if_neg (by omega), if_neg (by omega)]
    have hv : val (win (bitAt s) p 32) / 2 ^ (32 - m) = val (win (bitAt s) p m) := by
      have := win_div (bitAt s) p m (32 - m)
      rwa [show m + (32 - m) = 32 from by omega] at this
    have hvi : ((val (win (bitAt s) p 32) : Nat) : Int) / 2 ^ (32 - m) = ((val (win (bitAt s) p m) : Nat) : Int) := by rw [← hv, Int.natCast_ediv, Int.natCast_pow]; rfl
    clear hv
    have hvb := val_win_lt (bitAt s) p m (by omega)
    go_enter Tryz.func60, Tryz.ntmps60
    go_wp2_with fail
    refine (left_any _ base b s p h hs).mono ?_
    rintro e w1 ⟨rfl, n1, rfl⟩
    go_wp2_with fail
    refine (look_any _ base b s p p (RPost.refl h n1).1 (by omega) hs).mono ?_
    rintro e w1 ⟨rfl, n2, rfl⟩
    go_wp2_with fail
    go_ret2
    exact ⟨ret2 rfl rfl, .chain (RPost.refl h (n1 + n2)).2 (rd_move (RPost.refl h (n1 + n2)).1 (p + m) (by omega))⟩

theorem takeUe_any (w : World) (base b : Nat) (s : ByteArray) (p : Nat) (most : Int) (h : Rd w base b s p) (hs : s.size ≤ 140737488355328) :
    Calls Tryz.prog 191 #[.pointer (some ⟨b, 0, none⟩), .int .i64 most] w fun e w' =>
      e = .returned (.tuple #[.int .i64 ((rdUe (bitAt s) (8 * s.size) p most).1 : Int), .int .i64 (rdUe (bitAt s) (8 * s.size) p most).2.1]) ∧ RPost w base b s (rdUe (bitAt s) (8 * s.size) p most).2.2 w' := by
  obtain ⟨c3, f3, hp⟩ := rd_row h
  have hL := lead_le (bitAt s) p 32
  have hB := bitLen_win (bitAt s) p 32 (by omega)
  have h32b := val_win_lt (bitAt s) p 32 (by omega)
  have hLi : (32 : Int) - ((Lib.bitLen (val (win (bitAt s) p 32)) : Nat) : Int) = ((lead (bitAt s) p 32 : Nat) : Int) := by rw [hB]; omega
  clear hB
  have one := Lib.hid (lead_one (bitAt s) p 32)
  have hdv := Lib.hid (win_div (bitAt s) (p + lead (bitAt s) p 32) (lead (bitAt s) p 32 + 1) (31 - lead (bitAt s) p 32))
  simp only [rdUe]
  generalize lead (bitAt s) p 32 = L at *
  by_cases g1 : 30 < L
  · by_cases g2 : 30 < 8 * s.size - p
    · rw [if_pos ⟨g1, g2⟩]
      go_enter Tryz.func191, Tryz.ntmps191
      go_wp2_with fail
      refine (look_any _ base b s p p h (by omega) hs).mono ?_
      rintro e w1 ⟨rfl, n2, rfl⟩
      go_wp2_with fail
      refine (Tryz.bits_LeadingZeros32 _ _ (by omega) (by omega)).mono ?_
      rintro e w1 ⟨rfl, rfl⟩
      go_wp2_with fail
      refine (left_any _ base b s p (RPost.refl h _).1 hs).mono ?_
      rintro e w1 ⟨rfl, n3, rfl⟩
      go_wp2_with fail
      go_ret2
      exact ⟨rfl, .refl h _⟩
    · rw [if_neg (by omega), if_pos (by omega)]
      go_enter Tryz.func191, Tryz.ntmps191
      go_wp2_with fail
      refine (look_any _ base b s p p h (by omega) hs).mono ?_
      rintro e w1 ⟨rfl, n2, rfl⟩
      go_wp2_with fail
      refine (Tryz.bits_LeadingZeros32 _ _ (by omega) (by omega)).mono ?_
      rintro e w1 ⟨rfl, rfl⟩
      go_wp2_with fail
      refine (left_any _ base b s p (RPost.refl h _).1 hs).mono ?_
      rintro e w1 ⟨rfl, n3, rfl⟩
      go_wp2_with fail
      refine (left_any _ base b s p (RPost.refl h _).1 hs).mono ?_
      rintro e w1 ⟨rfl, n3, rfl⟩
      go_wp2_with fail
      go_ret2
      exact ⟨rfl, .refl h _⟩
  · by_cases g2 : 8 * s.size - p < 2 * L + 1
    · rw [if_neg (by omega), if_pos g2]
      go_enter Tryz.func191, Tryz.ntmps191
      go_wp2_with fail
      refine (look_any _ base b s p p h (by omega) hs).mono ?_
      rintro e w1 ⟨rfl, n2, rfl⟩
      go_wp2_with fail
      refine (Tryz.bits_LeadingZeros32 _ _ (by omega) (by omega)).mono ?_
      rintro e w1 ⟨rfl, rfl⟩
      go_wp2_with fail
      refine (left_any _ base b s p (RPost.refl h _).1 hs).mono ?_
      rintro e w1 ⟨rfl, n3, rfl⟩
      go_wp2_with fail
      go_ret2
      exact ⟨rfl, .refl h _⟩
    · rw [if_neg (by omega), if_neg g2]
      have hX0 : 1 ≤ val (win (bitAt s) (p + L) (L + 1)) := by
        rw [win_cons, one.out (by omega), val_cons, win_length]
        have := Nat.two_pow_pos L
        simp; omega
      have hX1 := val_win_lt (bitAt s) (p + L) (L + 1) (by omega)
      have h32 := val_win_lt (bitAt s) (p + L) 32 (by omega)
      have hdi : ((val (win (bitAt s) (p + L) 32) : Nat) : Int) / 2 ^ (31 - L) = ((val (win (bitAt s) (p + L) (L + 1)) : Nat) : Int) := by
        have := hdv.out
        rw [show L + 1 + (31 - L) = 32 from by omega] at this
        rw [← this, Int.natCast_ediv, Int.natCast_pow]; rfl
      generalize val (win (bitAt s) (p + L) (L + 1)) = X at *
      by_cases g3 : most < (X : Int) - 1
      · rw [if_pos (by omega)]
        go_enter Tryz.func191, Tryz.ntmps191
        go_wp2_with fail
        refine (look_any _ base b s p p h (by omega) hs).mono ?_
        rintro e w1 ⟨rfl, n2, rfl⟩
        go_wp2_with fail
        refine (Tryz.bits_LeadingZeros32 _ _ (by omega) (by omega)).mono ?_
        rintro e w1 ⟨rfl, rfl⟩
        go_wp2_with fail
        refine (left_any _ base b s p (RPost.refl h _).1 hs).mono ?_
        rintro e w1 ⟨rfl, n3, rfl⟩
        go_wp2_with fail
        refine (look_any _ base b s p _ (RPost.refl h _).1 (by omega) hs).mono ?_
        rintro e w1 ⟨rfl, n4, rfl⟩
        go_wp2_with fail
        go_ret2
        exact ⟨rfl, .refl h _⟩
      · rw [if_neg (by omega)]
        go_enter Tryz.func191, Tryz.ntmps191
        go_wp2_with fail
        refine (look_any _ base b s p p h (by omega) hs).mono ?_
        rintro e w1 ⟨rfl, n2, rfl⟩
        go_wp2_with fail
        refine (Tryz.bits_LeadingZeros32 _ _ (by omega) (by omega)).mono ?_
        rintro e w1 ⟨rfl, rfl⟩
        go_wp2_with fail
        refine (left_any _ base b s p (RPost.refl h _).1 hs).mono ?_
        rintro e w1 ⟨rfl, n3, rfl⟩
        go_wp2_with fail
        refine (look_any _ base b s p _ (RPost.refl h _).1 (by omega) hs).mono ?_
        rintro e w1 ⟨rfl, n4, rfl⟩
        go_wp2_with fail
        go_ret2
        have mv := rd_move (RPost.refl h (n2 + n3 + n4)).1 (p + (2 * L + 1)) (by omega)
        exact ⟨ret2 (by omega) rfl, .chain (RPost.refl h (n2 + n3 + n4)).2 mv⟩
end Go.Proofs.YthcbgijmnonckaaGreat
/- The bits' Reader, its exported calls. -/
namespace Go.Proofs.YthcbgijmnonckaaGreat
open Go.RowKit Zo

theorem rBits_any (w : World) (base b : Nat) (s : ByteArray) (p : Nat) (n : Int) (h : Rd w base b s p) (hs : s.size ≤ 140737488355328) :
    Calls Tryz.prog 25 #[.pointer (some ⟨b, 0, none⟩), .int .i64 n] w fun e w' =>
      e = .returned (.tuple #[.int .i64 ((rdBits (bitAt s) (8 * s.size) p n).1 : Int), .int .i64 (rdBits (bitAt s) (8 * s.size) p n).2.1]) ∧ RPost w base b s (rdBits (bitAt s) (8 * s.size) p n).2.2 w' := by
  by_cases hbad : n < 0 ∨ 32 < n
  · rw [rdBits, if_pos hbad]
    rcases hbad with h0 | h1
    · go_enter Tryz.func25, Tryz.ntmps25
      go_wp2_with fail
      refine (count_rd _ base b s p h).mono ?_
      rintro e w1 ⟨rfl, p1⟩
      go_wp2_with fail
      go_ret2
      exact ⟨rfl, p1⟩
    · go_enter Tryz.func25, Tryz.ntmps25
      go_wp2_with fail
      refine (count_rd _ base b s p h).mono ?_
      rintro e w1 ⟨rfl, p1⟩
      go_wp2_with fail
      go_ret2
      exact ⟨rfl, p1⟩
  · have h0 : 0 ≤ n := by omega
    have h1 : n ≤ 32 := by omega
    go_enter Tryz.func25, Tryz.ntmps25
    go_wp2_with fail
    refine (count_rd _ base b s p h).mono ?_
    rintro e w1 ⟨rfl, p1⟩
    go_wp2_with fail
    refine (take_any _ base b s p n p1.1 hs h0 h1).mono ?_
    rintro e w2 ⟨rfl, p2⟩
    go_wp2_with fail
    go_ret2
    exact ⟨rfl, .chain p1.2 p2⟩

theorem rUe_any (w : World) (base b : Nat) (s : ByteArray) (p : Nat) (h : Rd w base b s p) (hs : s.size ≤ 140737488355328) :
    Calls Tryz.prog 190 #[.pointer (some ⟨b, 0, none⟩)] w fun e w' =>
      e = .returned (.tuple #[.int .i64 ((rdUe (bitAt s) (8 * s.size) p 2147483646).1 : Int), .int .i64 (rdUe (bitAt s) (8 * s.size) p 2147483646).2.1]) ∧ RPost w base b s (rdUe (bitAt s) (8 * s.size) p 2147483646).2.2 w' := by
  go_enter Tryz.func190, Tryz.ntmps190
  go_wp2_with fail
  refine (count_rd _ base b s p h).mono ?_
  rintro e w1 ⟨rfl, p1⟩
  go_wp2_with fail
  refine (takeUe_any _ base b s p _ p1.1 hs).mono ?_
  rintro e w2 ⟨rfl, p2⟩
  go_wp2_with fail
  go_ret2
  exact ⟨rfl, .chain p1.2 p2⟩

theorem rdUe_most (f : Nat → Bool) (T p : Nat) (most : Int) (hm : 0 ≤ most) : ((rdUe f T p most).1 : Int) ≤ most := by
  unfold rdUe
  split
  · exact hm
  · split
    · exact hm
    · split
      · exact hm
      · simp only; omega

theorem unfolded_any (w : World) (x : Nat) (hx : x ≤ 2147483646) :
    Calls Tryz.prog 192 #[.int .i64 (x : Int)] w fun e w' => e = .returned (.int .i64 (unfoldedZ x)) ∧ w = w' := by
  by_cases h1 : x % 2 = 1
  · have hb : (((x : Int) % 2) == 1) = true := by simp; omega
    have H := Lib.hid h1
    clear h1
    go_enter Tryz.func192, Tryz.ntmps192
    go_wp2_with fail
    go_ret
    exact ⟨ret_int (by rw [unfoldedZ, if_pos H.out]; omega), rfl⟩
  · have hb : (((x : Int) % 2) == 1) = false := by simp; omega
    have H := Lib.hid h1
    clear h1
    go_enter Tryz.func192, Tryz.ntmps192
    go_wp2_with fail
    go_ret
    exact ⟨ret_int (by rw [unfoldedZ, if_neg H.out]; omega), rfl⟩

theorem rSe_any (w : World) (base b : Nat) (s : ByteArray) (p : Nat) (h : Rd w base b s p) (hs : s.size ≤ 140737488355328) :
    Calls Tryz.prog 189 #[.pointer (some ⟨b, 0, none⟩)] w fun e w' =>
      e = .returned (.tuple #[.int .i64 (unfoldedZ (rdUe (bitAt s) (8 * s.size) p 2147483646).1), .int .i64 (rdUe (bitAt s) (8 * s.size) p 2147483646).2.1]) ∧ RPost w base b s (rdUe (bitAt s) (8 * s.size) p 2147483646).2.2 w' := by
  have hm := rdUe_most (bitAt s) (8 * s.size) p 2147483646 (by omega)
  go_enter Tryz.func189, Tryz.ntmps189
  go_wp2_with fail
  refine (count_rd _ base b s p h).mono ?_
  rintro e w1 ⟨rfl, p1⟩
  go_wp2_with fail
  refine (takeUe_any _ base b s p _ p1.1 hs).mono ?_
  rintro e w2 ⟨rfl, p2⟩
  go_wp2_with fail
  refine (unfolded_any _ _ (by omega)).mono ?_
  rintro e w3 ⟨rfl, rfl⟩
  go_wp2_with fail
  go_ret2
  exact ⟨rfl, .chain p1.2 p2⟩

end Go.Proofs.YthcbgijmnonckaaGreat
/- The law's own test that a program answers at all; how a Writer and a Reader lie beside each other. -/
namespace Go.Proofs.YthcbgijmnonckaaGreat
open Go.RowKit Zo

theorem Wr.row {w : World} {base b : Nat} {o : Option Nat} {bits : List Bool} (h : Wr w base b o bits) : (∃ cs, w.heap[b]? = some (.cells cs 82 (0,0))) ∧ base ≤ b ∧ (∀ k, o = some k → base ≤ k ∧ ∃ cs, w.heap[k]? = some (.cells cs 5 (0,0))) := by
  obtain ⟨bytes, k, r, ⟨c, v, hrow, hbb, hv, hown, h256⟩, hk⟩ := h
  refine ⟨⟨_, hrow⟩, hbb, fun k e => ?_⟩
  rcases hown.2 with ⟨rfl, _⟩ | ⟨g, cap, cur, rfl, hbg, hg, _⟩
  · rw [← hv] at e; simp [Value.ownBlock] at e
  · rw [← hv] at e
    simp [Value.ownBlock] at e
    subst e
    exact ⟨hbg, _, hg⟩

theorem Wr.lt {w : World} {base b : Nat} {o : Option Nat} {bits : List Bool} (h : Wr w base b o bits) : base < w.heap.size := by
  obtain ⟨⟨_, h1⟩, h2, _⟩ := h.row
  have := row_lt h1; omega

theorem WPost.below {w w' : World} {base b : Nat} {o : Option Nat} {bits bits' : List Bool} (h : Wr w base b o bits) (p : WPost w base b o bits' w') : Below base w w' := by
  have hb := h.lt
  obtain ⟨_, _, f, _⟩ := p
  obtain ⟨_, h1, h2⟩ := h.row
  refine f.below (by omega) (fun k hk => ?_)
  rcases hk with rfl | e
  · exact h1
  · exact (h2 k e).1

theorem Rd.row {w : World} {base b : Nat} {s : ByteArray} {p : Nat} (h : Rd w base b s p) : (∃ cs, w.heap[b]? = some (.cells cs 116 (0,0))) ∧ base ≤ b := by
  obtain ⟨c, ones, h, hb, _⟩ := h
  exact ⟨⟨_, h⟩, hb⟩

theorem RPost.below {w w' : World} {base b : Nat} {s : ByteArray} {p q : Nat} (h : Rd w base b s p) (r : RPost w base b s q w') : Below base w w' := by
  obtain ⟨⟨_, h1⟩, h2⟩ := h.row
  have := row_lt h1
  exact r.2.below (by omega) (fun k hk => by subst hk; exact h2)

theorem Rd.beside {w w' : World} {base b b' : Nat} {o : Option Nat} {bits bits' : List Bool} {s : ByteArray} {p : Nat} (h : Rd w base b' s p) (hw : Wr w base b o bits) (r : WPost w base b o bits' w') : Rd w' base b' s p := by
  obtain ⟨_, _, f, _⟩ := r
  obtain ⟨⟨cs, h1⟩, _⟩ := h.row
  obtain ⟨⟨cs2, h2⟩, _, h3⟩ := hw.row
  refine h.fr f (fun hk => ?_)
  rcases hk with rfl | e
  · rw [h1] at h2; simp at h2
  · obtain ⟨_, cs3, h3⟩ := h3 _ e
    rw [h1] at h3; simp at h3

theorem Wr.beside {w w' : World} {base b b' : Nat} {o : Option Nat} {bits : List Bool} {s : ByteArray} {p q : Nat} (hw : Wr w base b o bits) (h : Rd w base b' s p) (r : RPost w base b' s q w') : Wr w' base b o bits := by
  obtain ⟨⟨cs, h1⟩, _⟩ := h.row
  obtain ⟨⟨cs2, h2⟩, _, h3⟩ := hw.row
  refine hw.fr r.2 (fun k hk e => ?_)
  subst e
  rcases hk with rfl | e
  · rw [h1] at h2; simp at h2
  · obtain ⟨_, cs3, h3⟩ := h3 _ e
    rw [h1] at h3; simp at h3

/-- A Writer, wherever its bytes lie. -/
def WrE (w : World) (B b : Nat) (bits : List Bool) : Prop := ∃ o, Wr w B b o bits

/-- Behind a call of the Writer in block b: its bits; what was made before B is as it was, and so is every Reader. -/
def WNext (w : World) (B b : Nat) (bits : List Bool) (w' : World) : Prop := WrE w' B b bits ∧ Below B w w' ∧ ∀ b' s p, Rd w B b' s p → Rd w' B b' s p

section
variable {w : World} {B b : Nat} {bits : List Bool}

theorem new_e (hb : B ≤ w.heap.size) : Calls Tryz.prog 11 #[] w fun e w' => ∃ b, e = .returned (.pointer (some ⟨b, 0, none⟩)) ∧ WNext w B b [] w' := by
  refine (new_any w B hb).mono ?_
  rintro e w' ⟨he, h1, f, _⟩
  exact ⟨_, he, ⟨none, h1⟩, f.below hb (fun _ h => h.elim), fun _ _ _ hr => hr.fr f (fun h => h)⟩

variable {s : ByteArray} {p : Nat}

end

theorem num_any (x : Int) (w : World) : Calls Tryz.prog 18 #[.int .i64 x] w fun e w' => e = .returned (.int .i64 x) ∧ w = w' := by
  go_enter Tryz.func18, Tryz.ntmps18
  go_wp2
  go_ret
  exact ⟨rfl, rfl⟩

end Go.Proofs.YthcbgijmnonckaaGreat
