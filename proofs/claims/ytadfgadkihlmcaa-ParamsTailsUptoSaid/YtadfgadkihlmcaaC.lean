/- The bits' Writer, further calls. -/
import Derived.Test.YtadfgadkihlmcaaB
namespace Go.Proofs.Ytadfgadkihlmcaa
open Go.RowKit Zo

theorem bitsW_bad (w : World) (base b : Nat) (o : Option Nat) (bits : List Bool) (x n : Int) (h : Wr w base b o bits) (hbad : n < 0 ∨ 32 < n ∨ x < 0) :
    Calls Try.prog 52 #[.pointer (some ⟨b, 0, none⟩), .int .i64 x, .int .i64 n] w fun e w' => e = .returned (.int .i64 101) ∧ WPost w base b o bits w' := by
  by_cases h0 : n < 0
  · go_enter Try.func52, Try.ntmps52
    go_wp2_with fail
    refine (count_wr _ base b o bits h).mono ?_
    rintro e w1 ⟨rfl, h1, f1⟩
    go_wp2_with fail
    go_ret
    exact ⟨rfl, count_post h1 f1⟩
  · by_cases h2 : 32 < n
    · go_enter Try.func52, Try.ntmps52
      go_wp2_with fail
      refine (count_wr _ base b o bits h).mono ?_
      rintro e w1 ⟨rfl, h1, f1⟩
      go_wp2_with fail
      go_ret
      exact ⟨rfl, count_post h1 f1⟩
    · have h3 : x < 0 := by omega
      go_enter Try.func52, Try.ntmps52
      go_wp2_with fail
      refine (count_wr _ base b o bits h).mono ?_
      rintro e w1 ⟨rfl, h1, f1⟩
      go_wp2_with fail
      go_ret
      exact ⟨rfl, count_post h1 f1⟩

theorem bitsW_big (w : World) (base b : Nat) (o : Option Nat) (bits : List Bool) (x : Int) (n : Nat) (h : Wr w base b o bits) (hn : n ≤ 32) (hx : 0 ≤ x) (hbig : (x / 2 ^ n != 0) = true) :
    Calls Try.prog 52 #[.pointer (some ⟨b, 0, none⟩), .int .i64 x, .int .i64 (n : Int)] w fun e w' => e = .returned (.int .i64 101) ∧ WPost w base b o bits w' := by
  go_enter Try.func52, Try.ntmps52
  go_wp2_with fail
  refine (count_wr _ base b o bits h).mono ?_
  rintro e w1 ⟨rfl, h1, f1⟩
  go_wp2_with fail
  go_ret
  exact ⟨rfl, count_post h1 f1⟩

theorem bitsW_ok (w : World) (base b : Nat) (o : Option Nat) (bits : List Bool) (x : Int) (n : Nat) (h : Wr w base b o bits) (hn : n ≤ 32) (hx : 0 ≤ x) (hxx : x < 4294967296) (hsm : (x / 2 ^ n != 0) = false) (hxn : Hid (x.toNat < 2 ^ n)) (hb : bits.length ≤ 100000000000) :
    Calls Try.prog 52 #[.pointer (some ⟨b, 0, none⟩), .int .i64 x, .int .i64 (n : Int)] w fun e w' => e = .returned (.int .i64 0) ∧ WPost w base b o (bits ++ digs n x.toNat) w' := by
  go_enter Try.func52, Try.ntmps52
  go_wp2_with fail
  refine (count_wr _ base b o bits h).mono ?_
  rintro e w1 ⟨rfl, h1, f1⟩
  go_wp2_with fail
  refine (put_wr _ base b o bits x n h1 hx (by omega) (by omega) hxn.out (by omega)).mono ?_
  rintro e w2 ⟨rfl, p2⟩
  go_wp2_with fail
  go_ret
  exact ⟨rfl, .chain f1 (fun _ e => .inl e) p2⟩

def bitsAns (x n : Int) : Int × List Bool := if 0 ≤ n ∧ n ≤ 32 ∧ 0 ≤ x ∧ x.toNat < 2 ^ n.toNat then (0, digs n.toNat x.toNat) else (101, [])

theorem bitsW_any (w : World) (base b : Nat) (o : Option Nat) (bits : List Bool) (x n : Int) (h : Wr w base b o bits) (hb : bits.length ≤ 100000000000) :
    Calls Try.prog 52 #[.pointer (some ⟨b, 0, none⟩), .int .i64 x, .int .i64 n] w fun e w' => e = .returned (.int .i64 (bitsAns x n).1) ∧ WPost w base b o (bits ++ (bitsAns x n).2) w' := by
  by_cases hbad : n < 0 ∨ 32 < n ∨ x < 0
  · rw [bitsAns, if_neg (by omega)]
    simp only [List.append_nil]
    exact bitsW_bad w base b o bits x n h hbad
  · obtain ⟨m, rfl⟩ := Int.eq_ofNat_of_zero_le (show 0 ≤ n by omega)
    obtain ⟨y, rfl⟩ := Int.eq_ofNat_of_zero_le (show 0 ≤ x by omega)
    have e : ((y : Int) / 2 ^ m) = ((y / 2 ^ m : Nat) : Int) := by rw [Int.natCast_ediv, Int.natCast_pow]; rfl
    by_cases hlt : y < 2 ^ m
    · have h0 : y / 2 ^ m = 0 := Nat.div_eq_of_lt hlt
      have h32 : (2 : Nat) ^ m ≤ 2 ^ 32 := Nat.pow_le_pow_right (by omega) (by omega)
      rw [bitsAns, if_pos (by rw [Int.toNat_natCast, Int.toNat_natCast]; omega)]
      simp only [Int.toNat_natCast]
      exact bitsW_ok w base b o bits y m h (by omega) (by omega) (by omega) (by rw [e, h0]; rfl) (by rw [Int.toNat_natCast]; exact hlt) hb
    · have h0 : 0 < y / 2 ^ m := Nat.div_pos (by omega) (Nat.two_pow_pos _)
      rw [bitsAns, if_neg (by rw [Int.toNat_natCast, Int.toNat_natCast]; omega)]
      simp only [List.append_nil]
      exact bitsW_big w base b o bits y m h (by omega) (by omega) (by rw [e]; simp; omega)

def teAns (x most : Int) : Int × List Bool :=
  if 1 ≤ most ∧ 0 ≤ x ∧ x ≤ most then if most = 1 then (0, [decide (x = 0)]) else ueAns x else (101, [])

theorem trailW_any (w : World) (base b : Nat) (o : Option Nat) (bits : List Bool) (h : Wr w base b o bits) (hb : bits.length ≤ 100000000000) :
    Calls Try.prog 32 #[.pointer (some ⟨b, 0, none⟩)] w fun e w' => e = .returned (.tuple #[]) ∧ WPost w base b o (bits ++ trailB bits.length) w' := by
  go_enter Try.func32, Try.ntmps32
  go_wp2_with fail
  refine (count_wr _ base b o bits h).mono ?_
  rintro e w1 ⟨rfl, h1, f1⟩
  go_wp2_with fail
  refine (put_wr _ base b o bits 1 1 h1 (by omega) (by omega) (by omega) (by decide) (by omega)).mono ?_
  rintro e w2 ⟨rfl, o2, ⟨bytes, k, r, hc, hk, hr, hh⟩, f2, p2⟩
  have hlen : 8 * bytes.length + k = bits.length + 1 := by rw [← held_length bytes k r, hh]; simp [digs_length]
  have HL := Lib.hid hlen
  have HH := Lib.hid hh
  have hcc := hc
  obtain ⟨c, v, hrow, _, _, _, _⟩ := hcc
  have c3 := cell_of_row w2 b 3 _ _ _ hrow
  simp at c3
  clear hrow hlen hh
  by_cases h0 : 0 < k
  · go_wp2_with fail
    refine (put_wr _ base b o2 (bits ++ digs (1 : Int).toNat (1 : Int).toNat) 0 _ ⟨bytes, k, r, hc, hk, hr, HH.out⟩ (by omega) (by omega) (by omega) (by simp [Nat.two_pow_pos]) (by simp [digs_length]; omega)).mono ?_
    rintro e w3 ⟨rfl, p3⟩
    go_wp2_with fail
    go_end0
    refine ⟨rfl, .chain f1 (fun _ e => .inl e) (.chain f2 p2 ?_)⟩
    rw [List.append_assoc, show ((8 : Int) - k).toNat = 8 - k from by omega, show (Int.toNat 0) = 0 from rfl, digs_of_zero] at p3
    rw [trailB, show 7 - bits.length % 8 = 8 - k from by have := HL.out; omega]
    exact p3
  · obtain rfl : k = 0 := by omega
    go_wp2_with fail
    go_end0
    refine ⟨rfl, .chain f1 (fun _ e => .inl e) ⟨o2, ⟨bytes, 0, r, hc, hk, hr, ?_⟩, f2, p2⟩⟩
    rw [HH.out, trailB, show 7 - bits.length % 8 = 0 from by have := HL.out; omega]
    rfl
end Go.Proofs.Ytadfgadkihlmcaa
