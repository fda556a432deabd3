/- The bits' Writer, call by call: the bits that it holds behind each. -/
import Derived.Test.YtadfgadkihlmcaaA
import Derived.Test.YtadfgadkihlmcaaShelf
import Derived.Lib.SlBytesRow
import Derived.Lib.BufferRead
import Derived.Deep.QuietTactic
import Derived.BigQuiet
namespace Go.Proofs.Ytadfgadkihlmcaa
open Go.RowKit Zo

theorem ret_int {k : IntKind} {a b : Int} (h : a = b) : Ending.returned (.int k a) = .returned (.int k b) := by rw [h]

theorem ret_bool {a b : Bool} (h : a = b) : Ending.returned (.bool a) = .returned (.bool b) := by rw [h]

/-- Block b is a Writer that holds these bits; its bytes lie in block o. -/
def Wr (w : World) (base b : Nat) (o : Option Nat) (bits : List Bool) : Prop := ∃ bytes k r, WrC w base b o bytes k r ∧ k ≤ 7 ∧ r < 2 ^ k ∧ held bytes k r = bits

def WPost (w : World) (base b : Nat) (o : Option Nat) (bits : List Bool) (w' : World) : Prop :=
  ∃ o', Wr w' base b o' bits ∧ Fr (wsel b o) w w' ∧ (∀ k, o' = some k → o = some k ∨ w.heap.size ≤ k)

theorem WPost.chain {w w1 w2 : World} {base b : Nat} {o o1 : Option Nat} {bits : List Bool} (f1 : Fr (wsel b o) w w1) (p1 : ∀ k, o1 = some k → o = some k ∨ w.heap.size ≤ k) (h : WPost w1 base b o1 bits w2) : WPost w base b o bits w2 := by
  obtain ⟨o2, h2, f2, p2⟩ := h
  refine ⟨o2, h2, f1.trans f2 (fun i hi ht => ?_), fun i e => ?_⟩
  · rcases ht with h | h
    · exact .inl h
    · rcases p1 i h with e | e
      · exact .inr e
      · omega
  · rcases p2 i e with e | e
    · exact p1 i e
    · have := f1.size; exact .inr (by omega)

theorem WPost.refl {w : World} {base b : Nat} {o : Option Nat} {bits : List Bool} (h : Wr w base b o bits) : WPost w base b o bits w := ⟨o, h, Fr.refl _ _, fun _ e => .inl e⟩

theorem count_wr (w : World) (base b : Nat) (o : Option Nat) (bits : List Bool) (h : Wr w base b o bits) :
    Calls Try.prog 59 #[.pointer (some ⟨b, 0, none⟩)] w fun e w' => e = .returned (.tuple #[]) ∧ Wr w' base b o bits ∧ Fr (wsel b o) w w' := by
  obtain ⟨bytes, k, r, ⟨c, v, h, hbb, hv, hown, h256⟩, hk, hr, hh⟩ := h
  have h0 := cell_of_row w b 0 _ _ _ h
  have f0 := free_row h 0
  simp at h0
  have hadd := run_call_add (P := Try.prog) Try.func77 (by kernel_rfl) (by kernel_rfl) (by kernel_rfl) .u32 (by kernel_rfl) (y := 1) (s := IntKind.u32.wrap (c + 1)) h0 f0 (by simp [go_sem])
  go_enter Try.func59, Try.ntmps59
  go_wp2
  go_end0
  refine ⟨rfl, ⟨bytes, k, r, ⟨(c + 1) % 4294967296, v, (heap_setCell_row h 0 _).trans (by simp), hbb, hv, ownsRow_setCell hown (ownsRow_ne hown h (by decide)) 0 _, h256⟩, hk, hr, hh⟩, (Fr.refl _ _).setCell (fun _ => .inl rfl) _⟩

theorem count_post {w w1 : World} {base b : Nat} {o : Option Nat} {bits : List Bool} (h : Wr w1 base b o bits) (f : Fr (wsel b o) w w1) : WPost w base b o bits w1 := ⟨o, h, f, fun _ e => .inl e⟩

theorem put_wr (w : World) (base b : Nat) (o : Option Nat) (bits : List Bool) (x n : Int) (h : Wr w base b o bits) (hx : 0 ≤ x) (hn0 : 0 ≤ n) (hn : n ≤ 32) (hxn : x.toNat < 2 ^ n.toNat) (hb : bits.length ≤ 1000000000000) :
    Calls Try.prog 61 #[.pointer (some ⟨b, 0, none⟩), .int .u64 x, .int .i64 n] w fun e w' => e = .returned (.tuple #[]) ∧ WPost w base b o (bits ++ digs n.toNat x.toNat) w' := by
  obtain ⟨bytes, k, r, hc, hk, hr, rfl⟩ := h
  rw [held_length] at hb
  refine (put_any w base b o bytes k r x n hc hx hn0 hn hxn hk hr (by omega)).mono ?_
  rintro e w' ⟨he, o', bytes', k', r', h1, h2, h3, h4, h5, h6⟩
  exact ⟨he, o', ⟨bytes', k', r', h1, h2, h3, h4⟩, h5, h6⟩

theorem new_any (w : World) (base : Nat) (hb : base ≤ w.heap.size) :
    Calls Try.prog 29 #[] w fun e w' => e = .returned (.pointer (some ⟨w.heap.size, 0, none⟩)) ∧ Wr w' base w.heap.size none [] ∧ Fr (fun _ => False) w w' ∧ w'.heap.size = w.heap.size + 1 := by
  go_enter Try.func29, Try.ntmps29
  go_wp2
  go_ret
  refine ⟨rfl, ⟨[], 0, 0, ⟨0, .slice none 0 0, heap_alloc_last w _, hb, rfl, World.ownsRow_nil _ _ _ _, by simp⟩, by omega, by decide, rfl⟩, (Fr.refl _ _).alloc _, by simp⟩

theorem putUe_yes (w : World) (base b : Nat) (o : Option Nat) (bits : List Bool) (x : Int) (h : Wr w base b o bits) (hx : 0 ≤ x) (hm : x ≤ 2147483646) (hb : bits.length ≤ 100000000000) :
    Calls Try.prog 60 #[.pointer (some ⟨b, 0, none⟩), .int .i64 x] w fun e w' => e = .returned (.int .i64 0) ∧ WPost w base b o (bits ++ ueB x.toNat) w' := by
  obtain ⟨n, rfl⟩ := Int.eq_ofNat_of_zero_le hx
  have h1 := Zo.bitLen_le (n + 1) 31 (by omega) (by omega)
  obtain ⟨_, h2, h3, _⟩ := Zo.bitLen_spec (n + 1) (by omega) (by omega)
  rw [Int.toNat_natCast]
  have H2 := Lib.hid h2
  clear h2
  have G := Lib.hid (show ((n : Int) + 1).toNat = n + 1 from by omega)
  go_enter Try.func60, Try.ntmps60
  go_wp2_with fail
  refine (Try.bits_Len64 _ _ (by omega) (by omega)).mono ?_
  rintro e w' ⟨rfl, rfl⟩
  go_wp2_with fail
  refine (put_wr _ base b o bits _ _ h (by omega) (by omega) (by omega) (by simp [Nat.two_pow_pos]) (by omega)).mono ?_
  rintro e w1 ⟨rfl, o1, q1, f1, r1⟩
  go_wp2_with fail
  refine (put_wr _ base b o1 _ _ _ q1 (by omega) (by omega) (by omega) (by rw [G.out, Int.toNat_natCast]; exact H2.out) (by simp [digs_length]; omega)).mono ?_
  rintro e w2 ⟨rfl, p2⟩
  go_wp2_with fail
  go_ret
  refine ⟨rfl, .chain f1 r1 ?_⟩
  rw [G.out, Int.toNat_natCast, show ((Lib.bitLen (n + 1) : Int) - 1).toNat = Lib.bitLen (n + 1) - 1 from by omega] at p2
  rwa [ueB, ← digs_of_zero, ← List.append_assoc]

theorem putUe_no (w : World) (p : Value) (x : Int) (hx : x < 0 ∨ 2147483646 < x) :
    Calls Try.prog 60 #[p, .int .i64 x] w fun e w' => e = .returned (.int .i64 101) ∧ w' = w := by
  by_cases h0 : x < 0
  · go_enter Try.func60, Try.ntmps60
    go_wp2_with fail
    go_ret
    exact ⟨rfl, rfl⟩
  · have h1 : 2147483646 < x := by omega
    go_enter Try.func60, Try.ntmps60
    go_wp2_with fail
    go_ret
    exact ⟨rfl, rfl⟩

/-- What Ue answers, and the bits that it adds. -/
def ueAns (x : Int) : Int × List Bool := if 0 ≤ x ∧ x ≤ 2147483646 then (0, ueB x.toNat) else (101, [])

theorem putUe_any (w : World) (base b : Nat) (o : Option Nat) (bits : List Bool) (x : Int) (h : Wr w base b o bits) (hb : bits.length ≤ 100000000000) :
    Calls Try.prog 60 #[.pointer (some ⟨b, 0, none⟩), .int .i64 x] w fun e w' => e = .returned (.int .i64 (ueAns x).1) ∧ WPost w base b o (bits ++ (ueAns x).2) w' := by
  by_cases hx : 0 ≤ x ∧ x ≤ 2147483646
  · simp only [ueAns, if_pos hx]
    exact putUe_yes w base b o bits x h hx.1 hx.2 hb
  · simp only [ueAns, if_neg hx]
    refine (putUe_no w _ x (by omega)).mono ?_
    rintro e w' ⟨he, rfl⟩
    exact ⟨he, by rw [List.append_nil]; exact .refl h⟩

theorem ue_any (w : World) (base b : Nat) (o : Option Nat) (bits : List Bool) (x : Int) (h : Wr w base b o bits) (hb : bits.length ≤ 100000000000) :
    Calls Try.prog 30 #[.pointer (some ⟨b, 0, none⟩), .int .i64 x] w fun e w' => e = .returned (.int .i64 (ueAns x).1) ∧ WPost w base b o (bits ++ (ueAns x).2) w' := by
  go_enter Try.func30, Try.ntmps30
  go_wp2_with fail
  refine (count_wr _ base b o bits h).mono ?_
  rintro e w1 ⟨rfl, h1, f1⟩
  go_wp2_with fail
  refine (putUe_any _ base b o bits x h1 hb).mono ?_
  rintro e w2 ⟨rfl, p2⟩
  go_wp2_with fail
  go_ret
  exact ⟨rfl, .chain f1 (fun _ e => .inl e) p2⟩

theorem folded_any (w : World) (x : Int) (h0 : -1073741824 < x) (h1 : x < 1073741824) :
    Calls Try.prog 73 #[.int .i64 x] w fun e w' => e = .returned (.int .i64 (foldedN x : Int)) ∧ w' = w := by
  by_cases h : 0 < x
  · go_enter Try.func73, Try.ntmps73
    go_wp2_with fail
    go_ret
    exact ⟨ret_int (by rw [foldedN, if_pos h]; omega), rfl⟩
  · go_enter Try.func73, Try.ntmps73
    go_wp2_with fail
    go_ret
    exact ⟨ret_int (by rw [foldedN, if_neg (by omega)]; omega), rfl⟩

def seAns (x : Int) : Int × List Bool := if -1073741823 ≤ x ∧ x ≤ 1073741823 then (0, seB x) else (101, [])

theorem se_any (w : World) (base b : Nat) (o : Option Nat) (bits : List Bool) (x : Int) (h : Wr w base b o bits) (hb : bits.length ≤ 100000000000) :
    Calls Try.prog 53 #[.pointer (some ⟨b, 0, none⟩), .int .i64 x] w fun e w' => e = .returned (.int .i64 (seAns x).1) ∧ WPost w base b o (bits ++ (seAns x).2) w' := by
  by_cases hx : -1073741823 ≤ x ∧ x ≤ 1073741823
  · have hf : ueAns (foldedN x : Int) = seAns x := by
      have hle : (foldedN x : Int) ≤ 2147483646 := by rw [foldedN]; split <;> omega
      simp only [ueAns, seAns, if_pos hx, if_pos (show 0 ≤ (foldedN x : Int) ∧ (foldedN x : Int) ≤ 2147483646 from ⟨by omega, hle⟩)]
      rw [seB, Int.toNat_natCast]
    have F := Lib.hid hf
    clear hf
    obtain ⟨g1, g2⟩ := hx
    go_enter Try.func53, Try.ntmps53
    go_wp2_with fail
    refine (count_wr _ base b o bits h).mono ?_
    rintro e w1 ⟨rfl, h1, f1⟩
    go_wp2_with fail
    refine (folded_any _ x (by omega) (by omega)).mono ?_
    rintro e w1' ⟨rfl, rfl⟩
    go_wp2_with fail
    refine (putUe_any _ base b o bits _ h1 hb).mono ?_
    rintro e w2 ⟨rfl, p2⟩
    go_wp2_with fail
    go_ret
    rw [F.out] at p2
    exact ⟨ret_int (by rw [F.out]), .chain f1 (fun _ e => .inl e) p2⟩
  · simp only [seAns, if_neg hx]
    by_cases h0 : x < -1073741823
    · go_enter Try.func53, Try.ntmps53
      go_wp2_with fail
      refine (count_wr _ base b o bits h).mono ?_
      rintro e w1 ⟨rfl, h1, f1⟩
      go_wp2_with fail
      go_ret
      exact ⟨rfl, by rw [List.append_nil]; exact count_post h1 f1⟩
    · have h1' : 1073741823 < x := by omega
      go_enter Try.func53, Try.ntmps53
      go_wp2_with fail
      refine (count_wr _ base b o bits h).mono ?_
      rintro e w1 ⟨rfl, h1, f1⟩
      go_wp2_with fail
      go_ret
      exact ⟨rfl, by rw [List.append_nil]; exact count_post h1 f1⟩
end Go.Proofs.Ytadfgadkihlmcaa
