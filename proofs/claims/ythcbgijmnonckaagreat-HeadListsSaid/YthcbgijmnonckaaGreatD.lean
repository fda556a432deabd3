/- The bits' Writer, call by call: the bits that it holds behind each. -/
import Derived.Test.YthcbgijmnonckaaGreatA
import Derived.Test.YthcbgijmnonckaaGreatShelf
import Derived.Lib.SlBytesRow
import Derived.Lib.BufferRead
import Derived.Deep.QuietTactic
import Derived.BigQuiet
namespace Go.Proofs.YthcbgijmnonckaaGreat
open Go.RowKit Zo

theorem ret_int {k : IntKind} {a b : Int} (h : a = b) : Ending.returned (.int k a) = .returned (.int k b) := by rw [h]

theorem ret_bool {a b : Bool} (h : a = b) : Ending.returned (.bool a) = .returned (.bool b) := by rw [h]

/-- Block b is a Writer that holds these bits; its bytes lie in block o. -/
def Wr (w : World) (base b : Nat) (o : Option Nat) (bits : List Bool) : Prop := ∃ bytes k r, WrC w base b o bytes k r ∧ k ≤ 7 ∧ r < 2 ^ k ∧ held bytes k r = bits

def WPost (w : World) (base b : Nat) (o : Option Nat) (bits : List Bool) (w' : World) : Prop :=
  ∃ o', Wr w' base b o' bits ∧ Fr (wsel b o) w w' ∧ (∀ k, o' = some k → o = some k ∨ w.heap.size ≤ k)

theorem WPost.chain {w w1 w2 : World} {base b : Nat} {o o1 : Option Nat} {bits : List Bool} (f1 : Fr (wsel b o) w w1) (p1 : ∀ k, o1 = some k → o = some k ∨ w.heap.size ≤ k) (h : WPost w1 base b o1 bits w2) : WPost w base b o bits w2 := by
  obtain ⟨o2, h2, f2, p2⟩ := h
  refine ⟨o2, h2, f1.trans f2 (fun i hi ht => ?_), fun i e => ?_⟩
  · rcases ht with h | h
    · exact .inl h
    · rcases p1 i h with e | e
      · exact .inr e
      · omega
  · rcases p2 i e with e | e
    · exact p1 i e
    · have := f1.size; exact .inr (by omega)

theorem WPost.refl {w : World} {base b : Nat} {o : Option Nat} {bits : List Bool} (h : Wr w base b o bits) : WPost w base b o bits w := ⟨o, h, Fr.refl _ _, fun _ e => .inl e⟩

theorem count_wr (w : World) (base b : Nat) (o : Option Nat) (bits : List Bool) (h : Wr w base b o bits) :
    Calls Tryz.prog 37 #[.pointer (some ⟨b, 0, none⟩)] w fun e w' => e = .returned (.tuple #[]) ∧ Wr w' base b o bits ∧ Fr (wsel b o) w w' := by
  obtain ⟨bytes, k, r, ⟨c, v, h, hbb, hv, hown, h256⟩, hk, hr, hh⟩ := h
  have h0 := cell_of_row w b 0 _ _ _ h
  have f0 := free_row h 0
  simp at h0
  have hadd := run_call_add (P := Tryz.prog) Tryz.func72 (by kernel_rfl) (by kernel_rfl) (by kernel_rfl) .u32 (by kernel_rfl) (y := 1) (s := IntKind.u32.wrap (c + 1)) h0 f0 (by simp [go_sem])
  go_enter Tryz.func37, Tryz.ntmps37
  go_wp2
  go_end0
  refine ⟨rfl, ⟨bytes, k, r, ⟨(c + 1) % 4294967296, v, (heap_setCell_row h 0 _).trans (by simp), hbb, hv, ownsRow_setCell hown (ownsRow_ne hown h (by decide)) 0 _, h256⟩, hk, hr, hh⟩, (Fr.refl _ _).setCell (fun _ => .inl rfl) _⟩

theorem count_post {w w1 : World} {base b : Nat} {o : Option Nat} {bits : List Bool} (h : Wr w1 base b o bits) (f : Fr (wsel b o) w w1) : WPost w base b o bits w1 := ⟨o, h, f, fun _ e => .inl e⟩

theorem put_wr (w : World) (base b : Nat) (o : Option Nat) (bits : List Bool) (x n : Int) (h : Wr w base b o bits) (hx : 0 ≤ x) (hn0 : 0 ≤ n) (hn : n ≤ 32) (hxn : x.toNat < 2 ^ n.toNat) (hb : bits.length ≤ 1000000000000) :
    Calls Tryz.prog 38 #[.pointer (some ⟨b, 0, none⟩), .int .u64 x, .int .i64 n] w fun e w' => e = .returned (.tuple #[]) ∧ WPost w base b o (bits ++ digs n.toNat x.toNat) w' := by
  obtain ⟨bytes, k, r, hc, hk, hr, rfl⟩ := h
  rw [held_length] at hb
  refine (put_any w base b o bytes k r x n hc hx hn0 hn hxn hk hr (by omega)).mono ?_
  rintro e w' ⟨he, o', bytes', k', r', h1, h2, h3, h4, h5, h6⟩
  exact ⟨he, o', ⟨bytes', k', r', h1, h2, h3, h4⟩, h5, h6⟩

theorem new_any (w : World) (base : Nat) (hb : base ≤ w.heap.size) :
    Calls Tryz.prog 11 #[] w fun e w' => e = .returned (.pointer (some ⟨w.heap.size, 0, none⟩)) ∧ Wr w' base w.heap.size none [] ∧ Fr (fun _ => False) w w' ∧ w'.heap.size = w.heap.size + 1 := by
  go_enter Tryz.func11, Tryz.ntmps11
  go_wp2
  go_ret
  refine ⟨rfl, ⟨[], 0, 0, ⟨0, .slice none 0 0, heap_alloc_last w _, hb, rfl, World.ownsRow_nil _ _ _ _, by simp⟩, by omega, by decide, rfl⟩, (Fr.refl _ _).alloc _, by simp⟩

theorem putUe_yes (w : World) (base b : Nat) (o : Option Nat) (bits : List Bool) (x : Int) (h : Wr w base b o bits) (hx : 0 ≤ x) (hm : x ≤ 2147483646) (hb : bits.length ≤ 100000000000) :
    Calls Tryz.prog 182 #[.pointer (some ⟨b, 0, none⟩), .int .i64 x] w fun e w' => e = .returned (.int .i64 0) ∧ WPost w base b o (bits ++ ueB x.toNat) w' := by
  obtain ⟨n, rfl⟩ := Int.eq_ofNat_of_zero_le hx
  have h1 := Zo.bitLen_le (n + 1) 31 (by omega) (by omega)
  obtain ⟨_, h2, h3, _⟩ := Zo.bitLen_spec (n + 1) (by omega) (by omega)
  rw [Int.toNat_natCast]
  have H2 := Lib.hid h2
  clear h2
  have G := Lib.hid (show ((n : Int) + 1).toNat = n + 1 from by omega)
  go_enter Tryz.func182, Tryz.ntmps182
  go_wp2_with fail
  refine (Tryz.bits_Len64 _ _ (by omega) (by omega)).mono ?_
  rintro e w' ⟨rfl, rfl⟩
  go_wp2_with fail
  refine (put_wr _ base b o bits _ _ h (by omega) (by omega) (by omega) (by simp [Nat.two_pow_pos]) (by omega)).mono ?_
  rintro e w1 ⟨rfl, o1, q1, f1, r1⟩
  go_wp2_with fail
  refine (put_wr _ base b o1 _ _ _ q1 (by omega) (by omega) (by omega) (by rw [G.out, Int.toNat_natCast]; exact H2.out) (by simp [digs_length]; omega)).mono ?_
  rintro e w2 ⟨rfl, p2⟩
  go_wp2_with fail
  go_ret
  refine ⟨rfl, .chain f1 r1 ?_⟩
  rw [G.out, Int.toNat_natCast, show ((Lib.bitLen (n + 1) : Int) - 1).toNat = Lib.bitLen (n + 1) - 1 from by omega] at p2
  rwa [ueB, ← digs_of_zero, ← List.append_assoc]

theorem putUe_no (w : World) (p : Value) (x : Int) (hx : x < 0 ∨ 2147483646 < x) :
    Calls Tryz.prog 182 #[p, .int .i64 x] w fun e w' => e = .returned (.int .i64 101) ∧ w' = w := by
  by_cases h0 : x < 0
  · go_enter Tryz.func182, Tryz.ntmps182
    go_wp2_with fail
    go_ret
    exact ⟨rfl, rfl⟩
  · have h1 : 2147483646 < x := by omega
    go_enter Tryz.func182, Tryz.ntmps182
    go_wp2_with fail
    go_ret
    exact ⟨rfl, rfl⟩

/-- What Ue answers, and the bits that it adds. -/
def ueAns (x : Int) : Int × List Bool := if 0 ≤ x ∧ x ≤ 2147483646 then (0, ueB x.toNat) else (101, [])

theorem putUe_any (w : World) (base b : Nat) (o : Option Nat) (bits : List Bool) (x : Int) (h : Wr w base b o bits) (hb : bits.length ≤ 100000000000) :
    Calls Tryz.prog 182 #[.pointer (some ⟨b, 0, none⟩), .int .i64 x] w fun e w' => e = .returned (.int .i64 (ueAns x).1) ∧ WPost w base b o (bits ++ (ueAns x).2) w' := by
  by_cases hx : 0 ≤ x ∧ x ≤ 2147483646
  · simp only [ueAns, if_pos hx]
    exact putUe_yes w base b o bits x h hx.1 hx.2 hb
  · simp only [ueAns, if_neg hx]
    refine (putUe_no w _ x (by omega)).mono ?_
    rintro e w' ⟨he, rfl⟩
    exact ⟨he, by rw [List.append_nil]; exact .refl h⟩

theorem ue_any (w : World) (base b : Nat) (o : Option Nat) (bits : List Bool) (x : Int) (h : Wr w base b o bits) (hb : bits.length ≤ 100000000000) :
    Calls Tryz.prog 181 #[.pointer (some ⟨b, 0, none⟩), .int .i64 x] w fun e w' => e = .returned (.int .i64 (ueAns x).1) ∧ WPost w base b o (bits ++ (ueAns x).2) w' := by
  go_enter Tryz.func181, Tryz.ntmps181
  go_wp2_with fail
  refine (count_wr _ base b o bits h).mono ?_
  rintro e w1 ⟨rfl, h1, f1⟩
  go_wp2_with fail
  refine (putUe_any _ base b o bits x h1 hb).mono ?_
  rintro e w2 ⟨rfl, p2⟩
  go_wp2_with fail
  go_ret
  exact ⟨rfl, .chain f1 (fun _ e => .inl e) p2⟩

theorem folded_any (w : World) (x : Int) (h0 : -1073741824 < x) (h1 : x < 1073741824) :
    Calls Tryz.prog 183 #[.int .i64 x] w fun e w' => e = .returned (.int .i64 (foldedN x : Int)) ∧ w' = w := by
  by_cases h : 0 < x
  · go_enter Tryz.func183, Tryz.ntmps183
    go_wp2_with fail
    go_ret
    exact ⟨ret_int (by rw [foldedN, if_pos h]; omega), rfl⟩
  · go_enter Tryz.func183, Tryz.ntmps183
    go_wp2_with fail
    go_ret
    exact ⟨ret_int (by rw [foldedN, if_neg (by omega)]; omega), rfl⟩

def seAns (x : Int) : Int × List Bool := if -1073741823 ≤ x ∧ x ≤ 1073741823 then (0, seB x) else (101, [])

theorem se_any (w : World) (base b : Nat) (o : Option Nat) (bits : List Bool) (x : Int) (h : Wr w base b o bits) (hb : bits.length ≤ 100000000000) :
    Calls Tryz.prog 180 #[.pointer (some ⟨b, 0, none⟩), .int .i64 x] w fun e w' => e = .returned (.int .i64 (seAns x).1) ∧ WPost w base b o (bits ++ (seAns x).2) w' := by
  by_cases hx : -1073741823 ≤ x ∧ x ≤ 1073741823
  · have hf : ueAns (foldedN x : Int) = seAns x := by
      have hle : (foldedN x : Int) ≤ 2147483646 := by rw [foldedN]; split <;> omega
      simp only [ueAns, seAns, if_pos hx, if_pos (show 0 ≤ (foldedN x : Int) ∧ (foldedN x : Int) ≤ 2147483646 from ⟨by omega, hle⟩)]
      rw [seB, Int.toNat_natCast]
    have F := Lib.hid hf
    clear hf
    obtain ⟨g1, g2⟩ := hx
    go_enter Tryz.func180, Tryz.ntmps180
    go_wp2_with fail
    refine (count_wr _ base b o bits h).mono ?_
    rintro e w1 ⟨rfl, h1, f1⟩
    go_wp2_with fail
    refine (folded_any _ x (by omega) (by omega)).mono ?_
    rintro e w1' ⟨rfl, rfl⟩
    go_wp2_with fail
    refine (putUe_any _ base b o bits _ h1 hb).mono ?_
    rintro e w2 ⟨rfl, p2⟩
    go_wp2_with fail
    go_ret
    rw [F.out] at p2
    exact ⟨ret_int (by rw [F.out]), .chain f1 (fun _ e => .inl e) p2⟩
  · simp only [seAns, if_neg hx]
    by_cases h0 : x < -1073741823
    · go_enter Tryz.func180, Tryz.ntmps180
      go_wp2_with fail
      refine (count_wr _ base b o bits h).mono ?_
      rintro e w1 ⟨rfl, h1, f1⟩
      go_wp2_with fail
      go_ret
      exact ⟨rfl, by rw [List.append_nil]; exact count_post h1 f1⟩
    · have h1' : 1073741823 < x := by omega
      go_enter Tryz.func180, Tryz.ntmps180
      go_wp2_with fail
      refine (count_wr _ base b o bits h).mono ?_
      rintro e w1 ⟨rfl, h1, f1⟩
      go_wp2_with fail
      go_ret
      exact ⟨rfl, by rw [List.append_nil]; exact count_post h1 f1⟩
end Go.Proofs.YthcbgijmnonckaaGreat
/- The bits' Writer, further calls. -/
namespace Go.Proofs.YthcbgijmnonckaaGreat
open Go.RowKit Zo

theorem bitsW_bad (w : World) (base b : Nat) (o : Option Nat) (bits : List Bool) (x n : Int) (h : Wr w base b o bits) (hbad : n < 0 ∨ 32 < n ∨ x < 0) :
    Calls Tryz.prog 12 #[.pointer (some ⟨b, 0, none⟩), .int .i64 x, .int .i64 n] w fun e w' => e = .returned (.int .i64 101) ∧ WPost w base b o bits w' := by
  by_cases h0 : n < 0
  · go_enter Tryz.func12, Tryz.ntmps12
    go_wp2_with fail
    refine (count_wr _ base b o bits h).mono ?_
    rintro e w1 ⟨rfl, h1, f1⟩
    go_wp2_with fail
    go_ret
    exact ⟨rfl, count_post h1 f1⟩
  · by_cases h2 : 32 < n
    · go_enter Tryz.func12, Tryz.ntmps12
      go_wp2_with fail
      refine (count_wr _ base b o bits h).mono ?_
      rintro e w1 ⟨rfl, h1, f1⟩
      go_wp2_with fail
      go_ret
      exact ⟨rfl, count_post h1 f1⟩
    · have h3 : x < 0 := by omega
      go_enter Tryz.func12, Tryz.ntmps12
      go_wp2_with fail
      refine (count_wr _ base b o bits h).mono ?_
      rintro e w1 ⟨rfl, h1, f1⟩
      go_wp2_with fail
      go_ret
      exact ⟨rfl, count_post h1 f1⟩

theorem bitsW_big (w : World) (base b : Nat) (o : Option Nat) (bits : List Bool) (x : Int) (n : Nat) (h : Wr w base b o bits) (hn : n ≤ 32) (hx : 0 ≤ x) (hbig : (x / 2 ^ n != 0) = true) :
    Calls Tryz.prog 12 #[.pointer (some ⟨b, 0, none⟩), .int .i64 x, .int .i64 (n : Int)] w fun e w' => e = .returned (.int .i64 101) ∧ WPost w base b o bits w' := by
  go_enter Tryz.func12, Tryz.ntmps12
  go_wp2_with fail
  refine (count_wr _ base b o bits h).mono ?_
  rintro e w1 ⟨rfl, h1, f1⟩
  go_wp2_with fail
  go_ret
  exact ⟨rfl, count_post h1 f1⟩

theorem bitsW_ok (w : World) (base b : Nat) (o : Option Nat) (bits : List Bool) (x : Int) (n : Nat) (h : Wr w base b o bits) (hn : n ≤ 32) (hx : 0 ≤ x) (hxx : x < 4294967296) (hsm : (x / 2 ^ n != 0) = false) (hxn : Hid (x.toNat < 2 ^ n)) (hb : bits.length ≤ 100000000000) :
    Calls Tryz.prog 12 #[.pointer (some ⟨b, 0, none⟩), .int .i64 x, .int .i64 (n : Int)] w fun e w' => e = .returned (.int .i64 0) ∧ WPost w base b o (bits ++ digs n x.toNat) w' := by
  go_enter Tryz.func12, Tryz.ntmps12
  go_wp2_with fail
  refine (count_wr _ base b o bits h).mono ?_
  rintro e w1 ⟨rfl, h1, f1⟩
  go_wp2_with fail
  refine (put_wr _ base b o bits x n h1 hx (by omega) (by omega) hxn.out (by omega)).mono ?_
  rintro e w2 ⟨rfl, p2⟩
  go_wp2_with fail
  go_ret
  exact ⟨rfl, .chain f1 (fun _ e => .inl e) p2⟩

def bitsAns (x n : Int) : Int × List Bool := if 0 ≤ n ∧ n ≤ 32 ∧ 0 ≤ x ∧ x.toNat < 2 ^ n.toNat then (0, digs n.toNat x.toNat) else (101, [])

theorem bitsW_any (w : World) (base b : Nat) (o : Option Nat) (bits : List Bool) (x n : Int) (h : Wr w base b o bits) (hb : bits.length ≤ 100000000000) :
    Calls Tryz.prog 12 #[.pointer (some ⟨b, 0, none⟩), .int .i64 x, .int .i64 n] w fun e w' => e = .returned (.int .i64 (bitsAns x n).1) ∧ WPost w base b o (bits ++ (bitsAns x n).2) w' := by
  by_cases hbad : n < 0 ∨ 32 < n ∨ x < 0
  · rw [bitsAns, if_neg (by omega)]
    simp only [List.append_nil]
    exact bitsW_bad w base b o bits x n h hbad
  · obtain ⟨m, rfl⟩ := Int.eq_ofNat_of_zero_le (show 0 ≤ n by omega)
    obtain ⟨y, rfl⟩ := Int.eq_ofNat_of_zero_le (show 0 ≤ x by omega)
    have e : ((y : Int) / 2 ^ m) = ((y / 2 ^ m : Nat) : Int) := by rw [Int.natCast_ediv, Int.natCast_pow]; rfl
    by_cases hlt : y < 2 ^ m
    · have h0 : y / 2 ^ m = 0 := Nat.div_eq_of_lt hlt
      have h32 : (2 : Nat) ^ m ≤ 2 ^ 32 := Nat.pow_le_pow_right (by omega) (by omega)
      rw [bitsAns, if_pos (by rw [Int.toNat_natCast, Int.toNat_natCast]; omega)]
      simp only [Int.toNat_natCast]
      exact bitsW_ok w base b o bits y m h (by omega) (by omega) (by omega) (by rw [e, h0]; rfl) (by rw [Int.toNat_natCast]; exact hlt) hb
    · have h0 : 0 < y / 2 ^ m := Nat.div_pos (by omega) (Nat.two_pow_pos _)
      rw [bitsAns, if_neg (by rw [Int.toNat_natCast, Int.toNat_natCast]; omega)]
      simp only [List.append_nil]
      exact bitsW_big w base b o bits y m h (by omega) (by omega) (by rw [e]; simp; omega)

end Go.Proofs.YthcbgijmnonckaaGreat
/- The bits' Writer: its length and its bytes. -/
namespace Go.Proofs.YthcbgijmnonckaaGreat
open Go.RowKit Zo

/-- Bytes as a string. -/
def bstr (l : List Nat) : ByteArray := ⟨⟨l.map UInt8.ofNat⟩⟩

theorem bstr_append (a b : List Nat) : bstr a ++ bstr b = bstr (a ++ b) := by
  apply ByteArray.ext
  simp [bstr]

theorem bstr_size (a : List Nat) : (bstr a).size = a.length := by simp [bstr, ByteArray.size]

theorem conv_bytes (w : World) (base : Nat) (v : Value) (bytes : List Nat) (hown : w.ownsRow base 5 1 v bytes.length (u8s bytes)) (h256 : ∀ x ∈ bytes, x < 256) :
    (convert 38 9 v).run Tryz.prog w = .ok (.string (bstr bytes)) w := by
  rcases hown.2 with ⟨rfl, h0⟩ | ⟨g, cap, cur, rfl, _, hg, _, _, _, htake⟩
  · obtain rfl : bytes = [] := List.eq_nil_of_length_eq_zero h0
    exact Lib.run_convert_nil_bytes w _ _ _ 0 Tryz.underlying38 Tryz.underlying5 Tryz.underlying9
  · have hc : Lib.Bytes w g 0 (bstr bytes) := by
      intro i hi
      rw [bstr_size] at hi
      rw [Nat.zero_add, cell_of_row w g i _ _ _ hg]
      have h1 : (u8s bytes)[i]? = some (.int .u8 ((bytes[i] : Nat) : Int)) := by simp [u8s, hi]
      rw [← htake, List.getElem?_take] at h1
      split at h1
      · rw [← Array.getElem?_toList, h1]
        have := h256 bytes[i] (List.getElem_mem hi)
        simp [bstr, ByteArray.getElem_eq_getElem_data]
        omega
      · cases h1
    have := Lib.run_convert_whole w _ _ _ Tryz.underlying38 Tryz.underlying5 Tryz.underlying9 g 0 (bstr bytes) hc cap
    rwa [bstr_size] at this

theorem conv_one (w : World) (g : Nat) (x : Int) {n : Nat} (hg : w.heap[g]? = some (.cells #[.int .u8 x] 5 (0, 0))) (hx : x = (n : Int)) (hn : n < 256) :
    (convert 38 9 (.slice (some ⟨g, 0, none⟩) 1 1)).run Tryz.prog w = .ok (.string (bstr [n])) w := by
  have hc : Lib.Bytes w g 0 (bstr [n]) := by
    intro i hi
    rw [bstr_size] at hi
    obtain rfl : i = 0 := by simpa using hi
    rw [Nat.zero_add, cell_of_row w g 0 _ _ _ hg, hx]
    simp [bstr, ByteArray.getElem_eq_getElem_data]
    omega
  exact Lib.run_convert_whole w _ _ _ Tryz.underlying38 Tryz.underlying5 Tryz.underlying9 g 0 (bstr [n]) hc 1

theorem Wr.drewN {w : World} {base b : Nat} {o : Option Nat} {bits : List Bool} (h : Wr w base b o bits) (n : Nat) : Wr (w.drewN n) base b o bits := h

theorem WPost.drewN {w w' : World} {base b : Nat} {o : Option Nat} {bits : List Bool} (h : WPost w base b o bits w') (n : Nat) : WPost w base b o bits (w'.drewN n) := by
  obtain ⟨o', h1, h2, h3⟩ := h
  exact ⟨o', h1, ⟨h2.os, h2.tape, h2.output, h2.size, h2.block⟩, h3⟩

theorem Wr.fr {S : Nat → Prop} {w w' : World} {base b : Nat} {o : Option Nat} {bits : List Bool} (h : Wr w base b o bits) (f : Fr S w w') (hS : ∀ k, wsel b o k → ¬ S k) : Wr w' base b o bits := by
  obtain ⟨bytes, k, r, ⟨c, v, hrow, hbb, hv, hown, h256⟩, hk⟩ := h
  refine ⟨bytes, k, r, ⟨c, v, (f.block b (row_lt hrow) (hS b (.inl rfl))).trans hrow, hbb, hv, ownsRow_fr hown f (fun i e => hS i (.inr (by rw [← hv, e]))), h256⟩, hk⟩

theorem WPost.alloc {w w' : World} {base b : Nat} {o : Option Nat} {bits : List Bool} (h : WPost w base b o bits w') (x : Obj) : WPost w base b o bits (w'.alloc x) := by
  obtain ⟨o', h1, h2, h3⟩ := h
  exact ⟨o', h1.fr (S := fun _ => False) ((Fr.refl _ _).alloc x) (fun _ _ h => h), h2.alloc x, h3⟩

theorem WPost.drew {w w' : World} {base b : Nat} {o : Option Nat} {bits : List Bool} (h : WPost w base b o bits w') : WPost w base b o bits w'.drew := h.drewN 1

set_option maxRecDepth 100000 in
theorem bytes_any (w : World) (base b : Nat) (o : Option Nat) (bits : List Bool) (h : Wr w base b o bits) (hb : bits.length ≤ 100000000000) :
    Calls Tryz.prog 20 #[.pointer (some ⟨b, 0, none⟩)] w fun e w' => e = .returned (.string (bstr (packB bits))) ∧ WPost w base b o bits w' := by
  go_enter Tryz.func20, Tryz.ntmps20
  go_wp2_with fail
  refine (count_wr _ base b o bits h).mono ?_
  rintro e w1 ⟨rfl, h1, f1⟩
  have P := Lib.hid (count_post h1 f1)
  obtain ⟨bytes, k, r, ⟨c, v, hrow, _, _, hown, h256⟩, hk, hr, hh⟩ := h1
  have hp : packB bits = bytes ++ if k = 0 then [] else [(r <<< (8 - k)) % 256] := by rw [← hh]; exact packB_held bytes k r h256 hk hr
  have HP := Lib.hid hp
  have hcv := conv_bytes w1 base v bytes hown h256
  have c1 := cell_of_row w1 b 1 _ _ _ hrow
  have c2 := cell_of_row w1 b 2 _ _ _ hrow
  have c3 := cell_of_row w1 b 3 _ _ _ hrow
  simp at c1 c2 c3
  clear hrow hh hown hp
  by_cases h0 : k = 0
  · subst h0
    go_wp2_with fail
    go_ret
    refine ⟨by rw [HP.out]; simp, P.out⟩
  · have h0' : 0 < k := by omega
    have hr7 : r < 128 := by have : 2 ^ k ≤ 2 ^ 7 := Nat.pow_le_pow_right (by omega) hk; omega
    have hx : IntKind.u64.wrap ((r : Int) * 2 ^ (8 - k)) % 256 = (((r <<< (8 - k)) % 256 : Nat) : Int) := by
      have h2 : (2 : Nat) ^ (8 - k) ≤ 2 ^ 8 := Nat.pow_le_pow_right (by omega) (by omega)
      have h3 : r * 2 ^ (8 - k) ≤ 128 * 2 ^ 8 := Nat.mul_le_mul (by omega) h2
      have e : ((r : Int) * 2 ^ (8 - k)) = ((r * 2 ^ (8 - k) : Nat) : Int) := by rw [Int.natCast_mul, Int.natCast_pow]; rfl
      rw [e, wrap_u64_nat _ (by omega), Nat.shiftLeft_eq, Int.natCast_emod]
      rfl
    have kc := conv_one (w1.alloc (.cells #[.int .u8 (IntKind.u64.wrap ((r : Int) * 2 ^ (8 - k)) % 256)] 5)).drew _ _ (heap_alloc_last w1 _) hx (Nat.mod_lt _ (by omega))
    have hsz : (bstr bytes).size ≤ 1000000000000 := by rw [bstr_size]; have := held_length bytes k r; have hl : (packB bits).length = bytes.length + 1 := by rw [HP.out, if_neg h0]; simp
                                                       rw [packB_length] at hl; omega
    have hsz1 : (bstr [(r <<< (8 - k)) % 256]).size = 1 := rfl
    have HX := Lib.hid hx
    clear hx
    go_wp2_with fail
    go_region
    all_goals
      go_wp2
      go_ret
      have e : bstr (packB bits) = bstr bytes ++ bstr [(r <<< (8 - k)) % 256] := by rw [HP.out, if_neg h0, bstr_append]
      exact ⟨by rw [e]; rfl, (P.out.alloc _).drew⟩
end Go.Proofs.YthcbgijmnonckaaGreat
