/- nal's Escape and Unescape. -/
import Derived.Test.YtdlklcdafembhaaNC
import Derived.Lib.IndexBytes
import Derived.Laws.Strings2
import Derived.Laws.Strings3
namespace Go.Proofs.Ytdlklcdafembhaa
open Go.RowKit Zn Zo

theorem ret_int {k : IntKind} {a b : Int} (h : a = b) : Ending.returned (.int k a) = .returned (.int k b) := by rw [h]

theorem byte_eq {c : UInt8} {k : Nat} (hk : k < 256) (h : c.toNat = k) : c = k.toUInt8 := by
  apply UInt8.toNat_inj.1
  rw [h]
  simp [Nat.mod_eq_of_lt hk]

theorem byte_zero {c : UInt8} : c = 0 ↔ c.toNat = 0 := by rw [← UInt8.toNat_inj]; rfl

theorem byte_le3 {c : UInt8} : c ≤ 3 ↔ c.toNat ≤ 3 := UInt8.le_iff_toNat_le

theorem noughts_any (z : Nat) (c : UInt8) (w : World) (hz : z ≤ 10000000000) :
    Calls Try.prog 27 #[.int .i64 (z : Int), .int .u8 (c.toNat : Int)] w fun e w' => e = .returned (.int .i64 (nb z c : Nat)) ∧ w' = w := by
  by_cases h : c.toNat = 0
  · have h1 : ((c.toNat : Int) == 0) = true := by simp [h]
    have hc : nb z c = z + 1 := by rw [byte_zero.2 h, nb_zero]
    have H := Lib.hid hc
    clear hc h
    go_enter Try.func27, Try.ntmps27
    go_wp2
    go_ret
    exact ⟨ret_int (by rw [H.out]; omega), rfl⟩
  · have h1 : ((c.toNat : Int) == 0) = false := by simp; omega
    have hc : nb z c = 0 := nb_pos z c (fun e => h (byte_zero.1 e))
    have H := Lib.hid hc
    clear hc h
    go_enter Try.func27, Try.ntmps27
    go_wp2
    go_ret
    exact ⟨ret_int (by rw [H.out]; rfl), rfl⟩

/-- A piece of a string, as a list. -/
def seg (s : ByteArray) (f k : Nat) : List UInt8 := (s.data.toList.drop f).take (k - f)

theorem seg_length (s : ByteArray) (f k : Nat) (h : k ≤ s.size) : (seg s f k).length = k - f := by
  have : s.data.toList.length = s.size := by simp
  simp only [seg, List.length_take, List.length_drop, this]
  omega

theorem seg_self (s : ByteArray) (k : Nat) : seg s k k = [] := by simp [seg]

theorem seg_one (s : ByteArray) (k : Nat) (h : k < s.size) : seg s k (k + 1) = [s[k]] := by
  have hl : k < s.data.toList.length := by simpa using h
  rw [seg, List.drop_eq_getElem_cons hl, show k + 1 - k = 1 from by omega]
  rfl

theorem drop_cons (s : ByteArray) (k : Nat) (h : k < s.size) : s.data.toList.drop k = s[k] :: s.data.toList.drop (k + 1) := by
  have hl : k < s.data.toList.length := by simpa using h
  rw [List.drop_eq_getElem_cons hl]
  rfl

theorem seg_snoc (s : ByteArray) (f k : Nat) (h : k < s.size) (hf : f ≤ k) : seg s f (k + 1) = seg s f k ++ [s[k]] := by
  have hl : k < s.data.toList.length := by simpa using h
  have hd : k - f < (s.data.toList.drop f).length := by rw [List.length_drop]; omega
  rw [seg, seg, show k + 1 - f = (k - f) + 1 from by omega, List.take_succ_eq_append_getElem hd]
  congr 2
  rw [List.getElem_drop]
  simp only [show f + (k - f) = k from by omega]
  rfl

theorem seg_all (s : ByteArray) (f : Nat) : seg s f s.size = s.data.toList.drop f := by
  rw [seg, List.take_of_length_le]
  simp

theorem drop_all (s : ByteArray) : s.data.toList.drop s.size = [] := by simp

theorem slice_at (s : ByteArray) (f k : Nat) (hf : f ≤ k) (hk : k ≤ s.size) (w : World) : (Instr.slice 9 (.string s) (some (.int .i64 (f : Int))) (some (.int .i64 (k : Int))) none).run Try.prog w = .ok (.string (s.extract f k)) w :=
  run_slice_string w 9 s .i64 .i64 f k Try.underlying9 (by omega) (by omega) (by omega)

theorem slice_from (s : ByteArray) (f : Nat) (hf : f ≤ s.size) (w : World) : (Instr.slice 9 (.string s) (some (.int .i64 (f : Int))) none none).run Try.prog w = .ok (.string (s.extract f s.size)) w := by
  rw [run_slice_string_from_if w 9 s .i64 f Try.underlying9, if_pos (by omega)]; rfl

theorem extract_seg (s : ByteArray) (f k : Nat) : (s.extract f k).data.toList = seg s f k := Lib.extract_data s f k

theorem putEsc_any (w : World) (B b : Nat) (l : List UInt8) (s : ByteArray) (h : Bd w B b l) (hBw : B ≤ w.heap.size) (hl : l.length ≤ 100000000) (hs : s.size ≤ 100000000) :
    Calls Try.prog 29 #[.pointer (some ⟨b, 0, none⟩), .string s] w fun e w' => e = .returned (.tuple #[]) ∧ Bd w' B b (l ++ esc 0 s.data.toList) ∧ Kept B b w w' := by
  have hlen : (esc 0 s.data.toList).length ≤ 150000000 := by
    have := esc_length_le s.data.toList 0 (by omega)
    have e : s.data.toList.length = s.size := by simp
    omega
  go_enter Try.func29, Try.ntmps29
  go_wp2
  go_loopg [4, 5, 9] s.size (fun q zv fv iv wr => ∃ z f k : Nat, k + q = s.size ∧ f ≤ k ∧ z ≤ 2 ∧ zv = .int .i64 (z : Int) ∧ fv = .int .i64 (f : Int) ∧ iv = .int .i64 (k : Int) ∧ ∃ m, Bd wr B b m ∧ Aside (l ++ esc 0 s.data.toList = m ++ seg s f k ++ esc z (s.data.toList.drop k)) ∧ Kept B b w wr)
  case atStart =>
    exact ⟨0, 0, 0, by omega, by omega, by omega, rfl, rfl, rfl, l, h, by show _ = _; simp [seg], Kept.refl _ _ _⟩
  case round =>
    clear h
    obtain ⟨z, f, k, hq, hf, hz, rfl, rfl, rfl, m, hm, A, bl⟩ := hrel
    have hBr : B ≤ wr.heap.size := by have := bl.size; omega
    have hml : m.length + (k - f) ≤ 250000000 := by
      have := congrArg List.length A
      simp only [List.length_append, seg_length s f k (by omega)] at this
      omega
    by_cases hlt : k < s.size
    · have hd := Lib.hid (drop_cons s k hlt)
      have hsn := Lib.hid (seg_snoc s f k hlt hf)
      have hso := Lib.hid (seg_one s k hlt)
      have hk1 : (k + 1) + (gk - 1) = s.size := by omega
      by_cases hc : z = 2 ∧ s[k].toNat ≤ 3
      · obtain ⟨rfl, hc⟩ := hc
        have hci : (s[k].toNat : Int) ≤ 3 := by omega
        have HC := Lib.hid hc
        have hsl := slice_at s f k hf (by omega)
        have hsz : (s.extract f k).size = k - f := by simp; omega
        have HSZ := Lib.hid hsz
        clear hc hsz
        go_wp2_with fail
        refine (str_any wr B b m (s.extract f k) hm hBr (by rw [HSZ.out]; omega)).mono ?_
        rintro e w1 ⟨rfl, h1, b1⟩
        rw [extract_seg] at h1
        go_wp2_with fail
        refine (byte_any w1 B b _ 3 3 rfl h1 (by have := b1.size; omega) (by rw [List.length_append, seg_length s f k (by omega)]; omega)).mono ?_
        rintro e w2 ⟨rfl, h2, b2⟩
        go_wp2_with fail
        refine (noughts_any 0 s[k] w2 (by omega)).mono ?_
        rintro e w3 ⟨rfl, rfl⟩
        go_wp2_with fail
        go_roundg (gk - 1)
        case measure => omega
        case rel =>
          refine ⟨nb 0 s[k], k, k + 1, hk1, by omega, Nat.le_trans (nb_le 0 _) (by omega), rfl, rfl, by go_num, _, h2, ?_, (bl.trans b1).trans b2⟩
          show _ = _
          rw [A, hso.out, hd.out, esc, stp, zs, if_pos ⟨rfl, byte_le3.2 HC.out⟩, if_pos ⟨rfl, byte_le3.2 HC.out⟩]
          simp
      · have hcb : ((((z : Int) == 2) = false) ∨ ((z : Int) == 2) = true ∧ ¬ (s[k].toNat : Int) ≤ 3) := by
          by_cases h2 : z = 2
          · exact .inr ⟨by simp [h2], by omega⟩
          · exact .inl (by simp; omega)
        have HN : Hid (¬ (z = 2 ∧ s[k] ≤ 3)) := fun ⟨h2, h3⟩ => hc ⟨h2, byte_le3.1 h3⟩
        have hz1 : nb z s[k] ≤ 2 := by
          have := zs_le z s[k] hz
          rwa [zs, if_neg HN.out] at this
        clear hc
        rcases hcb with hb | ⟨hb, hc3⟩
        all_goals
          go_wp2_with fail
          refine (noughts_any z s[k] wr (by omega)).mono ?_
          rintro e w3 ⟨rfl, rfl⟩
          go_wp2_with fail
          go_roundg (gk - 1)
          case measure => omega
          case rel =>
            refine ⟨nb z s[k], f, k + 1, hk1, by omega, hz1, rfl, rfl, by go_num, m, hm, ?_, bl⟩
            show _ = _
            rw [A, hd.out, hsn.out, esc, stp, zs, if_neg HN.out, if_neg HN.out]
            simp
    · obtain rfl : k = s.size := by omega
      have hsl := slice_from s f (by omega)
      have hsz : (s.extract f s.size).size = s.size - f := by simp
      have HSZ := Lib.hid hsz
      have hdr := Lib.hid (drop_all s)
      clear hsz
      go_wp2_with fail
      refine (str_any wr B b m (s.extract f s.size) hm hBr (by rw [HSZ.out]; omega)).mono ?_
      rintro e w1 ⟨rfl, h1, b1⟩
      rw [extract_seg] at h1
      go_wp2_with fail
      go_end0
      refine ⟨rfl, ?_, bl.trans b1⟩
      rw [A, hdr.out, esc, List.append_nil]
      exact h1

theorem escape_any (s : ByteArray) (w : World) (hs : s.size ≤ 100000000) :
    Calls Try.prog 13 #[.string s] w fun e w' => e = .returned (.string ⟨(esc 0 s.data.toList).toArray⟩) ∧ Below w.heap.size w w' := by
  have hb0 := bd_new w w.heap.size (Nat.le_refl _)
  go_enter Try.func13, Try.ntmps13
  go_wp2_with fail
  refine (grow_any _ w.heap.size w.heap.size [] _ hb0 (by simp) (by omega) (by omega) (by simp)).mono ?_
  rintro e w1 ⟨rfl, h1, b1⟩
  have z1 := b1.size
  have z0 : w.heap.size ≤ w1.heap.size := by simp at z1; omega
  go_wp2_with fail
  refine (putEsc_any w1 w.heap.size w.heap.size [] s h1 z0 (by simp) hs).mono ?_
  rintro e w2 ⟨rfl, h2, b2⟩
  have z2 := b2.size
  go_wp2_with fail
  refine (string_any w2 w.heap.size w.heap.size _ h2 (by omega)).mono ?_
  rintro e w3 ⟨rfl, b3⟩
  go_wp2_with fail
  go_ret
  exact ⟨by simp, ((((Below.refl _ _).alloc (Nat.le_refl _) _).trans b1.1).trans b2.1).trans b3.1⟩

end Go.Proofs.Ytdlklcdafembhaa
