/- The document's own Escape and Unescape. -/
import Derived.Test.YtdlklcdafembhaaNE
import Derived.Lib.SlBytesRow
import Derived.Maps.AppendAt
import Derived.Deep.AppendLies
import Derived.Lib.BufferRead
namespace Go.Proofs.Ytdlklcdafembhaa
open Go.RowKit Zn Zo

/-- A slice of bytes that the call owns. -/
def OwnB (w : World) (B : Nat) (v : Value) (l : List UInt8) : Prop := w.ownsRow B 5 1 v l.length (Lib.byteCells l)

theorem OwnB.nil (w : World) (B : Nat) : OwnB w B (.slice none 0 0) [] := World.ownsRow_nil _ _ _ _
theorem OwnB.lt {w : World} {B : Nat} {v : Value} {l : List UInt8} (h : OwnB w B v l) : ∀ k, v.ownBlock = some k → B ≤ k ∧ k < w.heap.size := World.ownsRow.lt h

theorem ownsRow_below {w w' : World} {B : Nat} {e : TypeId} {size : Nat} {v : Value} {n : Nat} {xs : List Value} (h : w.ownsRow B e size v n xs) (b : Below w.heap.size w w') : w'.ownsRow B e size v n xs :=
  ownsRow_fr (S := fun k => w.heap.size ≤ k) h ⟨b.os, b.tape, b.output, b.size, fun k hk _ => b.block k hk⟩ (fun k e hk => by have := World.ownsRow.lt h k e; omega)

theorem OwnB.below {w w' : World} {B : Nat} {v : Value} {l : List UInt8} (h : OwnB w B v l) (b : Below w.heap.size w w') : OwnB w' B v l := ownsRow_below h b

theorem info_u8 : (Try.prog.info? 5).map (fun i => (i.zero, i.size, i.bytes)) = some (some (.int .u8 0), 1, 1) := by kernel_rfl

theorem append_byte {w : World} {ops : Array Oper} {rest : List Oper} {o : Oper} {a : Act} {Q : Exit → Act → World → Prop} (hgd : o.guard = none) (s x : Operand)
    (ho : o.op = .call { callee := .builtin .append, args := #[s, x], argTypes := #[51, 51] })
    (B : Nat) (v : Value) (m : List UInt8) (z : Int) (c : UInt8) (hz : z = (c.toNat : Int)) (hs : a.eval s = v) (hown : OwnB w B v m) (hx : a.eval x = .slice (some ⟨w.heap.size, 0, none⟩) 1 1)
    (hl : m.length ≤ 1000000000) (hB : B ≤ w.heap.size)
    (h : ∀ v' w', OwnB w' B v' (m ++ [c]) → Below B w w' → wpList Try.prog ops Q rest (a.put o.dst v') w') : wpList Try.prog ops Q (o :: rest) a (w.alloc (.cells #[.int .u8 z] 5)) := by
  obtain ⟨i0, hi, hz0, hz1, hz2⟩ := info_parts info_u8
  refine wpList_append_lies _ hgd s x 51 ho B 5 i0 (.int .u8 0) 1 1 Try.underlying51 hi hz0 hz1 hz2 rfl (by decide) v m.length (Lib.byteCells m) hs (World.ownsRow.alloc hown _) ⟨w.heap.size, 0, none⟩ 1 1 [.int .u8 z] hx rfl (cell_one_new _ _ _) (by simp [Value.oneCell']) (by decide) (by unfold maxLen; omega) (by omega) (by simp; omega) _ rfl ?_
  intro g cap w' h1 h2 h3 h4
  refine h _ _ ?_ (((Below.refl _ _).alloc hB _).grown h2 (by simp; omega) (fun k e => (hown.lt k e).1))
  unfold OwnB
  rw [List.length_append, Lib.byteCells_append, show Lib.byteCells [c] = [.int .u8 z] from by rw [hz]; rfl]
  exact h1

theorem conv_own (w : World) (B : Nat) (v : Value) (l : List UInt8) (h : OwnB w B v l) :
    (convert 51 9 v).run Try.prog w = .ok (.string ⟨l.toArray⟩) w := by
  rcases h.2 with ⟨rfl, h0⟩ | ⟨g, cap, cur, rfl, _, hg, _, _, _, htake⟩
  · obtain rfl : l = [] := List.eq_nil_of_length_eq_zero h0
    exact Lib.run_convert_nil_bytes w _ _ _ 0 Try.underlying51 Try.underlying5 Try.underlying9
  · have hs : (⟨l.toArray⟩ : ByteArray).size = l.length := by simp [ByteArray.size]
    have hc : Lib.Bytes w g 0 ⟨l.toArray⟩ := by
      intro i hi
      rw [hs] at hi
      rw [Nat.zero_add, cell_of_row w g i _ _ _ hg]
      have h1 : (Lib.byteCells l)[i]? = some (.int .u8 ((l[i].toNat : Nat) : Int)) := by simp [Lib.byteCells, hi]
      rw [← htake, List.getElem?_take] at h1
      split at h1
      · rw [← Array.getElem?_toList, h1]
        simp [ByteArray.getElem_eq_getElem_data]
      · cases h1
    have := Lib.run_convert_whole w _ _ _ Try.underlying51 Try.underlying5 Try.underlying9 g 0 ⟨l.toArray⟩ hc cap
    rwa [hs] at this

set_option maxHeartbeats 1000000 in
theorem escRef_any (s : ByteArray) (w : World) (hs : s.size ≤ 100000000) :
    Calls Try.prog 14 #[.string s] w fun e w' => e = .returned (.string ⟨(esc 0 s.data.toList).toArray⟩) ∧ Below w.heap.size w w' := by
  obtain ⟨B, hB0⟩ : ∃ B, w.heap.size = B := ⟨_, rfl⟩
  rw [hB0]
  have HB := Lib.hid hB0
  clear hB0
  go_enter Try.func14, Try.ntmps14
  go_wp2_with fail
  go_loopg [3, 4, 5] s.size (fun q ov zv iv wr => ∃ z k m v, k + q = s.size ∧ z ≤ 2 ∧ v = ov ∧ zv = .int .i64 ((z : Nat) : Int) ∧ iv = .int .i64 ((k : Nat) : Int) ∧ OwnB wr B v m ∧ m.length ≤ 2 * k ∧ Aside (esc 0 s.data.toList = m ++ esc z (s.data.toList.drop k)) ∧ Below B w wr ∧ B ≤ wr.heap.size)
  case atStart =>
    exact ⟨0, 0, [], _, by omega, by omega, rfl, rfl, rfl, OwnB.nil _ _, by simp, by show _ = _; simp, Below.refl _ _, by rw [HB.out]; exact Nat.le_refl _⟩
  case round =>
    obtain ⟨z, k, m, v, hq, hz, rfl, rfl, rfl, hown, hml, A, bl, hBr⟩ := hrel
    by_cases hlt : k < s.size
    · have hd := Lib.hid (drop_cons s k hlt)
      have hk1 : (k + 1) + (gk - 1) = s.size := by omega
      by_cases hc : z = 2 ∧ s[k].toNat ≤ 3
      · obtain ⟨rfl, hc⟩ := hc
        have hci : (s[k].toNat : Int) ≤ 3 := by omega
        have HC := Lib.hid hc
        clear hc
        have hz0 : ((s[k].toNat : Int) != 0) = true ∧ Aside (nb 0 s[k] = 0) ∨ ((s[k].toNat : Int) != 0) = false ∧ Aside (nb 0 s[k] = 1) := by
          by_cases h0 : s[k].toNat = 0
          · exact .inr ⟨by simp [h0], by show _ = _; rw [byte_zero.2 h0]; rfl⟩
          · exact .inl ⟨by simp; omega, by show _ = _; exact nb_pos 0 _ (fun e => h0 (byte_zero.1 e))⟩
        rcases hz0 with ⟨h0n, HN⟩ | ⟨h0n, HN⟩
        all_goals
          go_wp2_with (at_builtin; first | (refine append_byte rfl (.tmp 20) (.tmp 21) rfl B v m 3 3 rfl rfl hown rfl ?_ hBr ?_; omega; intro v1 w1 hown1 b1; have hB1 : B ≤ w1.heap.size := by have := b1.size; omega) | (refine append_byte rfl (.tmp 23) (.tmp 27) rfl B v1 (m ++ [3]) _ s[k] rfl rfl hown1 rfl ?_ hB1 ?_; (simp; omega); intro v2 w2 hown2 b2; have hB2 : B ≤ w2.heap.size := by have := b2.size; omega))
          go_roundg (gk - 1)
          case measure => omega
          case rel =>
            refine ⟨nb 0 s[k], k + 1, m ++ [3] ++ [s[k]], v2, hk1, Nat.le_trans (nb_le 0 _) (by omega), rfl, by rw [HN]; rfl, by go_num, hown2, by simp; omega, ?_, (bl.trans b1).trans b2, hB2⟩
            show _ = _
            rw [A, hd.out, esc, stp, zs, if_pos ⟨rfl, byte_le3.2 HC.out⟩, if_pos ⟨rfl, byte_le3.2 HC.out⟩]
            simp
      · have hcb : ((((z : Int) == 2) = false) ∧ ((s[k].toNat : Int) != 0) = true ∧ Aside (nb z s[k] = 0)) ∨ ((((z : Int) == 2) = false) ∧ ((s[k].toNat : Int) != 0) = false ∧ Aside (nb z s[k] = z + 1)) ∨ (((z : Int) == 2) = true ∧ ¬ (s[k].toNat : Int) ≤ 3 ∧ ((s[k].toNat : Int) != 0) = true ∧ Aside (nb z s[k] = 0)) := by
          by_cases h0 : s[k].toNat = 0
          · exact .inr (.inl ⟨by simp; omega, by simp [h0], by show _ = _; rw [byte_zero.2 h0, nb_zero]⟩)
          · have hn := nb_pos z s[k] (fun e => h0 (byte_zero.1 e))
            by_cases h2 : z = 2
            · exact .inr (.inr ⟨by simp [h2], by omega, by simp; omega, hn⟩)
            · exact .inl ⟨by simp; omega, by simp; omega, hn⟩
        have HN : Hid (¬ (z = 2 ∧ s[k] ≤ 3)) := fun ⟨h2, h3⟩ => hc ⟨h2, byte_le3.1 h3⟩
        have hz1 : nb z s[k] ≤ 2 := by
          have := zs_le z s[k] hz
          rwa [zs, if_neg HN.out] at this
        clear hc
        rcases hcb with ⟨hb, h0n, HZ⟩ | ⟨hb, h0n, HZ⟩ | ⟨hb, hc3, h0n, HZ⟩
        all_goals
          go_wp2_with (at_builtin; (refine append_byte rfl (.tmp 23) (.tmp 27) rfl B v m _ s[k] rfl rfl hown rfl ?_ hBr ?_; omega; intro v2 w2 hown2 b2; have hB2 : B ≤ w2.heap.size := by have := b2.size; omega))
          go_roundg (gk - 1)
          case measure => omega
          case rel =>
            refine ⟨nb z s[k], k + 1, m ++ [s[k]], v2, hk1, hz1, rfl, by rw [HZ]; rfl, by go_num, hown2, by simp; omega, ?_, bl.trans b2, hB2⟩
            show _ = _
            rw [A, hd.out, esc, stp, zs, if_neg HN.out, if_neg HN.out]
            simp
    · obtain rfl : k = s.size := by omega
      have hcv := conv_own wr B v m hown
      have HM := Lib.hid (show esc 0 s.data.toList = m by rw [A, drop_all, esc, List.append_nil])
      go_wp2_with fail
      go_ret
      exact ⟨by rw [HM.out]; rfl, bl⟩

set_option maxHeartbeats 1000000 in
theorem unRef_any (s : ByteArray) (w : World) (hs : s.size ≤ 100000000) :
    Calls Try.prog 12 #[.string s] w (UnPost s.data.toList w) := by
  obtain ⟨B, hB0⟩ : ∃ B, w.heap.size = B := ⟨_, rfl⟩
  unfold UnPost
  rw [hB0]
  have HB := Lib.hid hB0
  clear hB0
  go_enter Try.func12, Try.ntmps12
  go_wp2_with fail
  go_loopg [4, 5, 6] s.size (fun q ov zv iv wr => ∃ z k m v, k + q = s.size ∧ z ≤ k ∧ v = ov ∧ zv = .int .i64 ((z : Nat) : Int) ∧ iv = .int .i64 ((k : Nat) : Int) ∧ OwnB wr B v m ∧ m.length ≤ k ∧ Aside (un 0 s.data.toList = m ++ un z (s.data.toList.drop k)) ∧ Below B w wr ∧ B ≤ wr.heap.size)
  case atStart =>
    exact ⟨0, 0, [], _, by omega, by omega, rfl, rfl, rfl, OwnB.nil _ _, by simp, by show _ = _; simp, Below.refl _ _, by rw [HB.out]; exact Nat.le_refl _⟩
  case round =>
    obtain ⟨z, k, m, v, hq, hz, rfl, rfl, rfl, hown, hml, A, bl, hBr⟩ := hrel
    by_cases hlt : k < s.size
    · have hd := Lib.hid (drop_cons s k hlt)
      have hk1 : (k + 1) + (gk - 1) = s.size := by omega
      by_cases hc : s[k].toNat = 3 ∧ z = 2
      · obtain ⟨hc, rfl⟩ := hc
        have hci : ((s[k].toNat : Int) == 3) = true := by simp [hc]
        have HC := Lib.hid hc
        clear hc
        go_wp2_with fail
        go_roundg (gk - 1)
        case measure => omega
        case rel =>
          refine ⟨0, k + 1, m, v, hk1, by omega, rfl, rfl, by go_num, hown, by omega, ?_, bl, hBr⟩
          show _ = _
          rw [A, hd.out, un, if_pos ⟨byte_is3.2 HC.out, rfl⟩]
      · have HU := Lib.hid (show un z (s[k] :: s.data.toList.drop (k + 1)) = s[k] :: un (nb z s[k]) (s.data.toList.drop (k + 1)) by
          rw [un, if_neg]; rw [byte_is3]; exact hc)
        have hcb : (((s[k].toNat : Int) == 3) = false ∧ ((s[k].toNat : Int) != 0) = true ∧ Aside (nb z s[k] = 0)) ∨ (((s[k].toNat : Int) == 3) = false ∧ ((s[k].toNat : Int) != 0) = false ∧ Aside (nb z s[k] = z + 1)) ∨ (((s[k].toNat : Int) == 3) = true ∧ ((z : Int) == 2) = false ∧ ((s[k].toNat : Int) != 0) = true ∧ Aside (nb z s[k] = 0)) := by
          by_cases h0 : s[k].toNat = 0
          · exact .inr (.inl ⟨by simp; omega, by simp [h0], by show _ = _; rw [byte_zero.2 h0, nb_zero]⟩)
          · have hn := nb_pos z s[k] (fun e => h0 (byte_zero.1 e))
            by_cases h3 : s[k].toNat = 3
            · exact .inr (.inr ⟨by simp [h3], by simp; omega, by simp; omega, hn⟩)
            · exact .inl ⟨by simp; omega, by simp; omega, hn⟩
        have hz1 : nb z s[k] ≤ k + 1 := Nat.le_trans (nb_le z _) (by omega)
        clear hc
        rcases hcb with ⟨hb, h0n, HZ⟩ | ⟨hb, h0n, HZ⟩ | ⟨hb, hb2, h0n, HZ⟩
        all_goals
          go_wp2_with (at_builtin; (refine append_byte rfl (.tmp 21) (.tmp 25) rfl B v m _ s[k] rfl rfl hown rfl ?_ hBr ?_; omega; intro v2 w2 hown2 b2; have hB2 : B ≤ w2.heap.size := by have := b2.size; omega))
          go_roundg (gk - 1)
          case measure => omega
          case rel =>
            refine ⟨nb z s[k], k + 1, m ++ [s[k]], v2, hk1, hz1, rfl, by rw [HZ]; rfl, by go_num, hown2, by simp; omega, ?_, bl.trans b2, hB2⟩
            show _ = _
            rw [A, hd.out, HU.out]
            simp
    · obtain rfl : k = s.size := by omega
      have hcv := conv_own wr B v m hown
      have hdr := Lib.hid (drop_all s)
      have hm : un 0 s.data.toList = m := by rw [A, hdr.out, un, List.append_nil]
      have hsz : (⟨m.toArray⟩ : ByteArray).size ≤ 100000000 := by simp [ByteArray.size]; omega
      have HM := Lib.hid hm
      clear hm
      by_cases heq : esc 0 m = s.data.toList
      · have ht : (!esc 0 m == s.toList) = false := by rw [Lib.toList_data, heq]; simp
        have HA := Lib.hid (show unAns s.data.toList = (m, 0) by rw [unAns_ref, HM.out, if_pos heq])
        clear heq
        go_wp2_with fail
        refine (escRef_any ⟨m.toArray⟩ wr hsz).mono ?_
        rintro e w2 ⟨rfl, b2⟩
        have hcv2 := conv_own w2 B v m (hown.below b2)
        go_wp2_with fail
        go_ret2
        exact ⟨by rw [HA.out]; rfl, bl.trans (b2.mono hBr)⟩
      · have ht : (!esc 0 m == s.toList) = true := by rw [Lib.toList_data]; simpa using heq
        have HA := Lib.hid (show unAns s.data.toList = ([], 200) by rw [unAns_ref, HM.out, if_neg heq])
        clear heq
        go_wp2_with fail
        refine (escRef_any ⟨m.toArray⟩ wr hsz).mono ?_
        rintro e w2 ⟨rfl, b2⟩
        go_wp2_with fail
        go_ret2
        exact ⟨by rw [HA.out]; rfl, bl.trans (b2.mono hBr)⟩

end Go.Proofs.Ytdlklcdafembhaa
