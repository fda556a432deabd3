/- The document's own Reader of bits: Trail and Open. -/
import Derived.Test.YtadfgadkihlmcaaY
namespace Go.Proofs.Ytadfgadkihlmcaa
open Go.RowKit Zo

theorem fl_end (l : List Bool) (i : Nat) (h : l.length ≤ i) : fl l i = false := by
  rw [fl, List.getD_eq_getElem?_getD, List.getElem?_eq_none h]; rfl

theorem refTrail_any (w : World) (base b : Nat) (l : List Bool) (p q : Nat) (h : RRd w base b l p) (hq : IsPast (fl l) l.length q) (hl : l.length ≤ 1000000000) :
    Calls Try.prog 48 #[.pointer (some ⟨b, 0, none⟩)] w fun e w' =>
      e = .returned (.int .i64 (if p + 1 = q ∧ l.length - p ≤ 8 then 0 else 101)) ∧ RRPost w base b l (if p + 1 = q ∧ l.length - p ≤ 8 then l.length else p) w' := by
  have hR := h
  obtain ⟨g, cap, c0, c1, f1, hp, hcell⟩ := h.cells
  have HC := Lib.hid hcell
  have HQ := Lib.hid hq
  clear hcell
  by_cases hA : l.length - p < 1
  · have hA' : (l.length : Int) - p < 1 := by omega
    have hno : ¬ (p + 1 = q ∧ l.length - p ≤ 8) := by have := hq.1; omega
    rw [if_neg hno, if_neg hno]
    clear hq hno hA
    go_enter Try.func48, Try.ntmps48
    go_wp2
    go_quiet (fail)
    go_wp2
    go_quiet (fail)
    go_wp2
    go_ret
    exact ⟨rfl, (RRPost.refl h _).drewN _⟩
  · have hA' : decide ((l.length : Int) - p < 1) = false := by simp; omega
    by_cases hB : 8 < l.length - p
    · have hB' : (8 : Int) < (l.length : Int) - p := by omega
      have hno : ¬ (p + 1 = q ∧ l.length - p ≤ 8) := by omega
      rw [if_neg hno, if_neg hno]
      clear hq hno hA hB
      go_enter Try.func48, Try.ntmps48
      go_wp2
      go_quiet (fail)
      go_wp2
      go_quiet (fail)
      go_wp2
      go_ret
      exact ⟨rfl, (RRPost.refl h _).drewN _⟩
    · have hB' : decide ((8 : Int) < (l.length : Int) - p) = false := by simp; omega
      have hc := HC.out p (by omega)
      have hplt : (p : Int) < l.length := by omega
      have hT8 : l.length - p ≤ 8 := by omega
      cases hbit : fl l p with
      | false =>
        rw [hbit, Bool.toNat_false] at hc
        have hno : ¬ (p + 1 = q ∧ l.length - p ≤ 8) := by
          rintro ⟨rfl, _⟩
          have := hq.2.2 (by omega)
          rw [show p + 1 - 1 = p from rfl, hbit] at this
          cases this
        rw [if_neg hno, if_neg hno]
        clear hq hno hbit
        go_enter Try.func48, Try.ntmps48
        go_wp2
        go_quiet (fail)
        go_wp2
        go_quiet (fail)
        go_wp2
        go_ret
        exact ⟨rfl, (RRPost.refl h _).drewN _⟩
      | true =>
        rw [hbit, Bool.toNat_true] at hc
        have HB := Lib.hid hbit
        clear hq hbit hA hB
        go_enter Try.func48, Try.ntmps48
        go_wp2
        go_quiet (fail)
        go_wp2
        go_quiet (fail)
        go_wp2
        go_loopg [4] 8 (fun r i wr => ∃ n k : Nat, n + r = 8 ∧ p + 1 + n ≤ l.length ∧ i = .int .i64 ((p + 1 + n : Nat) : Int) ∧ Aside (∀ j, j < n → fl l (p + 1 + j) = false) ∧ wr = w.drewN k)
        case atStart => exact ⟨0, _, by omega, by omega, by go_num, fun j hj => by omega, rfl⟩
        case round =>
          obtain ⟨n, k, hn, hle, rfl, A, rfl⟩ := hrel
          by_cases hlt : p + 1 + n < l.length
          · have hc2 := HC.out (p + 1 + n) hlt
            cases hbit : fl l (p + 1 + n) with
            | true =>
              rw [hbit, Bool.toNat_true] at hc2
              have hno : ¬ (p + 1 = q ∧ l.length - p ≤ 8) := by
                rintro ⟨rfl, _⟩
                have := HQ.out.2.1 (p + 1 + n) (by omega)
                rw [hbit] at this
                cases this
              have HN := Lib.hid hno
              clear hno hbit
              generalize hm : p + 1 + n = m at *
              go_wp2
              go_ret
              exact ⟨rfl, .refl hR _⟩
            | false =>
              rw [hbit, Bool.toNat_false] at hc2
              have HN := Lib.hid hbit
              clear hbit
              have hnext : p + 1 + (n + 1) ≤ l.length := by omega
              have hmi : ((p + 1 + (n + 1) : Nat) : Int) = ((p + 1 + n : Nat) : Int) + 1 := by omega
              have HMI := Lib.hid hmi
              clear hmi
              have hA2 : Aside (∀ j, j < n + 1 → fl l (p + 1 + j) = false) := by
                intro j hj
                by_cases hjn : j = n
                · rw [hjn]; exact HN.out
                · exact A j (by omega)
              generalize p + 1 + n = m at *
              go_wp2
              go_roundg (gk - 1)
              case measure => omega
              case rel => exact ⟨n + 1, _, by omega, hnext, by rw [HMI.out], hA2, rfl⟩
          · have hTe : p + 1 + n = l.length := by omega
            have hyes : p + 1 = q ∧ l.length - p ≤ 8 := by
              refine ⟨IsPast.unique (f := fl l) (T := l.length) ⟨by omega, fun i hi => ?_, fun _ => HB.out⟩ HQ.out, hT8⟩
              by_cases hil : i < l.length
              · have := A (i - (p + 1)) (by omega)
                rwa [show p + 1 + (i - (p + 1)) = i from by omega] at this
              · exact fl_end l i (by omega)
            have HY := Lib.hid hyes
            clear hyes
            generalize hm : p + 1 + n = m at *
            go_wp2
            go_ret
            refine ⟨rfl, ?_⟩
            exact .chain (RRPost.refl hR _).2 ((RRPost.refl hR _).1.move l.length (Nat.le_refl _))

theorem bit_u8 (x k : Nat) (hx : x < 256) : bits .and .u8 ((x : Int) / 2 ^ k) 1 = ((x.testBit k).toNat : Int) := by
  have hd : x / 2 ^ k ≤ x := Nat.div_le_self _ _
  rw [show (x : Int) / 2 ^ k = ((x / 2 ^ k : Nat) : Int) from by rw [Int.natCast_ediv, Int.natCast_pow]; rfl, show (1 : Int) = ((1 : Nat) : Int) from rfl, u8_and_nat _ _ (by omega) (by omega), nat_mask1, Nat.testBit_eq_decide_div_mod_eq]
  rcases Nat.mod_two_eq_zero_or_one (x / 2 ^ k) with h | h <;> rw [h] <;> rfl

theorem make_room (n : Nat) (hn : n ≤ 281474976710656) (w : World) :
    (Instr.makeSlice 56 (.int .i64 0) (.int .i64 (n : Int))).run Try.prog w = .ok (.slice (some ⟨w.heap.size, 0, none⟩) 0 n) (w.alloc (.cells (List.replicate n (.int .u8 0)).toArray 5)) := by
  obtain ⟨i0, hi, hz0, hz1, hz2⟩ := info_parts Try.info5
  have hr := run_make (P := Try.prog) w 56 5 i0 (.int .u8 0) Try.underlying56 hi hz0 .i64 .i64 0 (n : Int) (by omega) (by omega) (by rw [hz2]; omega) (by omega)
  rw [hr, hz1, show (Value.int IntKind.u8 0).cells = #[.int .u8 0] from rfl, Nat.mul_one, Int.toNat_natCast, made_replicate]
  rfl

theorem openRef_any (s : ByteArray) (w : World) (hs : s.size ≤ 1048576) :
    Calls Try.prog 45 #[.string s] w fun e w' => ∃ v, e = .returned v ∧ NewBits w w' v (win (bitAt s) 0 (8 * s.size)) := by
  have hmk := make_room (8 * s.size) (by omega)
  rw [show ((8 * s.size : Nat) : Int) = 8 * (s.size : Int) from by omega] at hmk
  obtain ⟨i0, hi, hz0, hz1, hz2⟩ := info_parts Try.info5
  go_enter Try.func45, Try.ntmps45
  go_wp2
  go_loopg [3, 4] s.size (fun q v i wr => ∃ j g cap : Nat, j + q = s.size ∧ v = .slice (some ⟨g, 0, none⟩) (8 * j) cap ∧ i = .int .i64 (j : Int) ∧ wr.ownsRow w.heap.size 5 1 v (8 * j) (bv (win (bitAt s) 0 (8 * j))) ∧ Below w.heap.size w wr)
  case atStart =>
    refine ⟨0, w.heap.size, 8 * s.size, by omega, rfl, rfl, ?_, (Below.refl _ _).alloc (Nat.le_refl _) _⟩
    exact World.ownsRow_made w _ _ (Nat.le_refl _) (by unfold maxLen; omega) (by simp)
  case round =>
    obtain ⟨j, g, cap, hq, rfl, rfl, hown, bl⟩ := hrel
    by_cases hlt : j < s.size
    · obtain ⟨q, hgq⟩ : ∃ q, q = gk := ⟨gk, rfl⟩
      subst hgq
      have gb := get_byteAt s
      have hby := byteAt_lt s j
      have hwb := Lib.hid (win_byte s j)
      have hwa := Lib.hid (show win (bitAt s) 0 (8 * (j + 1)) = win (bitAt s) 0 (8 * j) ++ digs 8 (byteAt s j) by rw [Nat.mul_add, win_add, Nat.zero_add, win_byte])
      have hji : (j : Int) < (s.size : Int) := by omega
      clear hmk
      go_wp2_with fail
      go_loopg [3, 5] 8 (fun q' v k w2 => ∃ n g cap N : Nat, n + q' = 8 ∧ N = 8 * j + n ∧ v = .slice (some ⟨g, 0, none⟩) N cap ∧ k = .int .i64 ((q' : Int) - 1) ∧ w2.ownsRow w.heap.size 5 1 v N (bv (win (bitAt s) 0 (8 * j) ++ (digs 8 (byteAt s j)).take n)) ∧ Below w.heap.size w w2)
      case atStart => exact ⟨0, g, cap, 8 * j, by omega, rfl, rfl, by go_num, by simpa using hown, bl⟩
      case round =>
        clear hown bl
        obtain ⟨n, g2, cap2, N, hn, hN, rfl, rfl, hown, bl⟩ := hrel
        by_cases h0 : gk = 0
        · subst h0
          have hN8 : N = 8 * (j + 1) := by omega
          have HN8 := Lib.hid hN8
          obtain rfl : n = 8 := by omega
          have hj1 : j + 1 + (q - 1) = s.size := by omega
          go_wp2_with fail
          go_roundg (q - 1)
          case measure => omega
          case rel =>
            refine ⟨j + 1, g2, cap2, hj1, by rw [← HN8.out], by go_num, ?_, bl⟩
            rw [← HN8.out, show win (bitAt s) 0 N = win (bitAt s) 0 (8 * j) ++ digs 8 (byteAt s j) from by rw [HN8.out]; exact hwa.out]
            rw [List.take_of_length_le (by rw [digs_length]; omega)] at hown
            exact hown
        · obtain ⟨r, rfl⟩ : ∃ r, gk = r + 1 := ⟨gk - 1, by omega⟩
          have e1 : ((r + 1 : Nat) : Int) - 1 = (r : Int) := by omega
          rw [e1]
          clear e1
          have hr8 : r < 8 := by omega
          have hbit := bit_u8 (byteAt s j) r hby
          have hNb : N ≤ 8388608 := by omega
          have hHN := Lib.hid hN
          have hHn := Lib.hid hn
          have hz' := bl.size
          have hnews : (bv (win (bitAt s) 0 (8 * j) ++ (digs 8 (byteAt s j)).take n)) ++ [.int .u8 (((byteAt s j).testBit r).toNat : Int)] = bv (win (bitAt s) 0 (8 * j) ++ (digs 8 (byteAt s j)).take (n + 1)) := by
            have hg := digs_get 8 (byteAt s j) n (by omega)
            rw [show 8 - 1 - n = r from by omega] at hg
            rw [List.take_add_one, hg]
            simp [bv]
          have HNW := Lib.hid hnews
          clear hN hn hnews h0 hwb hwa
          go_wp2_with (refine wpList_append_lies _ rfl (.tmp 20) (.tmp 27) 56 rfl w.heap.size 5 i0 (.int .u8 0) 1 1 Try.underlying56 hi hz0 hz1 hz2 ?_ ?_ (.slice (some ⟨g2, 0, none⟩) N cap2) N _ ?_ (hown.alloc _) ⟨wr.heap.size, 0, none⟩ 1 1 [.int .u8 (((byteAt s j).testBit r).toNat : Int)] ?_ ?_ (cell_one_new _ _ _) ?_ ?_ ?_ ?_ ?_ _ rfl ?_; rfl; decide; rfl; rfl; rfl; (simp [Value.oneCell']); decide; (unfold maxLen; omega); omega; (simp; omega); intro g3 cap3 w4 hown4 hgrow4 hat4 hlt4)
          rw [HNW.out] at hown4
          go_roundg r
          case measure => omega
          case rel => exact ⟨n + 1, g3, cap3, N + 1, by have := hHn.out; omega, by have := hHN.out; omega, rfl, by go_num, hown4, (bl.alloc hz' _).grown hgrow4 (by simp; omega) (fun k e => (hown.lt k e).1)⟩
    · obtain rfl : j = s.size := by omega
      clear hmk
      go_wp2
      go_ret
      have hl : (win (bitAt s) 0 (8 * s.size)).length = 8 * s.size := win_length _ _ _
      obtain ⟨g', cap', hv, h1, h2⟩ : ∃ g' cap', Value.slice (some ⟨g, 0, none⟩) (8 * s.size) cap = .slice (some ⟨g', 0, none⟩) (8 * s.size) cap' ∧ w.heap.size ≤ g' ∧ g' < wr.heap.size := by
        rcases hown.2 with ⟨h, _⟩ | ⟨g2, cap2, cur, h, hb, hg, _⟩
        · cases h
        · exact ⟨g2, cap2, h, hb, row_lt hg⟩
      exact ⟨_, rfl, g', cap', by rw [hl]; exact hv, h1, h2, by rw [hl]; exact hown, bl⟩
end Go.Proofs.Ytadfgadkihlmcaa
