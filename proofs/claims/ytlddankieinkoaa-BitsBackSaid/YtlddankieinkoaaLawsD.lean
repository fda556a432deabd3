/- The walk of the law BitsBack. -/
import Derived.Test.YtlddankieinkoaaLawsC
import Derived.Test.YtlddankieinkoaaO
namespace Go.Proofs.Ytlddankieinkoaa
open Go.RowKit Zo

/-- What the walk is told of a slice of integers that came in: it is nil; or it leads to a row of 'cap' cells, the numbers 'zs' (the first 'len' are its elements). -/
def IsRow (k : IntKind) (w : World) (a : Option Addr) (len cap : Nat) (zs : List Int) : Prop :=
  (a = none ∧ len = 0 ∧ cap = 0 ∧ zs = []) ∨
  ∃ x, a = some x ∧ len ≤ cap ∧ cap ≤ maxLen ∧ zs.length = cap ∧ (∀ i, i < zs.length → w.cell? (x.add i) = some (.int k (zs.getD i 0))) ∧ ∀ n ∈ zs, (Lit.int k n).wf = true

theorem IsRow.at {k : IntKind} {w : World} {a : Option Addr} {len cap : Nat} {zs : List Int} (h : IsRow k w a len cap zs) (hl : 0 < len) :
    ∃ b off, a = some ⟨b, off, none⟩ ∧ len ≤ zs.length ∧ b < w.heap.size ∧ ∀ i, i < len → w.cell? ⟨b, off + i, none⟩ = some (.int k (zs.getD i 0)) := by
  rcases h with ⟨_, h, _⟩ | ⟨x, rfl, h1, _, h2, h3, _⟩
  · omega
  · have h30 := h3 0 (by omega)
    obtain ⟨b, off, spot⟩ := x
    cases spot with
    | some s =>
      exfalso
      simp [World.cell?, Addr.add] at h30
      split at h30 <;> simp at h30
    | none =>
      refine ⟨b, off, rfl, by omega, World.block_lt_of_cell? w _ h30, fun i hi => ?_⟩
      have := h3 i (by omega)
      rwa [show (⟨b, off, none⟩ : Addr).add i = ⟨b, off + i, none⟩ from by unfold Addr.add; split <;> simp_all] at this

set_option maxRecDepth 100000 in
theorem back_empty (a : Option Addr) (cap : Nat) (most : Int) (w : World) :
    Calls Try.prog 5 #[.slice a 0 cap, .int .i64 most] w fun e w' => e = .returned (.bool true) ∧ Below w.heap.size w w' := by
  have hw0 : 0 ≤ IntKind.u64.wrap most := by rw [IntKind.wrap_u64]; omega
  go_enter Try.func5, Try.ntmps5
  go_wp2_with fail
  refine (awake_any _ _ (Nat.le_refl _)).mono ?_
  rintro e w1 ⟨rfl, b1⟩
  have z1 := b1.size
  go_wp2_with fail
  refine (new_e z1).mono ?_
  rintro e w2 ⟨b, rfl, h2, b2, _⟩
  replace b1 := b1.trans b2
  go_wp2_with fail
  refine wp_loop_rounds 1 ?_
  rw [rounds_succ]
  go_wp2_with fail
  refine (trailW_e h2 (by simp)).mono ?_
  rintro e w3 ⟨rfl, h3, b3, _⟩
  replace b1 := b1.trans b3
  go_wp2_with fail
  refine (bytes_e h3 (by simp [trailB])).mono ?_
  rw [show bstr (packB _) = ⟨#[128]⟩ from by decide]
  rintro e w4 ⟨rfl, h4, b4, _⟩
  replace b1 := b1.trans b4
  have z4 := b1.size
  go_wp2_with fail
  refine (open_e _ z4 (by decide)).mono ?_
  rintro e w5 ⟨b', rfl, h5, b5, t5⟩
  replace b1 := b1.trans b5
  replace h4 := t5 _ _ h4
  clear t5
  go_wp2_with fail
  refine wp_loop_rounds 1 ?_
  rw [rounds_succ]
  go_wp2_with fail
  have hp := past_trail []
  rw [show bstr (packB ([] ++ trailB ([] : List Bool).length)) = ⟨#[128]⟩ from by decide] at hp
  refine (more_e h5 hp (by decide)).mono ?_
  rintro e w6 ⟨rfl, h6, b6, t6⟩
  replace h4 := t6 _ _ h4
  clear t6
  go_wp2_with fail
  refine (trailR_e h6 hp (by decide)).mono ?_
  rw [if_pos (by decide), if_pos (by decide), show 8 * (ByteArray.mk #[128]).size = 8 from by decide]
  rintro e w7 ⟨rfl, h7, b7, t7⟩
  replace h4 := t7 _ _ h4
  clear t7
  replace b1 := b1.trans (b6.trans b7)
  go_wp2_with (go_at_call 12; refine (num_any _ _).mono ?_; rintro e w' ⟨rfl, rfl⟩)
  refine (at_e h7).mono ?_
  rintro e w8 ⟨rfl, h8, b8, t8⟩
  replace h4 := t8 _ _ h4
  clear t8
  go_wp2_with fail
  refine (len_e h4 (by simp [trailB])).mono ?_
  rw [show (([] : List Bool) ++ trailB ([] : List Bool).length).length = 8 from by decide]
  rintro e w9 ⟨rfl, h9, b9, t9⟩
  go_wp2_with fail
  go_ret
  exact ⟨rfl, b1.trans (b8.trans b9)⟩

theorem teAns_back (a m : Nat) (hm : 1 ≤ m) (ha : a ≤ m) (hm2 : m ≤ 1000) : teAns (a : Int) (m : Int) = (0, teB a m) := by
  unfold teAns teB
  rw [if_pos (by omega)]
  by_cases h1 : m = 1
  · subst h1; simp
  · rw [if_neg (by omega), if_neg h1, ueAns, if_pos (by omega)]; rfl

theorem bitsAns_back (a : Nat) (ha : a < 1000000) : bitsAns (a : Int) 20 = (0, digs 20 a) := by
  unfold bitsAns
  rw [if_pos (by simp; omega)]; rfl

theorem max_abs (y : Int) : max y (-y) = (y.natAbs : Int) := by omega

set_option maxRecDepth 100000 in
set_option maxHeartbeats 3200000 in
theorem back_some (b0 off len cap : Nat) (zs : List Int) (most : Int) (w : World) (hlen : len ≤ zs.length) (hb0 : b0 < w.heap.size) (hcell : ∀ i, i < len → w.cell? ⟨b0, off + i, none⟩ = some (.int .i64 (zs.getD i 0))) (hbig : len ≤ 9223372036854775807) :
    Calls Try.prog 5 #[.slice (some ⟨b0, off, none⟩) len cap, .int .i64 most] w fun e w' => e = .returned (.bool true) ∧ Below w.heap.size w w' := by
  have hw0 : 0 ≤ IntKind.u64.wrap most := by rw [IntKind.wrap_u64]; omega
  obtain ⟨m0, hm0⟩ := Int.eq_ofNat_of_zero_le (show 0 ≤ IntKind.u64.wrap most % 1000 by omega)
  have hm9 : m0 ≤ 999 := by omega
  have HC := Lib.hid hcell
  clear hcell
  go_enter Try.func5, Try.ntmps5
  go_wp2_with fail
  refine (awake_any _ _ (Nat.le_refl _)).mono ?_
  rintro e w1 ⟨rfl, b1⟩
  have z1 := b1.size
  go_wp2_with fail
  refine (new_e z1).mono ?_
  rintro e w2 ⟨b, rfl, h2, b2, _⟩
  replace b1 := b1.trans b2
  clear b2 z1
  go_wp2_with fail
  try simp only [hm0]
  clear hm0 hw0
  go_loopg [7] 60 (fun q i wr => ∃ j : Nat, j ≤ len ∧ j + q = 60 ∧ i = .int .i64 (j : Int) ∧ WrE wr w.heap.size b (backsB (m0 + 1) (zs.take j)) ∧ Below w.heap.size w wr)
  case atStart => exact ⟨0, by omega, by omega, rfl, h2, b1⟩
  case round =>
    clear h2 b1
    obtain ⟨j, hj, hq, rfl, hr, bl⟩ := hrel
    have hbl : (backsB (m0 + 1) (zs.take j)).length ≤ 203 * 60 := by
      have := backsB_length (m0 + 1) (by omega) (zs.take j)
      rw [List.length_take] at this
      omega
    by_cases hlt : j < len ∧ j < 60
    · obtain ⟨hlt1, hlt2⟩ := hlt
      have hc : wr.cell? ⟨b0, off + j, none⟩ = some (.int .i64 (zs.getD j 0)) := (bl.cell (p := ⟨b0, off + j, none⟩) hb0).trans (HC.out j hlt1)
      have hsnoc : backsB (m0 + 1) (zs.take (j + 1)) = backsB (m0 + 1) (zs.take j) ++ backB (m0 + 1) (zs.getD j 0) := by
        rw [List.take_succ_eq_append_getElem (by omega), backsB_snoc, List.getD_eq_getElem?_getD, List.getElem?_eq_getElem (by omega)]
        rfl
      have HS := Lib.hid hsnoc
      clear hsnoc
      generalize zs.getD j 0 = z at hc HS
      have hy := tmod_bounds z
      have HB := Lib.hid (show backB (m0 + 1) z = seB (z.tmod 1000000) ++ ueB (z.tmod 1000000).natAbs ++ teB ((z.tmod 1000000).natAbs % (m0 + 1 + 1)) (m0 + 1) ++ digs 20 (z.tmod 1000000).natAbs from rfl)
      obtain ⟨y, hyz⟩ : ∃ y, z.tmod 1000000 = y := ⟨_, rfl⟩
      rw [hyz] at hy HB
      obtain ⟨hy1, hy2⟩ := hy
      have hmx := max_abs y
      have ha : y.natAbs < 1000000 := by omega
      have A1 := Lib.hid (show seAns y = (0, seB y) by rw [seAns, if_pos (by omega)])
      have HSl := Lib.hid (show (seB y).length ≤ 61 from (ueB_length (foldedN y) (foldedN_le y (by omega) (by omega))).2)
      generalize y.natAbs = a at *
      have A2 := Lib.hid (show ueAns (a : Int) = (0, ueB a) by rw [ueAns, if_pos (by omega)]; rfl)
      have HUl := Lib.hid (ueB_length a (by omega)).2
      have hmod := Nat.mod_lt a (show 0 < m0 + 1 + 1 by omega)
      have A3 := Lib.hid (show teAns ((a : Int) % (1 + (m0 : Int) + 1)) (1 + (m0 : Int)) = (0, teB (a % (m0 + 1 + 1)) (m0 + 1)) by
        have := teAns_back (a % (m0 + 1 + 1)) (m0 + 1) (by omega) (by omega) (by omega)
        rw [show (a : Int) % (1 + (m0 : Int) + 1) = ((a % (m0 + 1 + 1) : Nat) : Int) from by rw [Int.natCast_emod]; congr 1; omega, show (1 + (m0 : Int)) = ((m0 + 1 : Nat) : Int) from by omega]
        exact this)
      have HTl := Lib.hid (show (teB (a % (m0 + 1 + 1)) (m0 + 1)).length ≤ 61 by
        unfold teB; split
        · simp
        · exact (ueB_length _ (by omega)).2)
      clear hmod
      have A4 := Lib.hid (bitsAns_back a ha)
      go_wp2_with fail
      refine (se_e y hr (by omega)).mono ?_
      rw [A1.out]
      rintro e w3 ⟨rfl, h3, b3, _⟩
      replace bl := bl.trans b3
      go_wp2_with fail
      refine (ue_e a h3 (by simp only [List.length_append]; have := HSl.out; omega)).mono ?_
      rw [A2.out]
      rintro e w4 ⟨rfl, h4, b4, _⟩
      replace bl := bl.trans b4
      go_wp2_with fail
      refine (te_e _ _ h4 (by simp only [List.length_append]; have := HSl.out; have := HUl.out; omega)).mono ?_
      rw [A3.out]
      rintro e w5 ⟨rfl, h5, b5, _⟩
      replace bl := bl.trans b5
      go_wp2_with fail
      refine (bitsW_e a 20 h5 (by simp only [List.length_append]; have := HSl.out; have := HUl.out; have := HTl.out; omega)).mono ?_
      rw [A4.out]
      rintro e w6 ⟨rfl, h6, b6, _⟩
      replace bl := bl.trans b6
      go_wp2_with fail
      go_roundg (gk - 1)
      case measure => omega
      case rel =>
        refine ⟨j + 1, by omega, by omega, by go_num, ?_, bl⟩
        rw [HS.out, HB.out]
        simp only [← List.append_assoc]
        exact h6
    · have hmin : (len ≤ j ∧ j ≤ 60) ∨ (j < len ∧ 60 ≤ j ∧ j ≤ 60) := by omega
      clear hlt hq
      have htl : (backsB (m0 + 1) (zs.take j) ++ trailB (backsB (m0 + 1) (zs.take j)).length).length ≤ 20000 := by simp [trailB]; omega
      rcases hmin with ⟨k1, k2⟩ | ⟨k0, k1, k2⟩
      all_goals
        go_wp2_with fail
        refine (trailW_e hr (by omega)).mono ?_
        rintro e w3 ⟨rfl, h3, b3, _⟩
        replace bl := bl.trans b3
        go_wp2_with fail
        refine (bytes_e h3 (by omega)).mono ?_
        have hps := past_trail (backsB (m0 + 1) (zs.take j))
        have htz := trail_size (backsB (m0 + 1) (zs.take j))
        have hbit := bitAt_pack (backsB (m0 + 1) (zs.take j) ++ trailB (backsB (m0 + 1) (zs.take j)).length)
        have hL : (backsB (m0 + 1) (zs.take j) ++ trailB (backsB (m0 + 1) (zs.take j)).length).length = 8 * (bstr (packB (backsB (m0 + 1) (zs.take j) ++ trailB (backsB (m0 + 1) (zs.take j)).length))).size := by
          rw [htz]; simp [trailB]; omega
        generalize hs : bstr (packB (backsB (m0 + 1) (zs.take j) ++ trailB (backsB (m0 + 1) (zs.take j)).length)) = s at *
        have HPS := Lib.hid hps
        have HTZ := Lib.hid htz
        have HBIT := Lib.hid hbit
        have HL := Lib.hid hL
        have hss : s.size ≤ 140737488355328 := by omega
        clear hs hps htz hbit hL hr h3 b3
        rintro e w4 ⟨rfl, h4, b4, _⟩
        replace bl := bl.trans b4
        have z4 := bl.size
        clear b4
        go_wp2_with fail
        refine (open_e s z4 hss).mono ?_
        rintro e w5 ⟨b', rfl, h5, b5, t5⟩
        replace bl := bl.trans b5
        replace h4 := t5 _ _ h4
        clear t5 z4 b5
        go_wp2_with fail
        go_loopg [10] j (fun q i wr => ∃ n : Nat, n + q = j ∧ i = .int .i64 (n : Int) ∧ Rd wr w.heap.size b' s (backsB (m0 + 1) (zs.take n)).length ∧ WrE wr w.heap.size b (backsB (m0 + 1) (zs.take j) ++ trailB (backsB (m0 + 1) (zs.take j)).length) ∧ Below w.heap.size w wr)
        case atStart => exact ⟨0, by omega, rfl, h5, h4, bl⟩
        case round =>
          clear h4 h5 bl
          obtain ⟨n, hq, rfl, h5, h4, bl⟩ := hrel
          by_cases hn : n < j
          · have hn1 : n < len := by omega
            have hn2 : n < 60 := by omega
            have hc : wr.cell? ⟨b0, off + n, none⟩ = some (.int .i64 (zs.getD n 0)) := (bl.cell (p := ⟨b0, off + n, none⟩) hb0).trans (HC.out n hn1)
            have hsnoc : backsB (m0 + 1) (zs.take (n + 1)) = backsB (m0 + 1) (zs.take n) ++ backB (m0 + 1) (zs.getD n 0) := by
              rw [List.take_succ_eq_append_getElem (by omega), backsB_snoc, List.getD_eq_getElem?_getD, List.getElem?_eq_getElem (by omega)]
              rfl
            obtain ⟨post, hpost⟩ : ∃ post, backsB (m0 + 1) (zs.take j) = backsB (m0 + 1) (zs.take (n + 1)) ++ post := by
              refine ⟨backsB (m0 + 1) ((zs.take j).drop (n + 1)), ?_⟩
              rw [← backsB_append, show zs.take (n + 1) = (zs.take j).take (n + 1) from by rw [List.take_take, Nat.min_eq_left (by omega)], List.take_append_drop]
            have hwin : win (bitAt s) (backsB (m0 + 1) (zs.take n)).length (backB (m0 + 1) (zs.getD n 0)).length = backB (m0 + 1) (zs.getD n 0) := by
              have := win_list (backsB (m0 + 1) (zs.take n)) (backB (m0 + 1) (zs.getD n 0)) (post ++ trailB (backsB (m0 + 1) (zs.take j)).length)
              rw [← hsnoc, ← List.append_assoc, ← hpost] at this
              rw [show bitAt s = _ from funext HBIT.out]
              exact this
            have hT : (backsB (m0 + 1) (zs.take n)).length + (backB (m0 + 1) (zs.getD n 0)).length ≤ 8 * s.size := by
              rw [← HL.out, ← List.length_append, ← hsnoc, hpost]
              simp only [List.length_append]
              omega
            have hlen1 : (backsB (m0 + 1) (zs.take (n + 1))).length = (backsB (m0 + 1) (zs.take n)).length + (backB (m0 + 1) (zs.getD n 0)).length := by rw [hsnoc, List.length_append]
            have HL1 := Lib.hid hlen1
            clear hsnoc hpost hlen1
            generalize zs.getD n 0 = z at hc hwin hT HL1
            have hy := tmod_bounds z
            obtain ⟨y, hyz⟩ : ∃ y, z.tmod 1000000 = y := ⟨_, rfl⟩
            rw [hyz] at hy
            obtain ⟨hy1, hy2⟩ := hy
            have hmx := max_abs y
            have ha : y.natAbs < 1000000 := by omega
            obtain ⟨a, haa⟩ : ∃ a, y.natAbs = a := ⟨_, rfl⟩
            obtain ⟨P1, P2, P3, r1, r2, r3, r4⟩ := back_reads (bitAt s) (8 * s.size) _ (m0 + 1) (by omega) (by omega) z y a hyz haa hwin hT
            rw [haa] at hmx ha
            rw [show ((m0 + 1 : Nat) : Int) = 1 + (m0 : Int) from by omega] at r3
            have R1 := Lib.hid r1
            have R2 := Lib.hid r2
            have R3 := Lib.hid r3
            have R4 := Lib.hid r4
            have RU := Lib.hid (unfolded_folded y)
            have hne : ((a % (m0 + 1 + 1) : Nat) : Int) = (a : Int) % (1 + (m0 : Int) + 1) := by rw [Int.natCast_emod]; congr 1; omega
            have HNE := Lib.hid hne
            clear r1 r2 r3 r4 hwin hT haa hne
            go_wp2_with fail
            refine (rSe_e h5 hss).mono ?_
            rw [R1.out, RU.out]
            rintro e w6 ⟨rfl, h6, b6, t6⟩
            replace h4 := t6 _ _ h4
            replace bl := bl.trans b6
            clear t6 b6 h5
            go_wp2_with fail
            refine (rUe_e h6 hss).mono ?_
            rw [R2.out]
            rintro e w7 ⟨rfl, h7, b7, t7⟩
            replace h4 := t7 _ _ h4
            replace bl := bl.trans b7
            clear t7 b7 h6
            go_wp2_with fail
            refine (rTe_e _ h7 hss).mono ?_
            rw [R3.out, HNE.out]
            rintro e w8 ⟨rfl, h8, b8, t8⟩
            replace h4 := t8 _ _ h4
            replace bl := bl.trans b8
            clear t8 b8 h7
            go_wp2_with fail
            refine (rBits_e _ h8 hss).mono ?_
            rw [R4.out]
            rintro e w9 ⟨rfl, h9, b9, t9⟩
            replace h4 := t9 _ _ h4
            replace bl := bl.trans b9
            clear t9 b9 h8
            go_wp2_with (go_at_call 12; refine (num_any _ _).mono ?_; rintro e w' ⟨rfl, rfl⟩)
            go_roundg (gk - 1)
            case measure => omega
            case rel =>
              refine ⟨n + 1, by omega, by go_num, ?_, h4, bl⟩
              rw [HL1.out]
              exact h9
          · obtain rfl : n = j := by omega
            have hx : ¬ (n < len ∧ n < 60) := by omega
            go_wp2_with fail
            refine (more_e h5 HPS.out hss).mono ?_
            rw [show decide ((backsB (m0 + 1) (zs.take n)).length + 1 < (backsB (m0 + 1) (zs.take n)).length + 1) = false from by simp]
            rintro e w6 ⟨rfl, h6, b6, t6⟩
            replace h4 := t6 _ _ h4
            replace bl := bl.trans b6
            clear t6 b6 h5
            go_wp2_with fail
            refine (trailR_e h6 HPS.out hss).mono ?_
            have hT1 : ((backsB (m0 + 1) (zs.take n)).length + 1 = (backsB (m0 + 1) (zs.take n)).length + 1 ∧ 8 * s.size - (backsB (m0 + 1) (zs.take n)).length ≤ 8) := ⟨rfl, by have := HTZ.out; omega⟩
            rw [if_pos hT1, if_pos hT1, ← HL.out]
            clear hT1
            rintro e w7 ⟨rfl, h7, b7, t7⟩
            replace h4 := t7 _ _ h4
            replace bl := bl.trans b7
            clear t7 b7 h6
            go_wp2_with (go_at_call 12; refine (num_any _ _).mono ?_; rintro e w' ⟨rfl, rfl⟩)
            refine (at_e h7).mono ?_
            rintro e w8 ⟨rfl, h8, b8, t8⟩
            replace h4 := t8 _ _ h4
            replace bl := bl.trans b8
            clear t8 b8 h7
            go_wp2_with fail
            refine (len_e h4 (by omega)).mono ?_
            rintro e w9 ⟨rfl, h9, b9, t9⟩
            go_wp2_with fail
            go_ret
            exact ⟨rfl, bl.trans b9⟩


theorem bitsBack_walk (a0 : Option Addr) (len0 cap0 : Nat) (z0 : List Int) (a1 : Int) {w : World} (w0 : IsRow .i64 w a0 len0 cap0 z0) (_ : (Lit.int .i64 a1).wf = true) :
    Calls Try.prog 5 #[.slice a0 len0 cap0, .int .i64 a1] w fun e w' => e = .returned (.bool true) ∧ Below w.heap.size w w' := by
  by_cases h0 : len0 = 0
  · subst h0
    exact back_empty a0 cap0 a1 w
  · obtain ⟨b, off, rfl, h1, h2, h3⟩ := w0.at (by omega)
    have hm : len0 ≤ 9223372036854775807 := by
      rcases w0 with ⟨h, _⟩ | ⟨x, _, h4, h5, _⟩
      · cases h
      · unfold maxLen at h5; omega
    exact back_some b off len0 cap0 z0 a1 w h1 h2 h3 hm
end Go.Proofs.Ytlddankieinkoaa
