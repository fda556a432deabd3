/- The walk of the law NalBack. -/
import Derived.Test.YtdlklcdafembhaaNY
import Derived.Test.YtdlklcdafembhaaNT
import Derived.Deep.QuietTactic
import Derived.BigQuiet
namespace Go.Proofs.Ytdlklcdafembhaa
open Go.RowKit Zn Zo

theorem join_at (a : Option Addr) (cap : Nat) (L : List UU) (w : World) (hu : UnitsAt w a L) (hb : bulk L ≤ 20000000) (hlen : L.length ≤ 20000000) {t : ByteArray} {code : Int} (h : jnAns L = (t.data.toList, code)) :
    Calls Try.prog 21 #[.slice a L.length cap] w fun e w' => e = .returned (.tuple #[.string t, .int .i64 code]) ∧ Below w.heap.size w w' := by
  refine (join_any a cap L w hu hb hlen).mono ?_
  rintro e w' ⟨rfl, b⟩
  exact ⟨by rw [h, str_eta], b⟩

theorem split_n (s : ByteArray) (w : World) (hm : ML w) (hs : s.size ≤ 100000000) {l : List (List UInt8)} {code : Int} {n : Nat} (h : splAns s.data.toList = (l, code)) (hn : l.length = n) :
    Calls Try.prog 22 #[.string s] w fun e w' => (∃ a cap, e = .returned (.tuple #[.slice a n cap, .int .i64 code]) ∧ (0 < n → ∃ g, a = some ⟨g, 0, none⟩ ∧ w.heap.size ≤ g ∧ g < w'.heap.size ∧ ∀ i p, l[i]? = some p → w'.cell? ⟨g, i, none⟩ = some (.string ⟨p.toArray⟩))) ∧ Below w.heap.size w w' := by
  subst hn
  refine (split_at s w hm hs h).mono ?_
  rintro e w' ⟨⟨a, cap, rfl, h1⟩, h2⟩
  refine ⟨⟨a, cap, rfl, fun h0 => ?_⟩, h2⟩
  obtain ⟨g, h3, h4, h5, h6⟩ := h1 h0
  refine ⟨g, h3, h4, h5, fun i p hp => ?_⟩
  obtain ⟨hi, rfl⟩ := List.getElem?_eq_some_iff.1 hp
  exact h6 i hi

theorem num_same (x : Int) (w : World) : Calls Try.prog 15 #[.int .i64 x] w fun e w' => e = .returned (.int .i64 x) ∧ w = w' :=
  (num_any x w).mono fun _ _ h => ⟨h.1, h.2.symm⟩

theorem bulk_ge : ∀ L : List UU, L.length ≤ bulk L
  | [] => Nat.le_refl _
  | u :: L => by
    have := bulk_ge L
    simp only [bulk, List.length_cons, List.map_cons, List.sum_cons] at this ⊢
    omega

theorem pk_up (u : UU) (h : u.ok) : upAns u.pk = (u, 0) := by
  obtain ⟨h1, h2, h3, h4⟩ := h
  obtain ⟨rf, ty, rb⟩ := u
  simp only at h1 h2 h3 h4
  have hb : ((32 * rf + ty).toNat.toUInt8).toNat = (32 * rf + ty).toNat := by simp; omega
  show upAns ((32 * rf + ty).toNat.toUInt8 :: esc 0 rb) = _
  rw [upAns, if_neg (by rw [hb]; omega), unAns_esc, if_pos rfl, hb]
  have e1 : (((32 * rf + ty).toNat / 32 : Nat) : Int) = rf := by omega
  have e2 : (((32 * rf + ty).toNat % 32 : Nat) : Int) = ty := by omega
  rw [e1, e2]

theorem pk_chk (u : UU) (h : u.ok) : chk 0 u.pk := by
  obtain ⟨h1, h2, h3, h4⟩ := h
  refine chk_pack _ _ ?_
  intro e
  have := congrArg UInt8.toNat e
  simp at this
  omega

theorem spl_strm (ps : List (List UInt8)) (h : ∀ p ∈ ps, chk 0 p) : splAns (strm ps) = (ps, 0) := by
  cases ps with
  | nil => rfl
  | cons p ps =>
    have e : strm (p :: ps) = 0 :: 0 :: 1 :: (p ++ strm ps) := rfl
    rw [e, splAns, if_pos (by simp [Zn.start, List.isPrefixOf])]
    have : sp (p ++ strm ps) = p :: ps := sp_strm ps p h
    rw [show List.drop 2 (0 :: 1 :: (p ++ strm ps)) = p ++ strm ps from rfl, this]

theorem nalBack_no (a : Option Addr) (cap : Nat) (L : List UU) (w : World) (hm : ML w) (hu : UnitsAt w a L) (hb : bulk L ≤ 1048576) (hall : ¬ ∀ u ∈ L, u.ok) :
    Calls Try.prog 6 #[.slice a L.length cap] w fun e w' => e = .returned (.bool true) ∧ Below w.heap.size w w' := by
  have HJ := Lib.hid (show jnAns L = ((⟨#[]⟩ : ByteArray).data.toList, 200) from if_neg hall)
  have HU := Lib.hid hu
  have HM := Lib.hid hm
  have hl := bulk_ge L
  clear hall hu hm
  go_enter Try.func6, Try.ntmps6
  go_wp2_with fail
  refine (awake_any _ HM.out).mono ?_
  rintro e w1 ⟨rfl, b1⟩
  have B1 := Lib.hid b1
  have U1 := Lib.hid (HU.out.below b1)
  clear b1
  go_wp2_with fail
  refine (join_at a cap L w1 U1.out (by omega) (by omega) (t := ⟨#[]⟩) (code := 200) HJ.out).mono ?_
  rintro e w2 ⟨rfl, b2⟩
  have B2 := Lib.hid (B1.out.trans (b2.mono B1.out.size))
  clear b2
  go_wp2_with (go_at_call 15; refine (num_same _ _).mono ?_; rintro e w' ⟨rfl, rfl⟩)
  go_ret
  exact ⟨rfl, B2.out⟩

set_option maxRecDepth 100000 in
set_option maxHeartbeats 3200000 in
theorem nalBack_yes (a : Option Addr) (cap : Nat) (L : List UU) (w : World) (hm : ML w) (hu : UnitsAt w a L) (hb : bulk L ≤ 1048576) (hall : ∀ u ∈ L, u.ok) :
    Calls Try.prog 6 #[.slice a L.length cap] w fun e w' => e = .returned (.bool true) ∧ Below w.heap.size w w' := by
  obtain ⟨t, ht⟩ : ∃ t : ByteArray, strm (L.map UU.pk) = t.data.toList := ⟨⟨(strm (L.map UU.pk)).toArray⟩, rfl⟩
  have hts : t.size ≤ 2 * bulk L := by
    have := strm_length L
    rw [ht] at this
    simpa using this
  have HJ := Lib.hid (show jnAns L = (t.data.toList, 0) by rw [← ht]; exact if_pos hall)
  have HS := Lib.hid (show splAns t.data.toList = (L.map UU.pk, 0) by
    rw [← ht]
    refine spl_strm _ fun p hp => ?_
    obtain ⟨u, hu, rfl⟩ := List.mem_map.1 hp
    exact pk_chk u (hall u hu))
  have HALL := Lib.hid hall
  have HU := Lib.hid hu
  have HM := Lib.hid hm
  have hl := bulk_ge L
  have hml : (L.map UU.pk).length = L.length := by simp
  have HML := Lib.hid hml
  clear hall hu hm ht hml
  go_enter Try.func6, Try.ntmps6
  go_wp2_with fail
  refine (awake_any _ HM.out).mono ?_
  rintro e w1 ⟨rfl, b1⟩
  have B1 := Lib.hid b1
  have U1 := Lib.hid (HU.out.below b1)
  have M1 := Lib.hid (HM.out.below b1)
  clear b1
  go_wp2_with fail
  refine (join_at a cap L w1 U1.out (by omega) (by omega) HJ.out).mono ?_
  rintro e w2 ⟨rfl, b2⟩
  have B2 := Lib.hid (B1.out.trans (b2.mono B1.out.size))
  have U2 := Lib.hid (U1.out.below b2)
  have M2 := Lib.hid (M1.out.below b2)
  clear b2
  go_wp2_with (go_at_call 15; refine (num_same _ _).mono ?_; rintro e w' ⟨rfl, rfl⟩)
  refine (split_n t _ M2.out (by omega) HS.out HML.out).mono ?_
  rintro e w3 ⟨⟨g, cp, rfl, hcells⟩, b3⟩
  have B3 := Lib.hid (B2.out.trans (b3.mono B2.out.size))
  have U3 := Lib.hid (U2.out.below b3)
  have HC := Lib.hid hcells
  clear b3 hcells
  go_wp2_with (go_at_call 15; refine (num_same _ _).mono ?_; rintro e w' ⟨rfl, rfl⟩)
  obtain ⟨wo, hwo⟩ : ∃ wo : World, wo = w3 := ⟨_, rfl⟩
  go_loopg [7] L.length (fun q iv wr => ∃ k : Nat, k + q = L.length ∧ iv = .int .i64 ((k : Nat) : Int) ∧ Below wo.heap.size wo wr)
  case atStart => exact ⟨0, by omega, rfl, by rw [hwo]; exact Below.refl _ _⟩
  case round =>
    obtain ⟨k, hq, rfl, bl⟩ := hrel
    obtain ⟨Q, hQ⟩ : ∃ Q, Q = gk := ⟨_, rfl⟩
    subst hQ
    by_cases hlt : k < L.length
    · have hk1 : (k + 1) + (Q - 1) = L.length := by omega
      obtain ⟨u, hu⟩ : ∃ u, L[k] = u := ⟨_, rfl⟩
      have hok : u.ok := HALL.out u (by rw [← hu]; exact List.getElem_mem hlt)
      have hub := bulk_at L k hlt
      rw [hu] at hub
      obtain ⟨b, off, rfl, hun⟩ : ∃ b off, a = some ⟨b, off, none⟩ ∧ IsUnits wr b off L := by
        rcases U3.out with h | ⟨b, off, h1, h2⟩
        · rw [h] at hlt; cases hlt
        · exact ⟨b, off, h1, h2.below (by rw [← hwo]; exact bl)⟩
      obtain ⟨gb, rfl, hg1, hg2, hgc⟩ := HC.out (by omega)
      have hgk := hgc k u.pk (by simp [hlt, hu])
      rw [← hwo] at hgk hg2
      have hcell := (bl.cell (p := ⟨gb, k, none⟩) hg2).trans hgk
      obtain ⟨c0, c1, c2⟩ := hun.2 k hlt
      rw [hu] at c0 c1 c2
      have hnu := pk_up u hok
      have hpl := pk_length u.ref u.ty u.rb
      obtain ⟨pb, hpb⟩ : ∃ pb : ByteArray, u.pk = pb.data.toList := ⟨⟨u.pk.toArray⟩, rfl⟩
      have hpbs : pb.size ≤ 90000000 := by
        have := congrArg List.length hpb
        simp only [UU.pk] at this
        simp at this
        omega
      obtain ⟨ub, hub2⟩ : ∃ ub : ByteArray, u.rb = ub.data.toList := ⟨⟨u.rb.toArray⟩, rfl⟩
      obtain ⟨eb, heb⟩ : ∃ eb : ByteArray, esc 0 ub.data.toList = eb.data.toList := ⟨⟨(esc 0 ub.data.toList).toArray⟩, rfl⟩
      have hubs : ub.size ≤ 1048576 := by
        have := congrArg List.length hub2
        simp at this
        omega
      have hebs : eb.size ≤ 2000000 := by
        have h1 := esc_length_le ub.data.toList 0 (by omega)
        have h2 := congrArg List.length heb
        simp at h1 h2
        omega
      rw [hpb, str_eta] at hcell
      rw [hub2, str_eta] at c2
      have HUP : Hid (upAns pb.data.toList = (⟨u.ref, u.ty, ub.data.toList⟩, 0)) := by
        show _ = _
        rw [← hpb, hnu, ← hub2]
      have HEB := Lib.hid heb
      have HCH : Hid (chk 0 eb.data.toList) := by show chk _ _; rw [← heb]; exact chk_esc _ _ (by omega)
      have HBL := Lib.hid bl
      have hbB := hun.1
      clear hu hnu hpl hpb hub2 heb hun bl hub hgk hgc
      have HWO := Lib.hid hwo
      clear hwo
      go_wp2_with fail
      refine (up_at pb wr hpbs HUP.out).mono ?_
      rintro e w4 ⟨rfl, b4⟩
      have ba : Below w4.heap.size w4 (w4.alloc (.cells #[.int .i64 u.ref, .int .i64 u.ty, .string ub] 32)) := (Below.refl _ _).alloc (Nat.le_refl _) _
      have z4 := b4.size
      have b4a : Below wr.heap.size wr (w4.alloc (.cells #[.int .i64 u.ref, .int .i64 u.ty, .string ub] 32)) := b4.trans (ba.mono z4)
      have c2' := (b4a.cell (p := ⟨b, off + k * 3 + 2, none⟩) hbB).trans c2
      have HX := Lib.hid (heap_alloc_last w4 (.cells #[.int .i64 u.ref, .int .i64 u.ty, .string ub] 32))
      have B4 := Lib.hid b4a
      have HBB := Lib.hid hbB
      have C0 := Lib.hid c0
      have C1 := Lib.hid c1
      have C2 := Lib.hid c2
      clear ba b4 b4a hcell c0 c1 c2
      go_wp2_with fail
      refine (escape_str ub _ (by omega) HEB.out).mono ?_
      rintro e w5 ⟨rfl, b5⟩
      have hx5 := (b5.block w4.heap.size (by simp)).trans HX.out
      have b45 := B4.out.trans (b5.mono B4.out.size)
      have d0 := cell_of_row _ _ 0 _ _ _ hx5
      have d1 := cell_of_row _ _ 1 _ _ _ hx5
      have d2 := cell_of_row _ _ 2 _ _ _ hx5
      simp at d0 d1 d2
      have c0 := (b45.cell (p := ⟨b, off + k * 3, none⟩) HBB.out).trans C0.out
      have c1 := (b45.cell (p := ⟨b, off + k * 3 + 1, none⟩) HBB.out).trans C1.out
      have c2 := (b45.cell (p := ⟨b, off + k * 3 + 2, none⟩) HBB.out).trans C2.out
      have BF := Lib.hid (HBL.out.trans (b45.mono HBL.out.size))
      clear b5 b45 hx5 c2' z4 hbB
      go_wp2_with fail
      go_loopg [11] (eb.size + 1) (fun q jv wx => ∃ j : Nat, j + q = eb.size + 1 ∧ jv = .int .i64 ((j : Nat) : Int) ∧ w5 = wx)
      case atStart => exact ⟨0, by omega, rfl, rfl⟩
      case round =>
        obtain ⟨j, hj, rfl, rfl⟩ := hrel
        have hj2 : j ≤ 2000001 := by omega
        by_cases hjl : j + 3 ≤ eb.size
        · have hj1 : (j + 1) + (gk - 1) = eb.size + 1 := by omega
          have hjc : ((eb[j].toNat : Int) == 0) = false ∨ (((eb[j].toNat : Int) == 0) = true ∧ ((eb[j + 1].toNat : Int) == 0) = false) ∨ (((eb[j].toNat : Int) == 0) = true ∧ ((eb[j + 1].toNat : Int) == 0) = true ∧ ¬ (eb[j + 2].toNat : Int) < 3) := by
            by_cases h1 : eb[j].toNat = 0
            · by_cases h2 : eb[j + 1].toNat = 0
              · refine .inr (.inr ⟨by simp [h1], by simp [h2], ?_⟩)
                have h3 := chk_at eb.data.toList 0 j HCH.out eb[j + 2] (by rw [List.getElem?_eq_getElem (by simpa using (by omega : j < eb.size))]; exact congrArg some (byte_zero.2 h1)) (by rw [List.getElem?_eq_getElem (by simpa using (by omega : j + 1 < eb.size))]; exact congrArg some (byte_zero.2 h2)) (by rw [List.getElem?_eq_getElem (by simpa using (by omega : j + 2 < eb.size))]; rfl)
                rw [byte_lt3] at h3
                omega
              · exact .inr (.inl ⟨by simp [h1], by simp; omega⟩)
            · exact .inl (by simp; omega)
          rcases hjc with h1 | ⟨h1, h2⟩ | ⟨h1, h2, h3⟩
          all_goals
            go_wp2_with fail
            go_roundg (gk - 1)
            case measure => omega
            case rel => exact ⟨j + 1, hj1, by go_num, rfl⟩
        · go_wp2_with fail
          go_quiet ((go_at_call 15; exact Calls.quiet_of_same (num_any _ _)))
          go_wp2_with fail
          go_roundg (Q - 1)
          case measure => omega
          case rel => exact ⟨k + 1, hk1, by go_num, below_drewN BF.out _⟩
    · obtain rfl : k = L.length := by omega
      go_wp2_with fail
      go_ret
      exact ⟨rfl, B3.out.trans (by rw [hwo] at bl; exact bl.mono B3.out.size)⟩

end Go.Proofs.Ytdlklcdafembhaa
