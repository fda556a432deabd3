/- The walk of the law NalStreams. -/
import Derived.Test.YtdlklcdafembhaaOD
namespace Go.Proofs.Ytdlklcdafembhaa
open Go.RowKit Zn Zo

theorem split_t (s : ByteArray) (w : World) (hm : ML w) (hs : s.size ≤ 100000000) {l : List (List UInt8)} {code : Int} {n : Nat} (h : splAns s.data.toList = (l, code)) (hn : l.length = n) :
    Calls Try.prog 22 #[.string s] w fun e w' => (∃ a cap, e = .returned (.tuple #[.slice a n cap, .int .i64 code]) ∧ TextsAt w' a n l) ∧ Below w.heap.size w w' := by
  refine (split_n s w hm hs h hn).mono ?_
  rintro e w' ⟨⟨a, cap, rfl, h1⟩, h2⟩
  refine ⟨⟨a, cap, rfl, hn, fun h0 => ?_⟩, h2⟩
  obtain ⟨g, h3, _, h4, h5⟩ := h1 h0
  exact ⟨g, h3, h4, h5⟩

theorem splRef_t (s : ByteArray) (w : World) (hs : s.size ≤ 100000000) {l : List (List UInt8)} {code : Int} {n : Nat} (h : splAns s.data.toList = (l, code)) (hn : l.length = n) :
    Calls Try.prog 23 #[.string s] w fun e w' => (∃ a cap, e = .returned (.tuple #[.slice a n cap, .int .i64 code]) ∧ TextsAt w' a n l) ∧ Below w.heap.size w w' := by
  refine (splRef_any s w hs).mono ?_
  rintro e w' ⟨v, rfl, h1, h2⟩
  rw [h] at h1 ⊢
  obtain ⟨a, cap, rfl, h3⟩ := h1.shape
  subst hn
  refine ⟨⟨a, cap, rfl, rfl, fun h0 => ?_⟩, h2⟩
  obtain ⟨g, h4, _, h5, h6⟩ := h3 h0
  refine ⟨g, h4, h5, fun i p hp => ?_⟩
  obtain ⟨hi, rfl⟩ := List.getElem?_eq_some_iff.1 hp
  exact h6 i hi

theorem sp_count (s : List UInt8) : (splAns s).1.length ≤ s.length + 1 := by
  cases s with
  | nil => simp [splAns]
  | cons c s =>
    rw [splAns]
    split
    · have h1 := sum_ge (sp (s.drop 2))
      have h2 := sp_sum _ (s.drop 2) (Nat.le_refl _)
      have h3 : ∀ l : List (List UInt8), 3 * l.length ≤ (l.map fun p => 3 + p.length).sum := by
        intro l
        induction l with
        | nil => simp
        | cons p l ih => simp only [List.length_cons, List.map_cons, List.sum_cons]; omega
      have h4 := h3 (sp (s.drop 2))
      simp only [List.length_drop, List.length_cons] at *
      omega
    · simp

/-- What the law's own stream is, behind k units. -/
def WantIs (L : List UU) (k : Nat) (wb : ByteArray) (cd : Int) : Prop :=
  (cd = 0 ∧ wb.data.toList = strm ((L.take k).map UU.pk) ∧ ∀ u ∈ L.take k, u.ok) ∨ (cd = 200 ∧ ¬ ∀ u ∈ L, u.ok)

theorem ba_append (a b : ByteArray) : (a ++ b).data.toList = a.data.toList ++ b.data.toList := by simp

set_option maxRecDepth 100000 in
set_option maxHeartbeats 6400000 in
theorem nalStreams_at (a : Option Addr) (cap : Nat) (L : List UU) (s : ByteArray) (w : World) (hm : ML w) (hu : UnitsAt w a L) (hb : bulk L ≤ 1048576) (hs : s.size ≤ 1048576) :
    Calls Try.prog 5 #[.slice a L.length cap, .string s] w fun e w' => e = .returned (.bool true) ∧ Below w.heap.size w w' := by
  obtain ⟨t, code, ht⟩ : ∃ (t : ByteArray) (code : Int), jnAns L = (t.data.toList, code) := ⟨⟨(jnAns L).1.toArray⟩, _, rfl⟩
  obtain ⟨l, sc, hsp⟩ : ∃ l sc, splAns s.data.toList = (l, sc) := ⟨_, _, rfl⟩
  obtain ⟨n, hn⟩ : ∃ n, l.length = n := ⟨_, rfl⟩
  have hnn : n ≤ 1048577 := by
    have := sp_count s.data.toList
    rw [hsp] at this
    simp at this
    omega
  have HT := Lib.hid ht
  have HSP := Lib.hid hsp
  have HN := Lib.hid hn
  have HU := Lib.hid hu
  have HM := Lib.hid hm
  have hl := bulk_ge L
  clear ht hsp hn hu hm
  go_enter Try.func5, Try.ntmps5
  go_wp2_with (at_builtin; (refine append_units rfl (.tmp 18) (.tmp 19) rfl a cap L rfl rfl HU.out ?_ ?_; omega; intro a1 cap1 w1 hU1 b1))
  have B1 := Lib.hid b1
  have U1 := Lib.hid (HU.out.below b1)
  have X1 := Lib.hid hU1
  clear b1 hU1
  go_wp2_with fail
  refine (join_at a1 cap1 L w1 X1.out (by omega) (by omega) HT.out).mono ?_
  rintro e w2 ⟨rfl, b2⟩
  have B2 := Lib.hid (B1.out.trans (b2.mono B1.out.size))
  have U2 := Lib.hid (U1.out.below b2)
  have X2 := Lib.hid (X1.out.below b2)
  clear b2
  go_wp2_with fail
  obtain ⟨wo, hwo⟩ : ∃ wo : World, wo = w2 := ⟨_, rfl⟩
  go_loopg [8, 9, 10] L.length (fun q wv cv iv wr => ∃ (wb : ByteArray) (cd : Int) (k : Nat), wv = .string wb ∧ cv = .int .i64 cd ∧ iv = .int .i64 (k : Int) ∧ k + q = L.length ∧ Aside (WantIs L k wb cd) ∧ Below wo.heap.size wo wr)
  case atStart => exact ⟨⟨#[]⟩, 0, 0, rfl, rfl, rfl, by omega, .inl ⟨rfl, by simp [strm], by simp⟩, by rw [hwo]; exact Below.refl _ _⟩
  case round =>
    obtain ⟨wb, cd, k, rfl, rfl, rfl, hq, A, bl⟩ := hrel
    by_cases hgo : k < L.length ∧ cd = 0
    · obtain ⟨hlt, rfl⟩ := hgo
      have hk1 : (k + 1) + (gk - 1) = L.length := by omega
      obtain ⟨b, off, rfl, hun⟩ : ∃ b off, a = some ⟨b, off, none⟩ ∧ IsUnits wr b off L := by
        rcases U2.out with h | ⟨b, off, h1, h2⟩
        · rw [h] at hlt; cases hlt
        · exact ⟨b, off, h1, h2.below (by rw [← hwo]; exact bl)⟩
      obtain ⟨hw1, hw2⟩ : wb.data.toList = strm ((L.take k).map UU.pk) ∧ ∀ u ∈ L.take k, u.ok := by
        rcases A with h | ⟨h, _⟩
        · exact h.2
        · cases h
      have hwbs : wb.size ≤ 2 * bulk L := by
        have h1 := strm_length (L.take k)
        have h2 := bulk_take L k
        have h3 := congrArg List.length hw1
        simp only [Array.length_toList] at h3
        have : wb.size = wb.data.size := rfl
        omega
      have hub := bulk_at L k hlt
      obtain ⟨c0, c1, c2⟩ := hun.2 k hlt
      obtain ⟨u, hu⟩ : ∃ u, L[k] = u := ⟨_, rfl⟩
      rw [hu] at c0 c1 c2 hub
      obtain ⟨ub, hub2⟩ : ∃ ub : ByteArray, u.rb = ub.data.toList := ⟨⟨u.rb.toArray⟩, rfl⟩
      rw [hub2, str_eta] at c2
      have hubs : ub.size ≤ 1048576 := by
        have := congrArg List.length hub2
        simp at this
        omega
      obtain ⟨pb, pc, hp⟩ : ∃ (pb : ByteArray) (pc : Int), pkAns u.ref u.ty ub.data.toList = (pb.data.toList, pc) := ⟨⟨(pkAns u.ref u.ty ub.data.toList).1.toArray⟩, _, rfl⟩
      have hpbs : pb.size ≤ 3000000 := by
        have h1 := congrArg (fun x => x.1.length) hp
        have h2 := pk_length u.ref u.ty ub.data.toList
        simp only [Array.length_toList] at h1 h2
        have h3 : pb.size = pb.data.size := rfl
        have h4 : ub.size = ub.data.size := rfl
        unfold pkAns at h1
        split at h1
        · simp only at h1
          omega
        · simp only [List.length_nil] at h1
          omega
      obtain ⟨wb1, hwb1⟩ : ∃ wb1, wb ++ ⟨#[0, 0, 1]⟩ = wb1 := ⟨_, rfl⟩
      obtain ⟨wb2, hwb2⟩ : ∃ wb2, wb1 ++ pb = wb2 := ⟨_, rfl⟩
      have hwb1s : wb1.size = wb.size + 3 := by
        rw [← hwb1, ByteArray.size_append]; rfl
      have hadd1 : ∀ w, (Op.stringOp .add wb ⟨#[0, 0, 1]⟩).run Try.prog w = .ok (.string wb1) w := fun w => by
        rw [run_string_add_sum w _ _ (by show wb.size + 3 ≤ _; omega), hwb1]
      have hadd2 : ∀ w, (Op.stringOp .add wb1 pb).run Try.prog w = .ok (.string wb2) w := fun w => by
        rw [run_string_add_sum w _ _ (by omega), hwb2]
      have hrel' : Hid (WantIs L (k + 1) wb2 pc) := by
        by_cases hok : u.ok
        · rw [pkAns_yes hok] at hp
          have h1 : pk u.ref u.ty ub.data.toList = pb.data.toList := congrArg (·.1) hp
          have h2 : (0 : Int) = pc := congrArg (·.2) hp
          refine .inl ⟨h2.symm, ?_, ?_⟩
          · rw [← hwb2, ← hwb1, ba_append, ba_append, hw1, List.take_succ_eq_append_getElem hlt, hu, List.map_append, List.map_singleton, strm_snoc, ← h1, UU.pk, hub2]
            rfl
          · rw [List.take_succ_eq_append_getElem hlt, hu]
            intro x hx
            rcases List.mem_append.1 hx with h | h
            · exact hw2 x h
            · rw [List.mem_singleton.1 h]; exact hok
        · rw [pkAns_no hok] at hp
          have h2 : (200 : Int) = pc := congrArg (·.2) hp
          exact .inr ⟨h2.symm, fun h => hok (h u (by rw [← hu]; exact List.getElem_mem hlt))⟩
      have HP := Lib.hid hp
      have BL := Lib.hid bl
      have HWO := Lib.hid hwo
      clear hp hu hun hw1 hw2 A hub hub2 hwb1 hwb2 hwb1s bl hwo
      go_wp2_with fail
      refine (packRef_at u.ref u.ty ub wr (by omega) HP.out).mono ?_
      rintro e w3 ⟨rfl, b3⟩
      have B3 := Lib.hid (BL.out.trans (b3.mono BL.out.size))
      clear b3 c0 c1 c2
      go_wp2_with fail
      go_roundg (gk - 1)
      case measure => omega
      case rel => exact ⟨wb2, pc, k + 1, rfl, rfl, by go_num, hk1, hrel'.out, B3.out⟩
    · have hx : (k = L.length ∧ cd = 0 ∧ wb = t ∧ (0 : Int) = code) ∨ (cd = 200 ∧ (k < L.length ∨ ¬ k < L.length) ∧ (⟨#[]⟩ : ByteArray) = t ∧ (200 : Int) = code) := by
        rcases A with ⟨h1, h2, h3⟩ | ⟨h1, h2⟩
        · have hk : k = L.length := by omega
          rw [hk, List.take_length] at h2 h3
          have hj := HT.out
          rw [jnAns, if_pos h3, ← h2] at hj
          refine .inl ⟨hk, h1, ?_, congrArg (·.2) hj⟩
          apply ByteArray.ext
          apply Array.toList_inj.1
          exact congrArg (·.1) hj
        · have hj := HT.out
          rw [jnAns, if_neg h2] at hj
          refine .inr ⟨h1, Nat.lt_or_ge k L.length |>.imp id (fun h => by omega), ?_, congrArg (·.2) hj⟩
          apply ByteArray.ext
          apply Array.toList_inj.1
          exact congrArg (·.1) hj
      rw [hwo] at bl
      have U3 := Lib.hid (U2.out.below bl)
      have X3 := Lib.hid (X2.out.below bl)
      have B3 := Lib.hid (B2.out.trans (bl.mono B2.out.size))
      have M3 := Lib.hid (HM.out.below B3.out)
      clear A hgo bl hwo
      rcases hx with ⟨rfl, rfl, rfl, rfl⟩ | ⟨rfl, hkl | hkl, rfl, rfl⟩
      all_goals
        go_wp2_with fail
        refine (split_t s _ M3.out (by omega) HSP.out HN.out).mono ?_
        rintro e w4 ⟨⟨a4, c4, rfl, T4⟩, b4⟩
        have B4 := Lib.hid (B3.out.trans (b4.mono B3.out.size))
        have U4 := Lib.hid (U3.out.below b4)
        have X4 := Lib.hid (X3.out.below b4)
        have HT4 := Lib.hid T4
        clear b4 T4
        go_wp2_with fail
        refine (splRef_t s w4 (by omega) HSP.out HN.out).mono ?_
        rintro e w5 ⟨⟨a5, c5, rfl, T5⟩, b5⟩
        have B5 := Lib.hid (B4.out.trans (b5.mono B4.out.size))
        have U5 := Lib.hid (U4.out.below b5)
        have X5 := Lib.hid (X4.out.below b5)
        have HT5 := Lib.hid T5
        have HT45 := Lib.hid (HT4.out.below b5)
        clear b5 T5
        go_wp2_with fail
        obtain ⟨wp, hwp⟩ : ∃ wp : World, wp = w5 := ⟨_, rfl⟩
        have HWP := Lib.hid hwp
        clear hwp
        go_loopg [17] L.length (fun q iv wx => ∃ j : Nat, j + q = L.length ∧ iv = .int .i64 ((j : Nat) : Int) ∧ Below wp.heap.size wp wx)
        case atStart => exact ⟨0, by omega, rfl, by rw [HWP.out]; exact Below.refl _ _⟩
        case round =>
          obtain ⟨j, hj, rfl, bx⟩ := hrel
          by_cases hlt : j < L.length
          · have hj1 : (j + 1) + (gk - 1) = L.length := by omega
            obtain ⟨b, off, rfl, hun⟩ : ∃ b off, a = some ⟨b, off, none⟩ ∧ IsUnits wr b off L := by
              rcases U5.out with h | ⟨b, off, h1, h2⟩
              · rw [h] at hlt; cases hlt
              · exact ⟨b, off, h1, h2.below (by rw [← HWP.out]; exact bx)⟩
            obtain ⟨bb, off2, rfl, hun2⟩ : ∃ b off, a1 = some ⟨b, off, none⟩ ∧ IsUnits wr b off L := by
              rcases X5.out with h | ⟨b, off, h1, h2⟩
              · rw [h] at hlt; cases hlt
              · exact ⟨b, off, h1, h2.below (by rw [← HWP.out]; exact bx)⟩
            obtain ⟨c0, c1, c2⟩ := hun.2 j hlt
            obtain ⟨d0, d1, d2⟩ := hun2.2 j hlt
            obtain ⟨u, hu⟩ : ∃ u, L[j] = u := ⟨_, rfl⟩
            rw [hu] at c0 c1 c2 d0 d1 d2
            obtain ⟨ub, hub2⟩ : ∃ ub : ByteArray, (⟨u.rb.toArray⟩ : ByteArray) = ub := ⟨_, rfl⟩
            rw [hub2] at c2 d2
            have BX := Lib.hid bx
            clear hu hub2 hun hun2 bx
            go_wp2_with fail
            go_quiet (fail)
            go_wp2_with fail
            go_roundg (gk - 1)
            case measure => omega
            case rel => exact ⟨j + 1, hj1, by go_num, below_drewN BX.out _⟩
          · obtain rfl : j = L.length := by omega
            rw [HWP.out] at bx
            have B6 := Lib.hid (B5.out.trans (bx.mono B5.out.size))
            have T6 := Lib.hid (HT45.out.below bx)
            have T7 := Lib.hid (HT5.out.below bx)
            clear bx
            go_wp2_with (go_at_call 15; refine (num_same _ _).mono ?_; rintro e w' ⟨rfl, rfl⟩)
            refine (sameTexts_any l n _ _ _ _ _ T6.out T7.out (by omega)).mono ?_
            rintro e w7 ⟨rfl, b7⟩
            have B7 := Lib.hid (B6.out.trans (b7.mono B6.out.size))
            have M7 := Lib.hid (HM.out.below B7.out)
            clear b7
            go_wp2_with (go_at_call 15; refine (num_same _ _).mono ?_; rintro e w' ⟨rfl, rfl⟩)
            refine (awake_any _ M7.out).mono ?_
            rintro e w8 ⟨rfl, b8⟩
            have B8 := Lib.hid (B7.out.trans (b8.mono B7.out.size))
            clear b8
            go_wp2_with fail
            go_ret
            exact ⟨rfl, B8.out⟩

theorem nalStreams_walk {H : Type} {enc : TypeId × Value → H} (a : Option Addr) (len cap : Nat) (s : ByteArray) (W : World) {d : DataW H} {p : List MemPlace} (hm : ML W)
    (h : DataW.Trod enc Try.prog W 0 (fun _ => true) true 40 (.slice a len cap) d p) (hu : Rows.uptoBulk d ≤ 1048576) (hs : s.size ≤ 1048576) :
    Calls Try.prog 5 #[.slice a len cap, .string s] W fun e w' => e = .returned (.bool true) ∧ Below W.heap.size W w' := by
  obtain ⟨L, rfl, hU, hb⟩ := units_open h
  exact nalStreams_at a cap L s W hm hU (by omega) hs

end Go.Proofs.Ytdlklcdafembhaa
