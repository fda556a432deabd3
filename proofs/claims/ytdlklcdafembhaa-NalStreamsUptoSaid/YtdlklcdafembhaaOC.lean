/- The document's own Split. -/
import Derived.Test.YtdlklcdafembhaaNT
import Derived.Test.YtdlklcdafembhaaNR
namespace Go.Proofs.Ytdlklcdafembhaa
open Go.RowKit Zn Zo

theorem prefix_take (l : List UInt8) : Zn.start.isPrefixOf l = decide (l.take 3 = [0, 0, 1]) := by
  rw [Bool.eq_iff_iff, decide_eq_true_iff, List.isPrefixOf_iff_prefix, List.prefix_iff_eq_take]
  exact eq_comm

theorem splAns_three (s : List UInt8) (h : s ≠ []) : splAns s = if s.take 3 = [0, 0, 1] then (sp (s.drop 3), 0) else ([], 201) := by
  cases s with
  | nil => exact absurd rfl h
  | cons c s =>
    rw [splAns, prefix_take]
    simp

theorem sp_at (l : List UInt8) (h : l.take 3 = [0, 0, 1]) : sp l = [] :: sp (l.drop 3) := by
  cases l with
  | nil => cases h
  | cons c s => rw [sp_start c s (by rw [prefix_take]; simpa using h), List.drop_succ_cons]

theorem sp_not (c : UInt8) (s : List UInt8) (h : (c :: s).take 3 ≠ [0, 0, 1]) : sp (c :: s) = pre [c] (sp s) :=
  sp_other c s (by rw [prefix_take]; simpa using h)

set_option maxRecDepth 100000 in
set_option maxHeartbeats 3200000 in
theorem splRef_any (s : ByteArray) (w : World) (hs : s.size ≤ 100000000) :
    Calls Try.prog 23 #[.string s] w (SplPost (splAns s.data.toList) w) := by
  by_cases h0 : s.size = 0
  · obtain rfl : s = ⟨#[]⟩ := by
      apply ByteArray.ext
      exact Array.eq_empty_of_size_eq_zero h0
    go_enter Try.func23, Try.ntmps23
    go_wp2_with fail
    go_ret2
    exact ⟨_, rfl, OwnT.nil _ _, Below.refl _ _⟩
  · have hcons := str_cons s (by omega)
    have hnil : s.data.toList ≠ [] := by rw [hcons]; simp
    have hne : s.toList.isEmpty = false := by
      rw [Lib.toList_data, hcons]; rfl
    have hA := splAns_three s.data.toList hnil
    obtain ⟨xb, hxb⟩ : ∃ xb : ByteArray, s.extract 0 3 = xb := ⟨_, rfl⟩
    have hxl : xb.data.toList = s.data.toList.take 3 := by rw [← hxb, extract_seg, seg]; simp
    have hl : s.data.toList.length = s.size := by simp
    by_cases h3 : 3 ≤ s.size
    · have hsl : ∀ w, (Instr.slice 9 (.string s) none (some (.int .i64 3)) none).run Try.prog w = .ok (.string xb) w := fun w => by
        rw [run_slice_string_to_if w 9 s .i64 3 Try.underlying9, if_pos (by omega), ← hxb]; rfl
      by_cases hp : s.data.toList.take 3 = [0, 0, 1]
      · have t1 : (!xb.toList == [0, 0, 1]) = false := by rw [Lib.toList_data, hxl, hp]; rfl
        have HA := Lib.hid (show splAns s.data.toList = (sp (s.data.toList.drop 3), 0) by rw [hA, if_pos hp])
        obtain ⟨B, hB0⟩ : ∃ B, w.heap.size = B := ⟨_, rfl⟩
        have HB := Lib.hid hB0
        clear hcons hnil hA hxl hxb hp hB0 hl
        go_enter Try.func23, Try.ntmps23
        go_wp2_with fail
        go_loopg [4, 5, 6] (s.size + 1) (fun q ov fv iv wr => ∃ v out f k, v = ov ∧ fv = .int .i64 ((f : Nat) : Int) ∧ iv = .int .i64 ((k : Nat) : Int) ∧ s.size + 1 ≤ k + q ∧ f ≤ k ∧ k ≤ s.size + 1 ∧ out.length ≤ k ∧ OwnT wr B v out ∧ Aside ((k ≤ s.size ∧ sp (s.data.toList.drop 3) = out ++ pre (seg s f k) (sp (s.data.toList.drop k))) ∨ (k = s.size + 1 ∧ out = sp (s.data.toList.drop 3))) ∧ Below B w wr ∧ B ≤ wr.heap.size)
        case atStart =>
          refine ⟨_, [], 3, 3, rfl, rfl, rfl, by omega, by omega, by omega, by simp, OwnT.nil _ _, .inl ⟨h3, ?_⟩, Below.refl _ _, by rw [HB.out]; exact Nat.le_refl _⟩
          rw [seg_self, pre_nil _ (sp_ne _)]; rfl
        case round =>
          obtain ⟨v, out, f, k, rfl, rfl, rfl, hq2, hfk, hk, hol, hown, A, bl, hBr⟩ := hrel
          by_cases hkl : k ≤ s.size
          · have hA1 : sp (s.data.toList.drop 3) = out ++ pre (seg s f k) (sp (s.data.toList.drop k)) := by
              rcases A with h | ⟨h, _⟩
              · exact h.2
              · omega
            have HA1 := Lib.hid hA1
            obtain ⟨pb, hpb⟩ : ∃ pb : ByteArray, s.extract f k = pb := ⟨_, rfl⟩
            have hpl := extract_seg s f k
            rw [hpb] at hpl
            have hss : ∀ w, (Instr.slice 9 (.string s) (some (.int .i64 (f : Int))) (some (.int .i64 (k : Int))) none).run Try.prog w = .ok (.string pb) w := fun w => by
              rw [slice_at s f k hfk hkl w, hpb]
            have hpz : pb = ⟨(seg s f k).toArray⟩ := by rw [← hpl, str_eta]
            have HPZ := Lib.hid hpz
            clear hA1 A hpl hpb hpz
            by_cases hke : k = s.size
            · have e1 : ((k : Int) == (s.size : Int)) = true := by simp [hke]
              have e2 : (k == s.size) = true := by simp [hke]
              have e3 : ¬ (k : Int) < (s.size : Int) := by omega
              have e4 : ¬ k < s.size := by omega
              have HKE := Lib.hid hke
              clear hke
              go_wp2_with (at_builtin; (refine append_text rfl (.tmp 42) (.tmp 47) rfl B v out pb (seg s f k) HPZ.out rfl hown rfl ?_ hBr ?_; omega; intro v2 w2 hown2 b2; have hB2 : B ≤ w2.heap.size := by have := b2.size; omega))
              go_roundg (gk - 1)
              case measure => omega
              case rel =>
                have hke := HKE.out
                refine ⟨v2, out ++ [seg s f k], k + 1, k + 1, rfl, by go_num, by go_num, by omega, by omega, by omega, by simp; omega, hown2, .inr ⟨by omega, ?_⟩, bl.trans b2, hB2⟩
                rw [HA1.out, hke, drop_all, sp_nil]
                simp [pre]
            · have hlt : k < s.size := by omega
              have hd := drop_cons s k hlt
              have e1 : ((k : Int) == (s.size : Int)) = false := by simp; omega
              have e2 : (k == s.size) = false := by simp; omega
              by_cases hp3 : (s.data.toList.drop k).take 3 = [0, 0, 1]
              · have hk3 : k + 3 ≤ s.size := by
                  have := congrArg List.length hp3
                  simp only [List.length_take, List.length_drop, List.length_cons, List.length_nil] at this
                  rw [show s.data.toList.length = s.size from by simp] at this
                  omega
                obtain ⟨qb, hqb⟩ : ∃ qb : ByteArray, s.extract k (k + 3) = qb := ⟨_, rfl⟩
                have hql := extract_seg s k (k + 3)
                rw [hqb, seg, show k + 3 - k = 3 from by omega, hp3] at hql
                have hs3 : ∀ w, (Instr.slice 9 (.string s) (some (.int .i64 (k : Int))) (some (.int .i64 ((k : Int) + 3))) none).run Try.prog w = .ok (.string qb) w := fun w => by
                  have := slice_at s k (k + 3) (by omega) hk3 w
                  rw [hqb] at this
                  exact this
                have t3 : (qb.toList == [0, 0, 1]) = true := by rw [Lib.toList_data, hql]; rfl
                have HP3 := Lib.hid hp3
                clear hd hp3 hqb hql hke
                go_wp2_with (at_builtin; (refine append_text rfl (.tmp 42) (.tmp 47) rfl B v out pb (seg s f k) HPZ.out rfl hown rfl ?_ hBr ?_; omega; intro v2 w2 hown2 b2; have hB2 : B ≤ w2.heap.size := by have := b2.size; omega))
                go_roundg (gk - 1)
                case measure => omega
                case rel =>
                  refine ⟨v2, out ++ [seg s f k], k + 3, k + 3, rfl, by go_num, by go_num, by omega, by omega, by omega, by simp; omega, hown2, .inl ⟨hk3, ?_⟩, bl.trans b2, hB2⟩
                  rw [HA1.out, sp_at _ HP3.out, seg_self, pre_nil _ (sp_ne _), List.drop_drop]
                  simp [pre]
              · have HS2 : Hid (sp (s.data.toList.drop (k + 1)) ≠ [] ∧ sp (s.data.toList.drop k) = pre [s[k]] (sp (s.data.toList.drop (k + 1)))) := by
                  refine ⟨sp_ne _, ?_⟩
                  rw [hd] at hp3 ⊢
                  exact sp_not _ _ hp3
                have HSN := Lib.hid (seg_snoc s f k hlt hfk)
                by_cases hk3 : k + 3 ≤ s.size
                · obtain ⟨qb, hqb⟩ : ∃ qb : ByteArray, s.extract k (k + 3) = qb := ⟨_, rfl⟩
                  have hql := extract_seg s k (k + 3)
                  rw [hqb, seg, show k + 3 - k = 3 from by omega] at hql
                  have hs3 : ∀ w, (Instr.slice 9 (.string s) (some (.int .i64 (k : Int))) (some (.int .i64 ((k : Int) + 3))) none).run Try.prog w = .ok (.string qb) w := fun w => by
                    have := slice_at s k (k + 3) (by omega) hk3 w
                    rw [hqb] at this
                    exact this
                  have t3 : (qb.toList == [0, 0, 1]) = false := by rw [Lib.toList_data, hql]; simpa using hp3
                  clear hd hp3 hqb hql hke
                  go_wp2_with fail
                  go_roundg (gk - 1)
                  case measure => omega
                  case rel =>
                    refine ⟨v, out, f, k + 1, rfl, rfl, by go_num, by omega, by omega, by omega, by omega, hown, .inl ⟨by omega, ?_⟩, bl, hBr⟩
                    rw [HA1.out, HS2.out.2, pre_pre, HSN.out]
                · clear hd hp3 hke
                  go_wp2_with fail
                  go_roundg (gk - 1)
                  case measure => omega
                  case rel =>
                    refine ⟨v, out, f, k + 1, rfl, rfl, by go_num, by omega, by omega, by omega, by omega, hown, .inl ⟨by omega, ?_⟩, bl, hBr⟩
                    rw [HA1.out, HS2.out.2, pre_pre, HSN.out]
          · have hout : out = sp (s.data.toList.drop 3) := by
              rcases A with h | ⟨_, h⟩
              · omega
              · exact h
            have HO := Lib.hid (show splAns s.data.toList = (out, 0) by rw [HA.out, hout])
            clear hout A
            go_wp2_with fail
            go_ret2
            exact ⟨v, by rw [HO.out]; rfl, by rw [HO.out, HB.out]; exact hown, by rw [HB.out]; exact bl⟩
      · have t1 : (!xb.toList == [0, 0, 1]) = true := by rw [Lib.toList_data, hxl]; simpa using hp
        have HA := Lib.hid (show splAns s.data.toList = ([], 201) by rw [hA, if_neg hp])
        clear hcons hnil hA hxl hxb hp hl
        go_enter Try.func23, Try.ntmps23
        go_wp2_with fail
        go_ret2
        exact ⟨.slice none 0 0, by rw [HA.out]; rfl, by rw [HA.out]; exact OwnT.nil _ _, Below.refl _ _⟩
    · have HA := Lib.hid (show splAns s.data.toList = ([], 201) by
        rw [hA, if_neg]
        intro h
        have := congrArg List.length h
        simp only [List.length_take, List.length_cons, List.length_nil, hl] at this
        omega)
      have h3i : (s.size : Int) < 3 := by omega
      clear hcons hnil hA hxl hxb hl
      go_enter Try.func23, Try.ntmps23
      go_wp2_with fail
      go_ret2
      exact ⟨.slice none 0 0, by rw [HA.out]; rfl, by rw [HA.out]; exact OwnT.nil _ _, Below.refl _ _⟩

end Go.Proofs.Ytdlklcdafembhaa
