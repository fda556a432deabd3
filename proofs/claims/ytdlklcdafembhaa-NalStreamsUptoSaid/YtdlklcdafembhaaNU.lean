/- The walk of the law NalTypes. -/
import Derived.Test.YtdlklcdafembhaaNR
import Derived.Deep.RegionHeld3
import Derived.Deep.CondSized
import Derived.IntWalk
namespace Go.Proofs.Ytdlklcdafembhaa
open Go.RowKit Zn Zo

theorem pack_at (ref ty : Int) (rb : ByteArray) (w : World) (hs : rb.size ≤ 90000000) {t : ByteArray} {code : Int} (h : pkAns ref ty rb.data.toList = (t.data.toList, code)) :
    Calls Try.prog 17 #[.agg #[.int .i64 ref, .int .i64 ty, .string rb]] w fun e w' => e = .returned (.tuple #[.string t, .int .i64 code]) ∧ Below w.heap.size w w' := by
  refine (pack_any ref ty rb w hs).mono ?_
  rintro e w' ⟨rfl, b⟩
  exact ⟨by rw [h], b⟩

theorem conv_byte (c : UInt8) (z : Int) (hz : z = (c.toNat : Int)) (w : World) :
    (convert 51 9 (.slice (some ⟨w.heap.size, 0, none⟩) 1 1)).run Try.prog (w.alloc (.cells #[.int .u8 z] 5)) = .ok (.string ⟨#[c]⟩) (w.alloc (.cells #[.int .u8 z] 5)) := by
  have h : OwnB (w.alloc (.cells #[.int .u8 z] 5)) 0 (.slice (some ⟨w.heap.size, 0, none⟩) 1 1) [c] := by
    rw [hz]
    exact ⟨rfl, .inr ⟨w.heap.size, 1, _, rfl, by omega, heap_alloc_last w _, by simp, by unfold maxLen; omega, rfl, rfl⟩⟩
  exact conv_own _ 0 _ _ h

set_option maxRecDepth 100000 in
set_option maxHeartbeats 3200000 in
theorem nalTypes_walk (ref t : Int) (s : ByteArray) (w : World) (hm : ML w) (_ : (Lit.int .i64 ref).wf = true) (_ : (Lit.int .i64 t).wf = true) (hs : s.size ≤ 1048576) :
    Calls Try.prog 7 #[.int .i64 ref, .int .i64 t, .string s] w fun e w' => e = .returned (.bool true) ∧ Below w.heap.size w w' := by
  obtain ⟨a, ha⟩ : ∃ a, ref % 4 = a := ⟨_, rfl⟩
  obtain ⟨c, hc⟩ : ∃ c, t % 2 = c := ⟨_, rfl⟩
  obtain ⟨r, hr⟩ : ∃ r, (IntKind.u64.wrap t).tmod 31 = r := ⟨_, rfl⟩
  have a0 : 0 ≤ a ∧ a ≤ 3 := by omega
  have c0 : c = 0 ∨ c = 1 := by omega
  have r0 : 0 ≤ r ∧ r ≤ 30 := by
    have h := IntKind.wrap_u64 t
    have h2 : 0 ≤ IntKind.u64.wrap t := by rw [h]; omega
    rw [Int.tmod_eq_emod_of_nonneg h2] at hr
    omega
  have hand : bits .and .i64 ref 3 = a := by rw [← ha]; exact and_mask_i64 ref 2 (by omega)
  have hand1 : bits .and .i64 t 1 = c := by rw [← hc]; exact and_mask_i64 t 1 (by omega)
  obtain ⟨a1, a2⟩ := a0
  obtain ⟨r1, r2⟩ := r0
  have hok : okU a (1 + r) := ⟨a1, a2, by omega, by omega⟩
  obtain ⟨xb, hxb⟩ : ∃ xb : ByteArray, pk a (1 + r) s.data.toList = xb.data.toList := ⟨⟨(pk a (1 + r) s.data.toList).toArray⟩, rfl⟩
  obtain ⟨eb, heb⟩ : ∃ eb : ByteArray, esc 0 s.data.toList = eb.data.toList := ⟨⟨(esc 0 s.data.toList).toArray⟩, rfl⟩
  have P1 := Lib.hid (show pkAns a (1 + r) s.data.toList = (xb.data.toList, 0) by rw [pkAns_yes hok, hxb])
  have P2 := Lib.hid (show pkAns (4 + a) (1 + r) (⟨#[]⟩ : ByteArray).data.toList = ((⟨#[]⟩ : ByteArray).data.toList, 200) from pkAns_no (by unfold okU; omega))
  have P3 := Lib.hid (show pkAns a (32 * c) (⟨#[]⟩ : ByteArray).data.toList = ((⟨#[]⟩ : ByteArray).data.toList, 200) from pkAns_no (by unfold okU; omega))
  have U2 : Hid (upAns (⟨#[(128 + a).toNat.toUInt8]⟩ : ByteArray).data.toList = (.zero, 200)) := by
    show upAns [(128 + a).toNat.toUInt8] = _
    have h : ((128 + a).toNat.toUInt8).toNat = (128 + a).toNat := by simp; omega
    rw [upAns, if_pos (by omega)]
  have hcv := conv_byte (128 + a).toNat.toUInt8 (128 + a) (by simp; omega)
  have hE := Lib.hid heb
  have hxs : xb.size = 1 + eb.size := by
    have := congrArg List.length hxb
    rw [pk, heb] at this
    simp at this
    omega
  have hes : s.size ≤ eb.size := by
    have := esc_length_ge s.data.toList 0
    rw [heb] at this
    simpa using this
  have hes2 : eb.size ≤ 2000000 := by
    have := esc_length_le s.data.toList 0 (by omega)
    rw [heb] at this
    simp at this
    omega
  have hx0 : 0 < xb.size := by omega
  have hxc := str_cons xb hx0
  rw [← hxb, pk, heb] at hxc
  have hx1 : (xb[0].toNat : Int) = 32 * a + (1 + r) := by
    have := (List.cons.inj hxc).1
    rw [← this]; simp; omega
  have hxt : xb.extract 1 xb.size = eb := by
    apply ByteArray.ext
    apply Array.toList_inj.1
    rw [extract_tail, ← hxb, pk, heb]; rfl
  have hsl : ∀ w, (Instr.slice 9 (.string xb) (some (.int .i64 1)) none none).run Try.prog w = .ok (.string eb) w := fun w => by
    have := slice_from xb 1 (by omega) w
    rw [hxt] at this
    exact this
  have HM := Lib.hid hm
  have hgt : s.size < xb.size := by omega
  have hgd : decide (s.size < xb.size) = true := by simpa using hgt
  have hgi : decide ((s.size : Int) < (xb.size : Int)) = true := by simpa using hgt
  clear hm hok hxb heb hxc hxt ha hc hxs
  go_enter Try.func7, Try.ntmps7
  go_wp2_with fail
  refine (awake_any _ HM.out).mono ?_
  rintro e w1 ⟨rfl, b1⟩
  have B1 := Lib.hid b1
  clear b1
  go_wp2_with fail
  refine (pack_at a (1 + r) s w1 (by omega) P1.out).mono ?_
  rintro e w2 ⟨rfl, b2⟩
  have B2 := Lib.hid (B1.out.trans (b2.mono B1.out.size))
  clear b2
  go_wp2_with fail
  refine (pack_at (4 + a) (1 + r) ⟨#[]⟩ w2 (by decide) (t := ⟨#[]⟩) (code := 200) P2.out).mono ?_
  rintro e w3 ⟨rfl, b3⟩
  have B3 := Lib.hid (B2.out.trans (b3.mono B2.out.size))
  clear b3
  go_wp2_with fail
  refine (pack_at a (32 * c) ⟨#[]⟩ w3 (by decide) (t := ⟨#[]⟩) (code := 200) P3.out).mono ?_
  rintro e w4 ⟨rfl, b4⟩
  have B4 := Lib.hid (B3.out.trans (b4.mono B3.out.size))
  clear b4
  go_wp2_with fail
  refine (unpack_any ⟨#[]⟩ w4 (by decide)).mono ?_
  rw [show upAns (⟨#[]⟩ : ByteArray).data.toList = (.zero, 202) from rfl]
  rintro e w5 ⟨rfl, b5⟩
  have B5 := Lib.hid (B4.out.trans (b5.mono B4.out.size))
  clear b5
  unfold UU.v UU.zero
  have hcv5 := hcv (w5.alloc (.cells #[.int .i64 0, .int .i64 0, .string ⟨#[]⟩] 32))
  rw [show (w5.alloc (.cells #[.int .i64 0, .int .i64 0, .string ⟨#[]⟩] 32)).heap.size = w5.heap.size + 1 from by simp] at hcv5
  go_wp2_with fail
  refine (unpack_any ⟨#[(128 + a).toNat.toUInt8]⟩ _ (by show 1 ≤ _; decide)).mono ?_
  rw [U2.out]
  rintro e w6 ⟨rfl, b6⟩
  have B6 := Lib.hid (((B5.out.alloc B5.out.size _).alloc (by have := B5.out.size; simp; omega) _).trans (b6.mono (by have := B5.out.size; simp; omega)))
  clear b6 hcv5 hcv
  unfold UU.v UU.zero
  go_wp2_with fail
  have hs100 : s.size ≤ 100000000 := by omega
  have hW1 : IntKind.i64.wrap (32 * a) = 32 * a := IntWalk.i64_in _ (by omega)
  have hW2 : IntKind.i64.wrap (32 * a + (1 + r)) = 32 * a + (1 + r) := IntWalk.i64_in _ (by omega)
  go_region_held3 (fun _ => True) (trivial) ((first | (go_at_call 15; refine (num_any _ _).mono ?_; rintro e w' ⟨rfl, rfl⟩) | (go_at_call 13; refine (escape_str s _ hs100 hE.out).mono ?_; rintro e w7 ⟨rfl, b7⟩)))
  have z7 : w.heap.size ≤ (w6.alloc (.cells #[.int .i64 0, .int .i64 0, .string ⟨#[]⟩] 32)).drew.heap.size := by
    have := B6.out.size
    show _ ≤ (w6.alloc (.cells #[.int .i64 0, .int .i64 0, .string ⟨#[]⟩] 32)).heap.size
    simp
    omega
  have B7 := Lib.hid (((B6.out.alloc B6.out.size (.cells #[.int .i64 0, .int .i64 0, .string ⟨#[]⟩] 32)).drew).trans (b7.mono z7))
  clear b7 hW1 hW2 z7
  go_wp2_with fail
  go_ret
  exact ⟨rfl, B7.out⟩

end Go.Proofs.Ytdlklcdafembhaa
