/- Layer 3: parameters that are cut short, or have more behind them, are none; the walk of the law ParamsTails. -/
import Derived.Test.YtadfgadkihlmcaaQW
import Derived.Test.YtadfgadkihlmcaaRX
import Derived.Laws.Unary
import Derived.Laws.Concat
import Derived.Laws.BytesString
import Derived.Laws.BytesArg
import Derived.Laws.Strings3
import Derived.Lib.IndexBytes
namespace Go.Proofs.Ytadfgadkihlmcaa
open Go.RowKit Zo Zp
set_option linter.unusedVariables false

theorem sps_end {fa fb : Nat → Bool} {Ta Tb : Nat} {sa sb : SpsN} (ha : gotSps fa Ta = (sa, 0)) (hb : gotSps fb Tb = (sb, 0)) (hag : ∀ i, i < Ta → fa i = fb i) (hle : Ta ≤ Tb) : Ta = Tb := by
  obtain ⟨ma, wa⟩ := gotSps_forth ha
  obtain ⟨mb, wb⟩ := gotSps_forth hb
  obtain ⟨⟨_, ia, la⟩, ta⟩ := of_all_bits wa
  obtain ⟨ib, tb⟩ := of_all_bits wb
  have h1 : pSps fb Tb = some (some (sa, (spsB sa).length)) := by
    refine pSps_back ma ⟨by omega, ?_, by omega⟩
    rw [← ia]
    unfold win
    simp only [List.length_map, List.length_range]
    refine List.map_congr_left fun j hj => ?_
    have := List.mem_range.1 hj
    exact (hag (0 + j) (by omega)).symm
  have h2 := pSps_back mb ib
  rw [h1] at h2
  have e : (spsB sa).length = (spsB sb).length := congrArg (fun x => x.2) (Option.some.inj (Option.some.inj h2))
  have e1 := trails_size ta
  have e2 := trails_size tb
  rw [e1, e2, e]

theorem pps_end {fa fb : Nat → Bool} {Ta Tb : Nat} {sa sb : PpsN} (ha : gotPps fa Ta = (sa, 0)) (hb : gotPps fb Tb = (sb, 0)) (hag : ∀ i, i < Ta → fa i = fb i) (hle : Ta ≤ Tb) : Ta = Tb := by
  obtain ⟨ma, wa⟩ := gotPps_forth ha
  obtain ⟨mb, wb⟩ := gotPps_forth hb
  obtain ⟨⟨_, ia, la⟩, ta⟩ := of_all_bits wa
  obtain ⟨ib, tb⟩ := of_all_bits wb
  have h1 : pPps fb Tb = some (sa, (ppsB sa).length) := by
    refine pPps_back ma ⟨by omega, ?_, by omega⟩
    rw [← ia]
    unfold win
    simp only [List.length_map, List.length_range]
    refine List.map_congr_left fun j hj => ?_
    have := List.mem_range.1 hj
    exact (hag (0 + j) (by omega)).symm
  have h2 := pPps_back mb ib
  rw [h1] at h2
  have e : (ppsB sa).length = (ppsB sb).length := congrArg (fun x => x.2) (Option.some.inj h2)
  have e1 := trails_size ta
  have e2 := trails_size tb
  rw [e1, e2, e]

theorem bits_agree {a b : ByteArray} {n : Nat} (h : ∀ j, j < n → (nums a).getD j 0 = (nums b).getD j 0) (i : Nat) (hi : i < 8 * n) : bitAt a i = bitAt b i := by
  unfold bitAt
  rw [← nums_getD, ← nums_getD, h (i / 8) (by omega)]

theorem nums_cut (t : ByteArray) (k : Nat) : nums (t.extract 0 k) = (nums t).take k := by
  unfold nums
  rw [Lib.extract_data]
  simp [List.map_take]

theorem nums_more (t u : ByteArray) : nums (t ++ u) = nums t ++ nums u := by
  unfold nums
  rw [← List.map_append]
  congr 1

theorem size_cut (t : ByteArray) (k : Nat) (h : k ≤ t.size) : (t.extract 0 k).size = k := by
  have := congrArg List.length (nums_cut t k)
  rw [nums_length, List.length_take, nums_length] at this
  omega

theorem size_more (t u : ByteArray) : (t ++ u).size = t.size + u.size := by
  have := congrArg List.length (nums_more t u)
  rw [nums_length, List.length_append, nums_length, nums_length] at this
  exact this

theorem cut_agree (t : ByteArray) (k : Nat) (h : k ≤ t.size) (i : Nat) (hi : i < 8 * k) : bitAt (t.extract 0 k) i = bitAt t i := by
  refine bits_agree (n := k) (fun j hj => ?_) i hi
  rw [nums_cut]
  simp only [List.getD_eq_getElem?_getD, List.getElem?_take]
  rw [if_pos hj]

theorem more_agree (t u : ByteArray) (i : Nat) (hi : i < 8 * t.size) : bitAt t i = bitAt (t ++ u) i := by
  refine bits_agree (n := t.size) (fun j hj => ?_) i hi
  rw [nums_more]
  simp only [List.getD_eq_getElem?_getD]
  rw [List.getElem?_append_left (by rw [nums_length]; exact hj)]

theorem sps_cut {t : ByteArray} {p : SpsN} (h : gotSps (bitAt t) (8 * t.size) = (p, 0)) {k : Nat} (hk : k < t.size) : (gotSps (bitAt (t.extract 0 k)) (8 * (t.extract 0 k).size)).2 ≠ 0 := by
  intro e
  rw [size_cut t k (by omega)] at e
  have := sps_end (sa := (gotSps (bitAt (t.extract 0 k)) (8 * k)).1) (Prod.ext rfl e) h (fun i hi => cut_agree t k (by omega) i hi) (by omega)
  omega

theorem pps_cut {t : ByteArray} {p : PpsN} (h : gotPps (bitAt t) (8 * t.size) = (p, 0)) {k : Nat} (hk : k < t.size) : (gotPps (bitAt (t.extract 0 k)) (8 * (t.extract 0 k).size)).2 ≠ 0 := by
  intro e
  rw [size_cut t k (by omega)] at e
  have := pps_end (sa := (gotPps (bitAt (t.extract 0 k)) (8 * k)).1) (Prod.ext rfl e) h (fun i hi => cut_agree t k (by omega) i hi) (by omega)
  omega

theorem sps_more {t u : ByteArray} {p : SpsN} (h : gotSps (bitAt t) (8 * t.size) = (p, 0)) (hu : 0 < u.size) : (gotSps (bitAt (t ++ u)) (8 * (t ++ u).size)).2 ≠ 0 := by
  intro e
  have hs := size_more t u
  have := sps_end (sb := (gotSps (bitAt (t ++ u)) (8 * (t ++ u).size)).1) h (Prod.ext rfl e) (fun i hi => more_agree t u i hi) (by omega)
  omega

theorem pps_more {t u : ByteArray} {p : PpsN} (h : gotPps (bitAt t) (8 * t.size) = (p, 0)) (hu : 0 < u.size) : (gotPps (bitAt (t ++ u)) (8 * (t ++ u).size)).2 ≠ 0 := by
  intro e
  have hs := size_more t u
  have := pps_end (sb := (gotPps (bitAt (t ++ u)) (8 * (t ++ u).size)).1) h (Prod.ext rfl e) (fun i hi => more_agree t u i hi) (by omega)
  omega

theorem sps_some {t : ByteArray} {p : SpsN} (h : gotSps (bitAt t) (8 * t.size) = (p, 0)) : 0 < t.size := by
  have := trails_size (of_all_bits (gotSps_forth h).2).2
  omega

theorem pps_some {t : ByteArray} {p : PpsN} (h : gotPps (bitAt t) (8 * t.size) = (p, 0)) : 0 < t.size := by
  have := trails_size (of_all_bits (gotPps_forth h).2).2
  omega

/-- A number within a length. -/
theorem cut_at (a : Int) (n : Nat) (hn : 0 < n) (h : n ≤ 1000) : ∃ k : Nat, (IntKind.u64.wrap a).tmod (n : Int) = (k : Int) ∧ k < n ∧ IntKind.i64.wrap (k : Int) = k ∧ IntKind.u64.wrap (n : Int) = n := by
  have h0 : 0 ≤ IntKind.u64.wrap a := by rw [IntKind.wrap_u64]; omega
  have h1 := Int.tmod_lt_of_pos (IntKind.u64.wrap a) (show (0 : Int) < n by omega)
  have h2 : 0 ≤ (IntKind.u64.wrap a).tmod (n : Int) := Int.tmod_nonneg _ h0
  refine ⟨((IntKind.u64.wrap a).tmod (n : Int)).toNat, by omega, by omega, ?_, ?_⟩
  · rw [IntKind.wrap_i64]; omega
  · rw [IntKind.wrap_u64]; omega


/-- One byte as a string. -/
theorem byte_string (w0 : World) (x : Int) : ∃ u : ByteArray, u.size = 1 ∧ ∀ w0 : World, (convert 56 9 (.slice (some ⟨w0.heap.size, 0, none⟩) 1 1)).run Try.prog (w0.alloc (.cells #[.int .u8 x] 5)) = .ok (.string u) (w0.alloc (.cells #[.int .u8 x] 5)) := by
  refine ⟨strOfNums [x], by simp [strOfNums, ByteArray.size], fun w0 => ?_⟩
  exact run_convert_bytes_arg _ 56 5 Try.underlying56 Try.underlying5 w0.heap.size 0 1 1 [x] rfl (fun i hi => by
    obtain rfl : i = 0 := by omega
    rw [cell_of_row _ _ _ _ _ _ (heap_alloc_last w0 _)]
    rfl) 9 Try.underlying9

set_option maxRecDepth 100000 in
set_option maxHeartbeats 8000000 in
theorem paramsTails_at (p : SpsN) (sa : Option Addr) (scap : Nat) (r : PpsN) (a2 a3 : Int) (w : World) (hi : IntRow w sa p.cycle) (hl : p.cycle.length ≤ 1048576) :
    Calls Try.prog 9 #[spsV p sa scap, ppsV r, .int .i64 a2, .int .i64 a3] w fun e w' => e = .returned (.bool true) ∧ Below w.heap.size w w' := by
  have HA := Lib.hid (awake3 maySpsOk mayPpsOk getSpsOk)
  have hput := fun a cap w1 h => putSps_any maySpsOk w1 p a cap h (by omega)
  have hputp := fun w1 => putPps_any mayPpsOk w1 r
  have htold := spsTold p
  have htoldp := ppsTold r
  unfold StrPut at hput hputp
  obtain ⟨u, hu⟩ : ∃ u, bstr (putSpsAns p).1 = u := ⟨_, rfl⟩
  obtain ⟨c, hc⟩ : ∃ c, (putSpsAns p).2 = c := ⟨_, rfl⟩
  obtain ⟨v, hv⟩ : ∃ v, bstr (putPpsAns r).1 = v := ⟨_, rfl⟩
  obtain ⟨d, hd⟩ : ∃ d, (putPpsAns r).2 = d := ⟨_, rfl⟩
  simp only [hu, hc] at hput htold
  simp only [hv, hd] at hputp htoldp
  obtain ⟨mb, hmb, hconv⟩ := byte_string w (a3 % 256)
  have hm5 : mb.size ≤ 1 := by omega
  obtain ⟨wide, high, fbits, ptype, pbits, nonref, cycle, refs, delay⟩ := p
  obtain ⟨cabac, weighted, bipred, qp, chroma, constrained, deblock, act0, act1⟩ := r
  unfold spsV at hput ⊢
  unfold ppsV at hputp ⊢
  simp only at hput hputp hi hl ⊢
  have HPUT := Lib.hid hput
  have HPUTP := Lib.hid hputp
  have HT := Lib.hid htold
  have HTP := Lib.hid htoldp
  have HI := Lib.hid hi
  have HMB := Lib.hid hmb
  obtain ⟨x0_, y0_, f0⟩ := two_boxes w #[.int .i64 wide, .int .i64 high, .int .i64 fbits, .int .i64 ptype, .int .i64 pbits, .int .i64 nonref, .slice sa cycle.length scap, .int .i64 refs, .int .i64 delay] #[.bool cabac, .bool weighted, .int .i64 bipred, .int .i64 qp, .int .i64 chroma, .bool constrained, .bool deblock, .int .i64 act0, .int .i64 act1] 24 43
  have X1 := Lib.hid x0_
  have Y1 := Lib.hid y0_
  have D1 := Lib.hid (((Below.refl w.heap.size w).alloc (Nat.le_refl _) (.cells #[.int .i64 wide, .int .i64 high, .int .i64 fbits, .int .i64 ptype, .int .i64 pbits, .int .i64 nonref, .slice sa cycle.length scap, .int .i64 refs, .int .i64 delay] 24)).alloc (by simp) (.cells #[.bool cabac, .bool weighted, .int .i64 bipred, .int .i64 qp, .int .i64 chroma, .bool constrained, .bool deblock, .int .i64 act0, .int .i64 act1] 43))
  clear hput hputp htold htoldp hu hc hv hd hi hmb x0_ y0_ f0
  go_enter Try.func9, Try.ntmps9
  go_wp2_with fail
  refine (HA.out _).mono ?_
  rintro e w2 ⟨rfl, b2⟩
  have X2 := Lib.hid ((b2.block _ (row_lt X1.out)).trans X1.out)
  have Y2 := Lib.hid ((b2.block _ (row_lt Y1.out)).trans Y1.out)
  have D2 := Lib.hid (D1.out.trans (b2.mono D1.out.size))
  clear b2 X1 Y1 D1
  obtain ⟨x0, x1, x2, x3, x4, x5, x6, x7, x8⟩ := nine_cells X2.out
  go_wp2_with fail
  refine (HPUT.out _ _ _ (by exact HI.out.below D2.out (Nat.le_refl _))).mono ?_
  rintro e w3 ⟨rfl, b3⟩
  have Y3 := Lib.hid ((b3.block _ (row_lt Y2.out)).trans Y2.out)
  have D3 := Lib.hid (D2.out.trans (b3.mono D2.out.size))
  clear b3 X2 Y2 D2
  clear x0 x1 x2 x3 x4 x5 x6 x7 x8
  go_upto_if 30 with (go_at_call 17; refine (num_is _ _).mono ?_; rintro e w' ⟨rfl, rfl⟩)
  go_cut [8] (fun rr wx => rr = .bool false ∧ Hid (wx.heap[w.heap.size + 1]? = some (.cells #[.bool cabac, .bool weighted, .int .i64 bipred, .int .i64 qp, .int .i64 chroma, .bool constrained, .bool deblock, .int .i64 act0, .int .i64 act1] 43 (0, 0))) ∧ Hid (Below w.heap.size w wx))
  case first =>
    by_cases hm : SpsN.may ⟨wide, high, fbits, ptype, pbits, nonref, cycle, refs, delay⟩
    · obtain ⟨rfl, z1, g1⟩ := HT.out.1 hm
      have hpos := sps_some g1
      have q1 : max (u.size : Int) 1 = (u.size : Int) := by omega
      have q2 : ((u.size : Int) == 0) = false := by rw [beq_eq_false_iff_ne]; omega
      have q2' : ¬ ((u.size : Int) = 0) := by omega
      obtain ⟨k, hk, hkn, hk2, hn2⟩ := cut_at a2 u.size hpos (by omega)
      have cutne := sps_cut g1 hkn
      have morene := sps_more (u := mb) g1 (by have := HMB.out; omega)
      have hg1 := fun w1 => getSpsOk (u.extract 0 k) w1 (by rw [size_cut u k (by omega)]; omega)
      have hg2 := fun w1 => getSpsOk (u ++ mb) w1 (by rw [size_more]; omega)
      generalize gotSps (bitAt (u.extract 0 k)) (8 * (u.extract 0 k).size) = got1 at cutne hg1
      generalize gotSps (bitAt (u ++ mb)) (8 * (u ++ mb).size) = got2 at morene hg2
      obtain ⟨⟨gw, gh, gf, gp, gb, gn, gc, gr, gd⟩, gcode⟩ := got1
      obtain ⟨⟨ew, eh, ef, ep, eb, en, ec, er, ed⟩, ecode⟩ := got2
      unfold GPost spsV at hg1 hg2
      simp only at hg1 hg2 cutne morene
      have n1 : (gcode == 0) = false := by simpa using cutne
      have n2 : (ecode == 0) = false := by simpa using morene
      have q3 : (0 : Int) ≤ (k : Int) ∧ (k : Int) ≤ (u.size : Int) := by omega
      have q4 : (Instr.slice 9 (.string u) none (some (.int .i64 (k : Int))) none).run Try.prog = fun w => .ok (.string (u.extract 0 k)) w := by
        funext w
        rw [run_slice_string_to_if w 9 u .i64 (k : Int) Try.underlying9, if_pos q3]
        rfl
      have q5 : ∀ w : World, (Op.stringOp .add u mb).run Try.prog w = .ok (.string (u ++ mb)) w := fun w => run_string_add_sum w u mb (by omega)
      have HG1 := Lib.hid hg1
      have HG2 := Lib.hid hg2
      clear hg1 hg2 cutne morene g1 hm z1 HT
      go_wp2_with fail
      refine (HG1.out _).mono ?_
      rintro e w4 ⟨xa, xcap, rfl, _, _, _, b4⟩
      have Y4 := Lib.hid ((heap_alloc_other (o := .cells #[.int .i64 gw, .int .i64 gh, .int .i64 gf, .int .i64 gp, .int .i64 gb, .int .i64 gn, .slice xa gc.length xcap, .int .i64 gr, .int .i64 gd] 24) (row_lt ((b4.block _ (row_lt Y3.out)).trans Y3.out))).trans ((b4.block _ (row_lt Y3.out)).trans Y3.out))
      have D4 := Lib.hid ((D3.out.trans (b4.mono D3.out.size)).alloc (D3.out.trans (b4.mono D3.out.size)).size (.cells #[.int .i64 gw, .int .i64 gh, .int .i64 gf, .int .i64 gp, .int .i64 gb, .int .i64 gn, .slice xa gc.length xcap, .int .i64 gr, .int .i64 gd] 24))
      have hc5 := hconv (w4.alloc (.cells #[.int .i64 gw, .int .i64 gh, .int .i64 gf, .int .i64 gp, .int .i64 gb, .int .i64 gn, .slice xa gc.length xcap, .int .i64 gr, .int .i64 gd] 24))
      rw [show (w4.alloc (.cells #[.int .i64 gw, .int .i64 gh, .int .i64 gf, .int .i64 gp, .int .i64 gb, .int .i64 gn, .slice xa gc.length xcap, .int .i64 gr, .int .i64 gd] 24)).heap.size = w4.heap.size + 1 from by simp] at hc5
      have Y5 := Lib.hid ((heap_alloc_other (o := .cells #[.int .u8 (a3 % 256)] 5) (row_lt Y4.out)).trans Y4.out)
      have D5 := Lib.hid (D4.out.alloc D4.out.size (.cells #[.int .u8 (a3 % 256)] 5))
      clear b4 Y3 D3 Y4 D4 hconv
      go_wp2_with fail
      refine (HG2.out _).mono ?_
      rintro e w6 ⟨ya, ycap, rfl, _, _, _, b6⟩
      have Y6 := Lib.hid ((heap_alloc_other (o := .cells #[.int .i64 ew, .int .i64 eh, .int .i64 ef, .int .i64 ep, .int .i64 eb, .int .i64 en, .slice ya ec.length ycap, .int .i64 er, .int .i64 ed] 24) (row_lt ((b6.block _ (row_lt Y5.out)).trans Y5.out))).trans ((b6.block _ (row_lt Y5.out)).trans Y5.out))
      have D6 := Lib.hid ((D5.out.trans (b6.mono D5.out.size)).alloc (D5.out.trans (b6.mono D5.out.size)).size (.cells #[.int .i64 ew, .int .i64 eh, .int .i64 ef, .int .i64 ep, .int .i64 eb, .int .i64 en, .slice ya ec.length ycap, .int .i64 er, .int .i64 ed] 24))
      clear b6 Y5 D5 hc5
      go_wp2_with (go_at_call 17; refine (num_is _ _).mono ?_; rintro e w' ⟨rfl, rfl⟩)
      go_meet
      exact ⟨rfl, Y6, D6⟩
    · obtain ⟨rfl, _⟩ := HT.out.2 hm
      clear hm
      go_wp2_with fail
      go_meet
      exact ⟨rfl, Y3, D3⟩
  case rest =>
    obtain ⟨rfl, YA, DA⟩ := hcut
    clear Y3 D3
    obtain ⟨y0, y1, y2, y3, y4, y5, y6, y7, y8⟩ := nine_cells YA.out
    go_wp2_with fail
    refine (HPUTP.out _).mono ?_
    rintro e w3 ⟨rfl, b3⟩
    have D3 := Lib.hid (DA.out.trans (b3.mono DA.out.size))
    clear b3 y0 y1 y2 y3 y4 y5 y6 y7 y8
    by_cases hm : PpsN.may ⟨cabac, weighted, bipred, qp, chroma, constrained, deblock, act0, act1⟩
    · obtain ⟨rfl, z1, g1⟩ := HTP.out.1 hm
      have hpos := pps_some g1
      have q1 : max (v.size : Int) 1 = (v.size : Int) := by omega
      have q2 : ((v.size : Int) == 0) = false := by rw [beq_eq_false_iff_ne]; omega
      have q2' : ¬ ((v.size : Int) = 0) := by omega
      obtain ⟨k, hk, hkn, hk2, hn2⟩ := cut_at a2 v.size hpos (by omega)
      have cutne := pps_cut g1 hkn
      have morene := pps_more (u := mb) g1 (by have := HMB.out; omega)
      have hg1 := fun w1 => getPps_any mayPpsOk (v.extract 0 k) w1 (by rw [size_cut v k (by omega)]; omega)
      have hg2 := fun w1 => getPps_any mayPpsOk (v ++ mb) w1 (by rw [size_more]; omega)
      generalize gotPps (bitAt (v.extract 0 k)) (8 * (v.extract 0 k).size) = got1 at cutne hg1
      generalize gotPps (bitAt (v ++ mb)) (8 * (v ++ mb).size) = got2 at morene hg2
      obtain ⟨⟨g0, g1, g2, g3, g4, g5, g6, g7, g8⟩, gcode⟩ := got1
      obtain ⟨⟨e0, e1, e2, e3, e4, e5, e6, e7, e8⟩, ecode⟩ := got2
      unfold PPost ppsV at hg1 hg2
      simp only at hg1 hg2 cutne morene
      have n1 : (gcode == 0) = false := by simpa using cutne
      have n2 : (ecode == 0) = false := by simpa using morene
      have q3 : (0 : Int) ≤ (k : Int) ∧ (k : Int) ≤ (v.size : Int) := by omega
      have q4 : (Instr.slice 9 (.string v) none (some (.int .i64 (k : Int))) none).run Try.prog = fun w => .ok (.string (v.extract 0 k)) w := by
        funext w
        rw [run_slice_string_to_if w 9 v .i64 (k : Int) Try.underlying9, if_pos q3]
        rfl
      have q5 : ∀ w : World, (Op.stringOp .add v mb).run Try.prog w = .ok (.string (v ++ mb)) w := fun w => run_string_add_sum w v mb (by omega)
      have HG1 := Lib.hid hg1
      have HG2 := Lib.hid hg2
      clear hg1 hg2 cutne morene hm z1 HTP
      go_wp2_with (go_at_call 17; refine (num_is _ _).mono ?_; rintro e w' ⟨rfl, rfl⟩)
      refine (HG1.out _).mono ?_
      rintro e w4 ⟨rfl, b4⟩
      have D4 := Lib.hid ((D3.out.trans (b4.mono D3.out.size)).alloc (D3.out.trans (b4.mono D3.out.size)).size (.cells #[.bool g0, .bool g1, .int .i64 g2, .int .i64 g3, .int .i64 g4, .bool g5, .bool g6, .int .i64 g7, .int .i64 g8] 43))
      have hc5 := hconv (w4.alloc (.cells #[.bool g0, .bool g1, .int .i64 g2, .int .i64 g3, .int .i64 g4, .bool g5, .bool g6, .int .i64 g7, .int .i64 g8] 43))
      rw [show (w4.alloc (.cells #[.bool g0, .bool g1, .int .i64 g2, .int .i64 g3, .int .i64 g4, .bool g5, .bool g6, .int .i64 g7, .int .i64 g8] 43)).heap.size = w4.heap.size + 1 from by simp] at hc5
      have D5 := Lib.hid (D4.out.alloc D4.out.size (.cells #[.int .u8 (a3 % 256)] 5))
      clear b4 D3 D4 hconv
      go_wp2_with fail
      refine (HG2.out _).mono ?_
      rintro e w6 ⟨rfl, b6⟩
      have D6 := Lib.hid ((D5.out.trans (b6.mono D5.out.size)).alloc (D5.out.trans (b6.mono D5.out.size)).size (.cells #[.bool e0, .bool e1, .int .i64 e2, .int .i64 e3, .int .i64 e4, .bool e5, .bool e6, .int .i64 e7, .int .i64 e8] 43))
      clear b6 D5 hc5
      go_wp2_with (go_at_call 17; refine (num_is _ _).mono ?_; rintro e w' ⟨rfl, rfl⟩)
      go_ret
      exact ⟨rfl, D6.out⟩
    · obtain ⟨rfl, _⟩ := HTP.out.2 hm
      clear hm
      go_wp2_with (go_at_call 17; refine (num_is _ _).mono ?_; rintro e w' ⟨rfl, rfl⟩)
      go_ret
      exact ⟨rfl, D3.out⟩

set_option maxRecDepth 100000 in
theorem paramsTails_walk {H : Type} {enc : TypeId × Value → H} {r r' : Reach} {b0 b1 : Nat} (v v' : Value) (a2 a3 : Int) (W : World) {d d' : DataW H} {p p' : List MemPlace} (hv : Value.okWide Try.prog W r b0 24 v)
    (h : DataW.Trod enc Try.prog W 0 (fun _ => true) true 24 v d p) (hu : Rows.uptoBulk d ≤ 1048576) (hv' : Value.okWide Try.prog W r' b1 43 v')
    (h' : DataW.Trod enc Try.prog W 0 (fun _ => true) true 43 v' d' p') (_ : Rows.uptoBulk d' ≤ 1048576) (_ : (Lit.int .i64 a2).wf = true) (_ : (Lit.int .i64 a3).wf = true) :
    Calls Try.prog 9 #[v, v', .int .i64 a2, .int .i64 a3] W fun e w' => e = .returned (.bool true) ∧ Below W.heap.size W w' := by
  obtain ⟨q, a, cap, rfl, hi, hn, hb⟩ := sps_open hv h
  obtain ⟨q', rfl⟩ := pps_open hv' h'
  exact paramsTails_at q a cap q' a2 a3 W hi (by omega)

end Go.Proofs.Ytadfgadkihlmcaa
