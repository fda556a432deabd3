/- Layer 3: the walk of the law ParamsBack, told that the program's ranges and its GetSps answer as they should. -/
import Derived.Test.YtadfgadkihlmcaaQU
namespace Go.Proofs.Ytadfgadkihlmcaa
open Go.RowKit Zo Zp

theorem bstr_nums (s : ByteArray) : bstr (nums s) = s := by
  apply ByteArray.ext
  unfold bstr nums
  simp only [List.map_map]
  apply Array.ext'
  simp only
  conv => rhs; rw [← List.map_id s.data.toList]
  apply List.map_congr_left
  intro x _
  simp

/-- What PutSps answers of these, as a law takes it. -/
def SpsTold (p : SpsN) (u : ByteArray) (c : Int) : Prop := (p.may → c = 0 ∧ u.size ≤ 1000 ∧ gotSps (bitAt u) (8 * u.size) = (p, 0)) ∧ (¬ p.may → c = 301 ∧ u = ⟨#[]⟩)
def PpsTold (p : PpsN) (u : ByteArray) (c : Int) : Prop := (p.may → c = 0 ∧ u.size ≤ 1000 ∧ gotPps (bitAt u) (8 * u.size) = (p, 0)) ∧ (¬ p.may → c = 301 ∧ u = ⟨#[]⟩)

theorem spsTold (p : SpsN) : SpsTold p (bstr (putSpsAns p).1) (putSpsAns p).2 := by
  refine ⟨fun h => ?_, fun h => ?_⟩
  · rw [putSpsAns, if_pos h]
    exact ⟨rfl, (sps_str p h).1, (sps_str p h).2⟩
  · rw [putSpsAns, if_neg h]
    exact ⟨rfl, rfl⟩

theorem ppsTold (p : PpsN) : PpsTold p (bstr (putPpsAns p).1) (putPpsAns p).2 := by
  refine ⟨fun h => ?_, fun h => ?_⟩
  · rw [putPpsAns, if_pos h]
    exact ⟨rfl, (pps_str p h).1, (pps_str p h).2⟩
  · rw [putPpsAns, if_neg h]
    exact ⟨rfl, rfl⟩

theorem spsAgain {t : ByteArray} {p : SpsN} (h : gotSps (bitAt t) (8 * t.size) = (p, 0)) : bstr (putSpsAns p).1 = t ∧ (putSpsAns p).2 = 0 := by
  obtain ⟨h1, h2⟩ := sps_again h
  rw [putSpsAns, if_pos h1, ← h2]
  exact ⟨bstr_nums t, rfl⟩

set_option maxRecDepth 100000 in
set_option maxHeartbeats 8000000 in
theorem paramsBack_at (HS : MaySpsOk) (HP : MayPpsOk) (HG : GetSpsOk) (p : SpsN) (sa : Option Addr) (scap : Nat) (r : PpsN) (s : ByteArray) (w : World) (hs : s.size ≤ 1048576) (hi : IntRow w sa p.cycle) (hl : p.cycle.length ≤ 1048576) :
    Calls Try.prog 5 #[spsV p sa scap, ppsV r, .string s] w fun e w' => e = .returned (.bool true) ∧ Below w.heap.size w w' := by
  have HA := Lib.hid (awake3 HS HP HG)
  have hput := fun a cap w1 h => putSps_any HS w1 p a cap h (by omega)
  have hputp := fun w1 => putPps_any HP w1 r
  have htold := spsTold p
  have htoldp := ppsTold r
  unfold StrPut at hput hputp
  obtain ⟨u, hu⟩ : ∃ u, bstr (putSpsAns p).1 = u := ⟨_, rfl⟩
  obtain ⟨c, hc⟩ : ∃ c, (putSpsAns p).2 = c := ⟨_, rfl⟩
  obtain ⟨v, hv⟩ : ∃ v, bstr (putPpsAns r).1 = v := ⟨_, rfl⟩
  obtain ⟨d, hd⟩ : ∃ d, (putPpsAns r).2 = d := ⟨_, rfl⟩
  simp only [hu, hc] at hput htold
  simp only [hv, hd] at hputp htoldp
  have hget := fun w1 => HG s w1 hs
  have hagain := fun p' (h : gotSps (bitAt s) (8 * s.size) = (p', 0)) => spsAgain h
  have hsm := gotSps_small (bitAt s) (8 * s.size)
  generalize gotSps (bitAt s) (8 * s.size) = got at hget hagain hsm
  obtain ⟨⟨gwide, ghigh, gfbits, gptype, gpbits, gnonref, gcycle, grefs, gdelay⟩, gcode⟩ := got
  unfold GPost at hget
  have hput3 := fun a cap w1 h => putSps_any HS w1 ⟨gwide, ghigh, gfbits, gptype, gpbits, gnonref, gcycle, grefs, gdelay⟩ a cap h (by have := hsm.1; simp only at this ⊢; omega)
  unfold StrPut at hput3
  have HMS := Lib.hid (fun a cap w1 h => HS p a cap w1 h (by omega))
  have HMP := Lib.hid (fun w1 => HP r w1)
  have HEQ := Lib.hid (fun a a' cap cap' w1 h h' => sameSps_yes w1 p a a' cap cap' h h' (by omega))
  obtain ⟨wide, high, fbits, ptype, pbits, nonref, cycle, refs, delay⟩ := p
  obtain ⟨cabac, weighted, bipred, qp, chroma, constrained, deblock, act0, act1⟩ := r
  unfold spsV at hput hget hput3 HMS HEQ ⊢
  unfold ppsV at hputp HMP ⊢
  simp only at hput hget hput3 hputp hi hl ⊢
  have HPUT := Lib.hid hput
  have HPUTP := Lib.hid hputp
  have HGET := Lib.hid hget
  have HPUT3 := Lib.hid hput3
  have HAGAIN := Lib.hid hagain
  have HT := Lib.hid htold
  have HTP := Lib.hid htoldp
  have HI := Lib.hid hi
  clear hput hputp hget hput3 hagain htold htoldp hu hc hv hd hi hsm
  have x0 := heap_alloc_last w (.cells #[.int .i64 wide, .int .i64 high, .int .i64 fbits, .int .i64 ptype, .int .i64 pbits, .int .i64 nonref, .slice sa cycle.length scap, .int .i64 refs, .int .i64 delay] 24)
  have e0 : (w.alloc (.cells #[.int .i64 wide, .int .i64 high, .int .i64 fbits, .int .i64 ptype, .int .i64 pbits, .int .i64 nonref, .slice sa cycle.length scap, .int .i64 refs, .int .i64 delay] 24)).heap.size = w.heap.size + 1 := by simp
  have y0 := heap_alloc_last (w.alloc (.cells #[.int .i64 wide, .int .i64 high, .int .i64 fbits, .int .i64 ptype, .int .i64 pbits, .int .i64 nonref, .slice sa cycle.length scap, .int .i64 refs, .int .i64 delay] 24)) (.cells #[.bool cabac, .bool weighted, .int .i64 bipred, .int .i64 qp, .int .i64 chroma, .bool constrained, .bool deblock, .int .i64 act0, .int .i64 act1] 43)
  rw [e0] at y0
  have Y1 := Lib.hid y0
  have X1 := Lib.hid ((heap_alloc_other (o := .cells #[.bool cabac, .bool weighted, .int .i64 bipred, .int .i64 qp, .int .i64 chroma, .bool constrained, .bool deblock, .int .i64 act0, .int .i64 act1] 43) (by rw [e0]; omega)).trans x0)
  have D1 := Lib.hid (((Below.refl w.heap.size w).alloc (Nat.le_refl _) (.cells #[.int .i64 wide, .int .i64 high, .int .i64 fbits, .int .i64 ptype, .int .i64 pbits, .int .i64 nonref, .slice sa cycle.length scap, .int .i64 refs, .int .i64 delay] 24)).alloc (by rw [e0]; omega) (.cells #[.bool cabac, .bool weighted, .int .i64 bipred, .int .i64 qp, .int .i64 chroma, .bool constrained, .bool deblock, .int .i64 act0, .int .i64 act1] 43))
  clear x0 e0 y0
  go_enter Try.func5, Try.ntmps5
  go_wp2_with fail
  refine (HA.out _).mono ?_
  rintro e w2 ⟨rfl, b2⟩
  have X2 := Lib.hid ((b2.block _ (row_lt X1.out)).trans X1.out)
  have Y2 := Lib.hid ((b2.block _ (row_lt Y1.out)).trans Y1.out)
  have D2 := Lib.hid (D1.out.trans (b2.mono D1.out.size))
  clear b2 X1 Y1 D1
  obtain ⟨x0, x1, x2, x3, x4, x5, x6, x7, x8⟩ := nine_cells X2.out
  go_wp2_with fail
  refine (HPUT.out _ _ _ (by exact HI.out.below D2.out (Nat.le_refl _))).mono ?_
  rintro e w3 ⟨rfl, b3⟩
  have X3 := Lib.hid ((b3.block _ (row_lt X2.out)).trans X2.out)
  have Y3 := Lib.hid ((b3.block _ (row_lt Y2.out)).trans Y2.out)
  have D3 := Lib.hid (D2.out.trans (b3.mono D2.out.size))
  clear b3 X2 Y2 D2
  clear x0 x1 x2 x3 x4 x5 x6 x7 x8
  go_upto_if 28 with (go_at_call 17; refine (num_is _ _).mono ?_; rintro e w' ⟨rfl, rfl⟩)
  go_cut [6] (fun rr wx => rr = .bool false ∧ Hid (wx.heap[w.heap.size + 1]? = some (.cells #[.bool cabac, .bool weighted, .int .i64 bipred, .int .i64 qp, .int .i64 chroma, .bool constrained, .bool deblock, .int .i64 act0, .int .i64 act1] 43 (0, 0))) ∧ Hid (Below w.heap.size w wx))
  case first =>
    by_cases hm : SpsN.may ⟨wide, high, fbits, ptype, pbits, nonref, cycle, refs, delay⟩
    · obtain ⟨rfl, z1, g1⟩ := HT.out.1 hm
      have hg := fun w1 => HG u w1 (by omega)
      rw [g1] at hg
      unfold GPost spsV at hg
      simp only at hg
      have HG1 := Lib.hid hg
      have hms : ∀ a cap w1, IntRow w1 a cycle → Calls Try.prog 15 #[.agg #[.int .i64 wide, .int .i64 high, .int .i64 fbits, .int .i64 ptype, .int .i64 pbits, .int .i64 nonref, .slice a cycle.length cap, .int .i64 refs, .int .i64 delay]] w1 fun e w' => e = .returned (.bool true) ∧ Below w1.heap.size w1 w' := fun a cap w1 h => by
        have := HMS.out a cap w1 h
        rwa [decide_eq_true hm] at this
      have HM1 := Lib.hid hms
      clear hg g1 z1 hms hm
      go_wp2_with fail
      refine (HG1.out _).mono ?_
      rintro e w4 ⟨xa, xcap, rfl, i4, _, _, b4⟩
      have X4 := Lib.hid ((b4.block _ (row_lt X3.out)).trans X3.out)
      have Y4 := Lib.hid ((b4.block _ (row_lt Y3.out)).trans Y3.out)
      have D4 := Lib.hid (D3.out.trans (b4.mono D3.out.size))
      have X5 := Lib.hid ((heap_alloc_other (o := .cells #[.int .i64 wide, .int .i64 high, .int .i64 fbits, .int .i64 ptype, .int .i64 pbits, .int .i64 nonref, .slice xa cycle.length xcap, .int .i64 refs, .int .i64 delay] 24) (row_lt X4.out)).trans X4.out)
      have Y5 := Lib.hid ((heap_alloc_other (o := .cells #[.int .i64 wide, .int .i64 high, .int .i64 fbits, .int .i64 ptype, .int .i64 pbits, .int .i64 nonref, .slice xa cycle.length xcap, .int .i64 refs, .int .i64 delay] 24) (row_lt Y4.out)).trans Y4.out)
      have Z5 := Lib.hid (heap_alloc_last w4 (.cells #[.int .i64 wide, .int .i64 high, .int .i64 fbits, .int .i64 ptype, .int .i64 pbits, .int .i64 nonref, .slice xa cycle.length xcap, .int .i64 refs, .int .i64 delay] 24))
      have D5 := Lib.hid (D4.out.alloc D4.out.size (.cells #[.int .i64 wide, .int .i64 high, .int .i64 fbits, .int .i64 ptype, .int .i64 pbits, .int .i64 nonref, .slice xa cycle.length xcap, .int .i64 refs, .int .i64 delay] 24))
      have I5 := Lib.hid (i4.alloc (.cells #[.int .i64 wide, .int .i64 high, .int .i64 fbits, .int .i64 ptype, .int .i64 pbits, .int .i64 nonref, .slice xa cycle.length xcap, .int .i64 refs, .int .i64 delay] 24))
      clear b4 i4 X4 Y4 D4
      obtain ⟨x0, x1, x2, x3, x4, x5, x6, x7, x8⟩ := nine_cells X5.out
      obtain ⟨z0, z1, z2, z3, z4, z5, z6, z7, z8⟩ := nine_cells Z5.out
      go_wp2_with (go_at_call 17; refine (num_is _ _).mono ?_; rintro e w' ⟨rfl, rfl⟩)
      refine (HEQ.out _ _ _ _ _ (by exact I5.out) (by exact HI.out.below D5.out (Nat.le_refl _))).mono ?_
      rintro e w6 ⟨rfl, b6⟩
      have X6 := Lib.hid ((b6.block _ (row_lt X5.out)).trans X5.out)
      have Y6 := Lib.hid ((b6.block _ (row_lt Y5.out)).trans Y5.out)
      have D6 := Lib.hid (D5.out.trans (b6.mono D5.out.size))
      clear b6
      clear x0 x1 x2 x3 x4 x5 x6 x7 x8 z0 z1 z2 z3 z4 z5 z6 z7 z8
      obtain ⟨x0, x1, x2, x3, x4, x5, x6, x7, x8⟩ := nine_cells X6.out
      go_wp2_with fail
      refine (HM1.out _ _ _ (by exact HI.out.below D6.out (Nat.le_refl _))).mono ?_
      rintro e w7 ⟨rfl, b7⟩
      have Y7 := Lib.hid ((b7.block _ (row_lt Y6.out)).trans Y6.out)
      have D7 := Lib.hid (D6.out.trans (b7.mono D6.out.size))
      clear b7
      go_wp2_with fail
      go_meet
      exact ⟨rfl, Y7, D7⟩
    · obtain ⟨rfl, _⟩ := HT.out.2 hm
      clear hm
      go_wp2_with fail
      go_meet
      exact ⟨rfl, Y3, D3⟩
  case rest =>
    obtain ⟨rfl, YA, DA⟩ := hcut
    clear X3 Y3 D3
    obtain ⟨y0, y1, y2, y3, y4, y5, y6, y7, y8⟩ := nine_cells YA.out
    go_wp2_with fail
    refine (HPUTP.out _).mono ?_
    rintro e w3 ⟨rfl, b3⟩
    have Y3 := Lib.hid ((b3.block _ (row_lt YA.out)).trans YA.out)
    have D3 := Lib.hid (DA.out.trans (b3.mono DA.out.size))
    clear b3
    clear y0 y1 y2 y3 y4 y5 y6 y7 y8
    go_upto_if 55 with (go_at_call 17; refine (num_is _ _).mono ?_; rintro e w' ⟨rfl, rfl⟩)
    go_cut [6] (fun rr wx => rr = .bool false ∧ Hid (Below w.heap.size w wx))
    case first =>
      by_cases hm : PpsN.may ⟨cabac, weighted, bipred, qp, chroma, constrained, deblock, act0, act1⟩
      · obtain ⟨rfl, z1, g1⟩ := HTP.out.1 hm
        have hg := fun w1 => getPps_any HP v w1 (by omega)
        rw [g1] at hg
        unfold PPost ppsV at hg
        simp only at hg
        have HG1 := Lib.hid hg
        have hms : ∀ w1, Calls Try.prog 26 #[.agg #[.bool cabac, .bool weighted, .int .i64 bipred, .int .i64 qp, .int .i64 chroma, .bool constrained, .bool deblock, .int .i64 act0, .int .i64 act1]] w1 fun e w' => e = .returned (.bool true) ∧ Below w1.heap.size w1 w' := fun w1 => by
          have := HMP.out w1
          rwa [decide_eq_true hm] at this
        have HM1 := Lib.hid hms
        clear hg g1 z1 hms hm
        go_wp2_with fail
        refine (HG1.out _).mono ?_
        rintro e w4 ⟨rfl, b4⟩
        have Y4 := Lib.hid ((b4.block _ (row_lt Y3.out)).trans Y3.out)
        have D4 := Lib.hid (D3.out.trans (b4.mono D3.out.size))
        have Y5 := Lib.hid ((heap_alloc_other (o := .cells #[.bool cabac, .bool weighted, .int .i64 bipred, .int .i64 qp, .int .i64 chroma, .bool constrained, .bool deblock, .int .i64 act0, .int .i64 act1] 43) (row_lt Y4.out)).trans Y4.out)
        have Z5 := Lib.hid (heap_alloc_last w4 (.cells #[.bool cabac, .bool weighted, .int .i64 bipred, .int .i64 qp, .int .i64 chroma, .bool constrained, .bool deblock, .int .i64 act0, .int .i64 act1] 43))
        have D5 := Lib.hid (D4.out.alloc D4.out.size (.cells #[.bool cabac, .bool weighted, .int .i64 bipred, .int .i64 qp, .int .i64 chroma, .bool constrained, .bool deblock, .int .i64 act0, .int .i64 act1] 43))
        clear b4 Y4 D4
        obtain ⟨y0, y1, y2, y3, y4, y5, y6, y7, y8⟩ := nine_cells Y5.out
        obtain ⟨z0, z1, z2, z3, z4, z5, z6, z7, z8⟩ := nine_cells Z5.out
        go_wp2_with (go_at_call 17; refine (num_is _ _).mono ?_; rintro e w' ⟨rfl, rfl⟩)
        refine (HM1.out _).mono ?_
        rintro e w7 ⟨rfl, b7⟩
        have D7 := Lib.hid (D5.out.trans (b7.mono D5.out.size))
        clear b7
        go_wp2_with fail
        go_meet
        exact ⟨rfl, D7⟩
      · obtain ⟨rfl, _⟩ := HTP.out.2 hm
        clear hm
        go_wp2_with fail
        go_meet
        exact ⟨rfl, D3⟩
    case rest =>
      obtain ⟨rfl, DB⟩ := hcut
      clear Y3 D3 YA DA
      go_wp2_with fail
      refine (HGET.out _).mono ?_
      rintro e w4 ⟨ga, gcap, rfl, i4, _, _, b4⟩
      have D4 := Lib.hid (DB.out.trans (b4.mono DB.out.size))
      have Z5 := Lib.hid (heap_alloc_last w4 (.cells #[.int .i64 gwide, .int .i64 ghigh, .int .i64 gfbits, .int .i64 gptype, .int .i64 gpbits, .int .i64 gnonref, .slice ga gcycle.length gcap, .int .i64 grefs, .int .i64 gdelay] 24))
      have D5 := Lib.hid (D4.out.alloc D4.out.size (.cells #[.int .i64 gwide, .int .i64 ghigh, .int .i64 gfbits, .int .i64 gptype, .int .i64 gpbits, .int .i64 gnonref, .slice ga gcycle.length gcap, .int .i64 grefs, .int .i64 gdelay] 24))
      have I5 := Lib.hid (i4.alloc (.cells #[.int .i64 gwide, .int .i64 ghigh, .int .i64 gfbits, .int .i64 gptype, .int .i64 gpbits, .int .i64 gnonref, .slice ga gcycle.length gcap, .int .i64 grefs, .int .i64 gdelay] 24))
      clear b4 i4 D4
      by_cases hg0 : gcode = 0
      · subst hg0
        obtain ⟨h1, h2⟩ := HAGAIN.out _ rfl
        have hp3 := HPUT3.out
        simp only [h1, h2] at hp3
        have HP3 := Lib.hid hp3
        clear h1 h2 hp3
        obtain ⟨z0, z1, z2, z3, z4, z5, z6, z7, z8⟩ := nine_cells Z5.out
        go_wp2_with (go_at_call 17; refine (num_is _ _).mono ?_; rintro e w' ⟨rfl, rfl⟩)
        refine (HP3.out _ _ _ (by exact I5.out)).mono ?_
        rintro e w7 ⟨rfl, b7⟩
        have D7 := Lib.hid (D5.out.trans (b7.mono D5.out.size))
        clear b7
        go_wp2_with (go_at_call 17; refine (num_is _ _).mono ?_; rintro e w' ⟨rfl, rfl⟩)
        go_ret
        exact ⟨rfl, D7.out⟩
      · have hb0 : (gcode != 0) = true := by simp; omega
        go_wp2_with (go_at_call 17; refine (num_is _ _).mono ?_; rintro e w' ⟨rfl, rfl⟩)
        go_ret
        exact ⟨rfl, D5.out⟩
end Go.Proofs.Ytadfgadkihlmcaa
