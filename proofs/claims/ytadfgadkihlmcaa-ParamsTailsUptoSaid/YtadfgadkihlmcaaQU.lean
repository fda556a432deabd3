/- Layer 3: the walk of the law ParamsSps, told that the program's ranges and its GetSps answer as they should. -/
import Derived.Test.YtadfgadkihlmcaaQT
namespace Go.Proofs.Ytadfgadkihlmcaa
open Go.RowKit Zo Zp

theorem intRow_drew {w : World} {a : Option Addr} {l : List Int} (h : IntRow w a l) : IntRow w.drew a l := h

theorem gotSps_small (f : Nat → Bool) (T : Nat) : (gotSps f T).1.cycle.length ≤ 4 ∧ ∀ x ∈ (gotSps f T).1.cycle, -1000 ≤ x ∧ x ≤ 1000 := by
  have hz : SpsN.zero.cycle.length ≤ 4 ∧ ∀ x ∈ SpsN.zero.cycle, -1000 ≤ x ∧ x ≤ 1000 := ⟨by decide, fun x hx => by cases hx⟩
  unfold gotSps
  split
  · exact hz
  · exact hz
  · split
    · split
      · rename_i hm
        exact ⟨hm.2.2.2.2.2.2.2.2.2.2.2.2.1, hm.2.2.2.2.2.2.2.2.2.2.2.2.2.1⟩
      · exact hz
    · exact hz

set_option maxRecDepth 100000 in
set_option maxHeartbeats 8000000 in
theorem paramsSps_at (HS : MaySpsOk) (HP : MayPpsOk) (HG : GetSpsOk) (p : SpsN) (sa : Option Addr) (scap : Nat) (s : ByteArray) (w : World) (hs : s.size ≤ 1048576) (hi : IntRow w sa p.cycle) (hl : p.cycle.length ≤ 1048576) (hn : sa = none → p.cycle = [] ∧ scap = 0) :
    Calls Try.prog 3 #[spsV p sa scap, .string s] w fun e w' => e = .returned (.bool true) ∧ Below w.heap.size w w' := by
  have hput := fun a cap w1 h => putSps_any HS w1 p a cap h (by omega)
  have hput2 := fun a cap w1 h => refPutSps_any w1 p a cap h (by omega)
  have hget := fun w1 => HG s w1 hs
  have hget2 := fun w1 => refGetSps_any s w1 hs
  have hm := fun a cap w1 h => HS p a cap w1 h (by omega)
  have hm2 := fun a cap w1 h => refMaySps_any w1 p a cap h (by omega)
  have hsame := fun a a' cap cap' w1 h h' => sameSps_yes w1 (gotSps (bitAt s) (8 * s.size)).1 a a' cap cap' h h' (by have := (gotSps_small (bitAt s) (8 * s.size)).1; omega)
  have hsm := gotSps_small (bitAt s) (8 * s.size)
  generalize gotSps (bitAt s) (8 * s.size) = got at *
  obtain ⟨⟨gwide, ghigh, gfbits, gptype, gpbits, gnonref, gcycle, grefs, gdelay⟩, gcode⟩ := got
  unfold StrPut at hput hput2
  unfold GPost at hget hget2
  obtain ⟨u, hu⟩ : ∃ u, bstr (putSpsAns p).1 = u := ⟨_, rfl⟩
  obtain ⟨c, hc⟩ : ∃ c, (putSpsAns p).2 = c := ⟨_, rfl⟩
  obtain ⟨m, hmm⟩ : ∃ m, decide p.may = m := ⟨_, rfl⟩
  simp only [hu, hc, hmm] at hput hput2 hm hm2
  obtain ⟨wide, high, fbits, ptype, pbits, nonref, cycle, refs, delay⟩ := p
  unfold spsV at *
  simp only at hput hput2 hget hget2 hm hm2 hsame hsm hi hl hn ⊢
  obtain ⟨hg4, hgx⟩ := hsm
  have HPUT := Lib.hid hput
  have HPUT2 := Lib.hid hput2
  have HGET := Lib.hid hget
  have HGET2 := Lib.hid hget2
  have HM := Lib.hid hm
  have HM2 := Lib.hid hm2
  have HSAME := Lib.hid hsame
  have HGX := Lib.hid hgx
  have HA := Lib.hid (awake3 HS HP HG)
  have HN := Lib.hid hn
  have HI := Lib.hid hi
  clear hput hput2 hget hget2 hm hm2 hsame hu hc hmm hgx hn hi
  -- the box of s, the variable x
  have x0 := heap_alloc_last w (.cells #[.int .i64 wide, .int .i64 high, .int .i64 fbits, .int .i64 ptype, .int .i64 pbits, .int .i64 nonref, .slice sa cycle.length scap, .int .i64 refs, .int .i64 delay] 24)
  have e0 : (w.alloc (.cells #[.int .i64 wide, .int .i64 high, .int .i64 fbits, .int .i64 ptype, .int .i64 pbits, .int .i64 nonref, .slice sa cycle.length scap, .int .i64 refs, .int .i64 delay] 24)).heap.size = w.heap.size + 1 := by simp
  have x1 := heap_alloc_last (w.alloc (.cells #[.int .i64 wide, .int .i64 high, .int .i64 fbits, .int .i64 ptype, .int .i64 pbits, .int .i64 nonref, .slice sa cycle.length scap, .int .i64 refs, .int .i64 delay] 24)) (.cells #[.int .i64 wide, .int .i64 high, .int .i64 fbits, .int .i64 ptype, .int .i64 pbits, .int .i64 nonref, .slice sa cycle.length scap, .int .i64 refs, .int .i64 delay] 24)
  rw [e0] at x1
  have X1 := Lib.hid x1
  have B1 := Lib.hid ((heap_alloc_other (o := .cells #[.int .i64 wide, .int .i64 high, .int .i64 fbits, .int .i64 ptype, .int .i64 pbits, .int .i64 nonref, .slice sa cycle.length scap, .int .i64 refs, .int .i64 delay] 24) (by rw [e0]; omega)).trans x0)
  have D1 := Lib.hid (((Below.refl w.heap.size w).alloc (Nat.le_refl _) (.cells #[.int .i64 wide, .int .i64 high, .int .i64 fbits, .int .i64 ptype, .int .i64 pbits, .int .i64 nonref, .slice sa cycle.length scap, .int .i64 refs, .int .i64 delay] 24)).alloc (by rw [e0]; omega) (.cells #[.int .i64 wide, .int .i64 high, .int .i64 fbits, .int .i64 ptype, .int .i64 pbits, .int .i64 nonref, .slice sa cycle.length scap, .int .i64 refs, .int .i64 delay] 24))
  have HLEND := Lib.hid (lendInts_any ((w.alloc (.cells #[.int .i64 wide, .int .i64 high, .int .i64 fbits, .int .i64 ptype, .int .i64 pbits, .int .i64 nonref, .slice sa cycle.length scap, .int .i64 refs, .int .i64 delay] 24)).alloc (.cells #[.int .i64 wide, .int .i64 high, .int .i64 fbits, .int .i64 ptype, .int .i64 pbits, .int .i64 nonref, .slice sa cycle.length scap, .int .i64 refs, .int .i64 delay] 24)) sa scap cycle ((HI.out.alloc _).alloc _) (by omega) HN.out)
  have ez : ((w.alloc (.cells #[.int .i64 wide, .int .i64 high, .int .i64 fbits, .int .i64 ptype, .int .i64 pbits, .int .i64 nonref, .slice sa cycle.length scap, .int .i64 refs, .int .i64 delay] 24)).alloc (.cells #[.int .i64 wide, .int .i64 high, .int .i64 fbits, .int .i64 ptype, .int .i64 pbits, .int .i64 nonref, .slice sa cycle.length scap, .int .i64 refs, .int .i64 delay] 24)).heap.size = w.heap.size + 2 := by simp
  have EZ := Lib.hid ez
  clear x0 e0 x1 ez
  go_enter Try.func3, Try.ntmps3
  go_wp2_with fail
  refine HLEND.out.mono ?_
  rintro e w1 ⟨lg, lcap, rfl, lc1, lc2, lc3, li, b1⟩
  rw [EZ.out] at lc3
  have X2 := Lib.hid ((b1.block _ (row_lt X1.out)).trans X1.out)
  have B2 := Lib.hid ((b1.block _ (row_lt B1.out)).trans B1.out)
  have D2 := Lib.hid (D1.out.trans (b1.mono D1.out.size))
  have c6 := cell_of_row _ _ 6 _ _ _ X2.out
  have f6 := free_row X2.out 6
  simp at c6
  have fx : Fr (fun k => k = w.heap.size + 1) w1 (w1.setCell ⟨w.heap.size + 1, 6, none⟩ (.slice (some ⟨lg, 0, none⟩) cycle.length lcap)) := Fr.setCell (S := fun k => k = w.heap.size + 1) (Fr.refl _ _) (fun _ => rfl) _
  have X3 : Hid ((w1.setCell ⟨w.heap.size + 1, 6, none⟩ (.slice (some ⟨lg, 0, none⟩) cycle.length lcap)).heap[w.heap.size + 1]? = some (.cells #[.int .i64 wide, .int .i64 high, .int .i64 fbits, .int .i64 ptype, .int .i64 pbits, .int .i64 nonref, .slice (some ⟨lg, 0, none⟩) cycle.length lcap, .int .i64 refs, .int .i64 delay] 24 (0, 0))) := heap_setCell_row X2.out 6 (.slice (some ⟨lg, 0, none⟩) cycle.length lcap)
  have B3 := Lib.hid ((fx.block _ (row_lt B2.out) (by omega)).trans B2.out)
  have D3 := Lib.hid (D2.out.setCell (p := ⟨w.heap.size + 1, 6, none⟩) (by show w.heap.size ≤ w.heap.size + 1; omega) (.slice (some ⟨lg, 0, none⟩) cycle.length lcap))
  have L3 := Lib.hid (li.fr fx (fun x hx => by simp only [Option.some.injEq] at hx; subst hx; show ¬ lg = w.heap.size + 1; omega))
  have LC := Lib.hid lc1
  clear HLEND b1 X1 B1 D1 X2 B2 D2 fx lc1 lc2 lc3 li
  obtain ⟨x0, x1, x2, x3, x4, x5, x6, x7, x8⟩ := nine_cells X3.out
  go_wp2_with fail
  refine (HPUT.out _ _ _ (by exact L3.out.take)).mono ?_
  rintro e w4 ⟨rfl, b4⟩
  clear x0 x1 x2 x3 x4 x5 x6 x7 x8
  clear c6 f6
  have X4 := Lib.hid ((b4.block _ (row_lt X3.out)).trans X3.out)
  have B4 := Lib.hid ((b4.block _ (row_lt B3.out)).trans B3.out)
  have L4 := Lib.hid (L3.out.below b4 (Nat.le_refl _))
  have D4 := Lib.hid (D3.out.trans (b4.mono D3.out.size))
  clear b4 X3 B3 D3 L3
  obtain ⟨x0, x1, x2, x3, x4, x5, x6, x7, x8⟩ := nine_cells B4.out
  go_wp2_with fail
  refine (HPUT2.out _ _ _ (by exact HI.out.below D4.out (Nat.le_refl _))).mono ?_
  rintro e w5 ⟨rfl, b5⟩
  clear x0 x1 x2 x3 x4 x5 x6 x7 x8
  have X5 := Lib.hid ((b5.block _ (row_lt X4.out)).trans X4.out)
  have B5 := Lib.hid ((b5.block _ (row_lt B4.out)).trans B4.out)
  have L5 := Lib.hid (L4.out.below b5 (Nat.le_refl _))
  have D5 := Lib.hid (D4.out.trans (b5.mono D4.out.size))
  have s5 := D5.out.size
  clear b5 X4 B4 D4 L4
  go_wp2_with fail
  refine (HGET.out _).mono ?_
  rintro e w6 ⟨ga, gacap, rfl, i6, n6, q6, b6⟩
  have X6 := Lib.hid ((b6.block _ (row_lt X5.out)).trans X5.out)
  have B6 := Lib.hid ((b6.block _ (row_lt B5.out)).trans B5.out)
  have L6 := Lib.hid (L5.out.below b6 (Nat.le_refl _))
  have D6 := Lib.hid (D5.out.trans (b6.mono D5.out.size))
  have HF6 : Hid (∀ x, ga = some x → x.block < w6.heap.size ∧ ∃ cs t, w6.heap[x.block]? = some (.cells cs t (0, 0))) := fun x hx => by
    obtain ⟨_, cs, t, e2⟩ := q6 x hx
    exact ⟨row_lt e2, cs, t, e2⟩
  have Q6 := Lib.hid q6
  have GA6 := Lib.hid i6
  clear b6 X5 B5 D5 L5 n6 q6 i6
  have X7 := Lib.hid ((heap_alloc_other (o := .cells #[.int .i64 gwide, .int .i64 ghigh, .int .i64 gfbits, .int .i64 gptype, .int .i64 gpbits, .int .i64 gnonref, .slice ga gcycle.length gacap, .int .i64 grefs, .int .i64 gdelay] 24) (row_lt X6.out)).trans X6.out)
  have B7 := Lib.hid ((heap_alloc_other (o := .cells #[.int .i64 gwide, .int .i64 ghigh, .int .i64 gfbits, .int .i64 gptype, .int .i64 gpbits, .int .i64 gnonref, .slice ga gcycle.length gacap, .int .i64 grefs, .int .i64 gdelay] 24) (row_lt B6.out)).trans B6.out)
  have L7 := Lib.hid (L6.out.alloc (.cells #[.int .i64 gwide, .int .i64 ghigh, .int .i64 gfbits, .int .i64 gptype, .int .i64 gpbits, .int .i64 gnonref, .slice ga gcycle.length gacap, .int .i64 grefs, .int .i64 gdelay] 24))
  have GA7 := Lib.hid (GA6.out.alloc (.cells #[.int .i64 gwide, .int .i64 ghigh, .int .i64 gfbits, .int .i64 gptype, .int .i64 gpbits, .int .i64 gnonref, .slice ga gcycle.length gacap, .int .i64 grefs, .int .i64 gdelay] 24))
  have A7 := Lib.hid (heap_alloc_last w6 (.cells #[.int .i64 gwide, .int .i64 ghigh, .int .i64 gfbits, .int .i64 gptype, .int .i64 gpbits, .int .i64 gnonref, .slice ga gcycle.length gacap, .int .i64 grefs, .int .i64 gdelay] 24))
  have D7 := Lib.hid (D6.out.alloc D6.out.size (.cells #[.int .i64 gwide, .int .i64 ghigh, .int .i64 gfbits, .int .i64 gptype, .int .i64 gpbits, .int .i64 gnonref, .slice ga gcycle.length gacap, .int .i64 grefs, .int .i64 gdelay] 24))
  have HF7 : Hid (∀ x, ga = some x → x.block < w6.heap.size ∧ ∃ cs t, (w6.alloc (.cells #[.int .i64 gwide, .int .i64 ghigh, .int .i64 gfbits, .int .i64 gptype, .int .i64 gpbits, .int .i64 gnonref, .slice ga gcycle.length gacap, .int .i64 grefs, .int .i64 gdelay] 24)).heap[x.block]? = some (.cells cs t (0, 0))) := fun x hx => by
    obtain ⟨e1, cs, t, e2⟩ := HF6.out x hx
    exact ⟨e1, cs, t, (heap_alloc_other (o := .cells #[.int .i64 gwide, .int .i64 ghigh, .int .i64 gfbits, .int .i64 gptype, .int .i64 gpbits, .int .i64 gnonref, .slice ga gcycle.length gacap, .int .i64 grefs, .int .i64 gdelay] 24) (row_lt e2)).trans e2⟩
  clear HF6
  clear X6 B6 L6 GA6 D6
  go_wp2_with fail
  refine (HGET.out _).mono ?_
  rintro e w8 ⟨gb, gbcap, rfl, i8, n8, q8, b8⟩
  have s8 := b8.size
  simp only [World.size_alloc] at s8
  have HF8 : Hid (∀ x, ga = some x → x.block < w6.heap.size ∧ ∃ cs t, w8.heap[x.block]? = some (.cells cs t (0, 0))) := fun x hx => by
    obtain ⟨e1, cs, t, e2⟩ := HF7.out x hx
    exact ⟨e1, cs, t, (b8.block _ (row_lt e2)).trans e2⟩
  clear HF7
  have X8 := Lib.hid ((b8.block _ (row_lt X7.out)).trans X7.out)
  have B8 := Lib.hid ((b8.block _ (row_lt B7.out)).trans B7.out)
  have A8 := Lib.hid ((b8.block _ (row_lt A7.out)).trans A7.out)
  have L8 := Lib.hid (L7.out.below b8 (Nat.le_refl _))
  have GA8 := Lib.hid (GA7.out.below b8 (Nat.le_refl _))
  have D8 := Lib.hid (D7.out.trans (b8.mono D7.out.size))
  have Q8 := Lib.hid q8
  have GB8 := Lib.hid i8
  clear b8 X7 B7 A7 D7 L7 GA7 n8 q8 i8
  have X9 := Lib.hid ((heap_alloc_other (o := .cells #[.int .i64 gwide, .int .i64 ghigh, .int .i64 gfbits, .int .i64 gptype, .int .i64 gpbits, .int .i64 gnonref, .slice gb gcycle.length gbcap, .int .i64 grefs, .int .i64 gdelay] 24) (row_lt X8.out)).trans X8.out)
  have B9 := Lib.hid ((heap_alloc_other (o := .cells #[.int .i64 gwide, .int .i64 ghigh, .int .i64 gfbits, .int .i64 gptype, .int .i64 gpbits, .int .i64 gnonref, .slice gb gcycle.length gbcap, .int .i64 grefs, .int .i64 gdelay] 24) (row_lt B8.out)).trans B8.out)
  have A9 := Lib.hid ((heap_alloc_other (o := .cells #[.int .i64 gwide, .int .i64 ghigh, .int .i64 gfbits, .int .i64 gptype, .int .i64 gpbits, .int .i64 gnonref, .slice gb gcycle.length gbcap, .int .i64 grefs, .int .i64 gdelay] 24) (row_lt A8.out)).trans A8.out)
  have L9 := Lib.hid (L8.out.alloc (.cells #[.int .i64 gwide, .int .i64 ghigh, .int .i64 gfbits, .int .i64 gptype, .int .i64 gpbits, .int .i64 gnonref, .slice gb gcycle.length gbcap, .int .i64 grefs, .int .i64 gdelay] 24))
  have GA9 := Lib.hid (GA8.out.alloc (.cells #[.int .i64 gwide, .int .i64 ghigh, .int .i64 gfbits, .int .i64 gptype, .int .i64 gpbits, .int .i64 gnonref, .slice gb gcycle.length gbcap, .int .i64 grefs, .int .i64 gdelay] 24))
  have GB9 := Lib.hid (GB8.out.alloc (.cells #[.int .i64 gwide, .int .i64 ghigh, .int .i64 gfbits, .int .i64 gptype, .int .i64 gpbits, .int .i64 gnonref, .slice gb gcycle.length gbcap, .int .i64 grefs, .int .i64 gdelay] 24))
  have E9 := Lib.hid (heap_alloc_last w8 (.cells #[.int .i64 gwide, .int .i64 ghigh, .int .i64 gfbits, .int .i64 gptype, .int .i64 gpbits, .int .i64 gnonref, .slice gb gcycle.length gbcap, .int .i64 grefs, .int .i64 gdelay] 24))
  have D9 := Lib.hid (D8.out.alloc D8.out.size (.cells #[.int .i64 gwide, .int .i64 ghigh, .int .i64 gfbits, .int .i64 gptype, .int .i64 gpbits, .int .i64 gnonref, .slice gb gcycle.length gbcap, .int .i64 grefs, .int .i64 gdelay] 24))
  have HF9 : Hid (∀ x, ga = some x → x.block < w6.heap.size ∧ ∃ cs t, (w8.alloc (.cells #[.int .i64 gwide, .int .i64 ghigh, .int .i64 gfbits, .int .i64 gptype, .int .i64 gpbits, .int .i64 gnonref, .slice gb gcycle.length gbcap, .int .i64 grefs, .int .i64 gdelay] 24)).heap[x.block]? = some (.cells cs t (0, 0))) := fun x hx => by
    obtain ⟨e1, cs, t, e2⟩ := HF8.out x hx
    exact ⟨e1, cs, t, (heap_alloc_other (o := .cells #[.int .i64 gwide, .int .i64 ghigh, .int .i64 gfbits, .int .i64 gptype, .int .i64 gpbits, .int .i64 gnonref, .slice gb gcycle.length gbcap, .int .i64 grefs, .int .i64 gdelay] 24) (row_lt e2)).trans e2⟩
  clear HF8
  clear X8 B8 A8 L8 GA8 GB8 D8
  go_wp2_with fail
  refine (HGET2.out _).mono ?_
  rintro e w10 ⟨gw, gwcap, rfl, i10, n10, q10, b10⟩
  have s10 := b10.size
  simp only [World.size_alloc] at s10
  have HF10 : Hid (∀ x, ga = some x → x.block < w6.heap.size ∧ ∃ cs t, w10.heap[x.block]? = some (.cells cs t (0, 0))) := fun x hx => by
    obtain ⟨e1, cs, t, e2⟩ := HF9.out x hx
    exact ⟨e1, cs, t, (b10.block _ (row_lt e2)).trans e2⟩
  clear HF9
  have X10 := Lib.hid ((b10.block _ (row_lt X9.out)).trans X9.out)
  have B10 := Lib.hid ((b10.block _ (row_lt B9.out)).trans B9.out)
  have A10 := Lib.hid ((b10.block _ (row_lt A9.out)).trans A9.out)
  have E10 := Lib.hid ((b10.block _ (row_lt E9.out)).trans E9.out)
  have L10 := Lib.hid (L9.out.below b10 (Nat.le_refl _))
  have GA10 := Lib.hid (GA9.out.below b10 (Nat.le_refl _))
  have GB10 := Lib.hid (GB9.out.below b10 (Nat.le_refl _))
  have D10 := Lib.hid (D9.out.trans (b10.mono D9.out.size))
  have Q10 := Lib.hid q10
  have GW10 := Lib.hid i10
  clear b10 X9 B9 A9 E9 D9 L9 GA9 GB9 n10 q10 i10
  have X11 := Lib.hid ((heap_alloc_other (o := .cells #[.int .i64 gwide, .int .i64 ghigh, .int .i64 gfbits, .int .i64 gptype, .int .i64 gpbits, .int .i64 gnonref, .slice gw gcycle.length gwcap, .int .i64 grefs, .int .i64 gdelay] 24) (row_lt X10.out)).trans X10.out)
  have B11 := Lib.hid ((heap_alloc_other (o := .cells #[.int .i64 gwide, .int .i64 ghigh, .int .i64 gfbits, .int .i64 gptype, .int .i64 gpbits, .int .i64 gnonref, .slice gw gcycle.length gwcap, .int .i64 grefs, .int .i64 gdelay] 24) (row_lt B10.out)).trans B10.out)
  have A11 := Lib.hid ((heap_alloc_other (o := .cells #[.int .i64 gwide, .int .i64 ghigh, .int .i64 gfbits, .int .i64 gptype, .int .i64 gpbits, .int .i64 gnonref, .slice gw gcycle.length gwcap, .int .i64 grefs, .int .i64 gdelay] 24) (row_lt A10.out)).trans A10.out)
  have E11 := Lib.hid ((heap_alloc_other (o := .cells #[.int .i64 gwide, .int .i64 ghigh, .int .i64 gfbits, .int .i64 gptype, .int .i64 gpbits, .int .i64 gnonref, .slice gw gcycle.length gwcap, .int .i64 grefs, .int .i64 gdelay] 24) (row_lt E10.out)).trans E10.out)
  have L11 := Lib.hid (L10.out.alloc (.cells #[.int .i64 gwide, .int .i64 ghigh, .int .i64 gfbits, .int .i64 gptype, .int .i64 gpbits, .int .i64 gnonref, .slice gw gcycle.length gwcap, .int .i64 grefs, .int .i64 gdelay] 24))
  have GA11 := Lib.hid (GA10.out.alloc (.cells #[.int .i64 gwide, .int .i64 ghigh, .int .i64 gfbits, .int .i64 gptype, .int .i64 gpbits, .int .i64 gnonref, .slice gw gcycle.length gwcap, .int .i64 grefs, .int .i64 gdelay] 24))
  have GB11 := Lib.hid (GB10.out.alloc (.cells #[.int .i64 gwide, .int .i64 ghigh, .int .i64 gfbits, .int .i64 gptype, .int .i64 gpbits, .int .i64 gnonref, .slice gw gcycle.length gwcap, .int .i64 grefs, .int .i64 gdelay] 24))
  have GW11 := Lib.hid (GW10.out.alloc (.cells #[.int .i64 gwide, .int .i64 ghigh, .int .i64 gfbits, .int .i64 gptype, .int .i64 gpbits, .int .i64 gnonref, .slice gw gcycle.length gwcap, .int .i64 grefs, .int .i64 gdelay] 24))
  have W11 := Lib.hid (heap_alloc_last w10 (.cells #[.int .i64 gwide, .int .i64 ghigh, .int .i64 gfbits, .int .i64 gptype, .int .i64 gpbits, .int .i64 gnonref, .slice gw gcycle.length gwcap, .int .i64 grefs, .int .i64 gdelay] 24))
  have D11 := Lib.hid (D10.out.alloc D10.out.size (.cells #[.int .i64 gwide, .int .i64 ghigh, .int .i64 gfbits, .int .i64 gptype, .int .i64 gpbits, .int .i64 gnonref, .slice gw gcycle.length gwcap, .int .i64 grefs, .int .i64 gdelay] 24))
  have HF11 : Hid (∀ x, ga = some x → x.block < w6.heap.size ∧ ∃ cs t, (w10.alloc (.cells #[.int .i64 gwide, .int .i64 ghigh, .int .i64 gfbits, .int .i64 gptype, .int .i64 gpbits, .int .i64 gnonref, .slice gw gcycle.length gwcap, .int .i64 grefs, .int .i64 gdelay] 24)).heap[x.block]? = some (.cells cs t (0, 0))) := fun x hx => by
    obtain ⟨e1, cs, t, e2⟩ := HF10.out x hx
    exact ⟨e1, cs, t, (heap_alloc_other (o := .cells #[.int .i64 gwide, .int .i64 ghigh, .int .i64 gfbits, .int .i64 gptype, .int .i64 gpbits, .int .i64 gnonref, .slice gw gcycle.length gwcap, .int .i64 grefs, .int .i64 gdelay] 24) (row_lt e2)).trans e2⟩
  clear HF10
  clear X10 B10 A10 E10 L10 GA10 GB10 GW10 D10
  have D12 := Lib.hid (drew_below D11.out)
  have L12 := Lib.hid (intRow_drew L11.out)
  have GA12 := Lib.hid (intRow_drew GA11.out)
  have GB12 := Lib.hid (intRow_drew GB11.out)
  have GW12 := Lib.hid (intRow_drew GW11.out)
  obtain ⟨x0, x1, x2, x3, x4, x5, x6, x7, x8⟩ := nine_cells X11.out
  obtain ⟨y0, y1, y2, y3, y4, y5, y6, y7, y8⟩ := nine_cells B11.out
  obtain ⟨z0, z1, z2, z3, z4, z5, z6, z7, z8⟩ := nine_cells A11.out
  obtain ⟨t0, t1, t2, t3, t4, t5, t6, t7, t8⟩ := nine_cells W11.out
  go_upto_region 8 with fail
  go_region_held3 (fun w' => w'.cell? ⟨w.heap.size + 1, 0, none⟩ = some (.int .i64 wide) ∧ w'.cell? ⟨w.heap.size + 1, 1, none⟩ = some (.int .i64 high) ∧ w'.cell? ⟨w.heap.size + 1, 2, none⟩ = some (.int .i64 fbits) ∧ w'.cell? ⟨w.heap.size + 1, 3, none⟩ = some (.int .i64 ptype) ∧ w'.cell? ⟨w.heap.size + 1, 4, none⟩ = some (.int .i64 pbits) ∧ w'.cell? ⟨w.heap.size + 1, 5, none⟩ = some (.int .i64 nonref) ∧ w'.cell? ⟨w.heap.size + 1, 6, none⟩ = some (.slice (some ⟨lg, 0, none⟩) cycle.length lcap) ∧ w'.cell? ⟨w.heap.size + 1, 7, none⟩ = some (.int .i64 refs) ∧ w'.cell? ⟨w.heap.size + 1, 8, none⟩ = some (.int .i64 delay) ∧ w'.cell? ⟨w.heap.size, 0, none⟩ = some (.int .i64 wide) ∧ w'.cell? ⟨w.heap.size, 1, none⟩ = some (.int .i64 high) ∧ w'.cell? ⟨w.heap.size, 2, none⟩ = some (.int .i64 fbits) ∧ w'.cell? ⟨w.heap.size, 3, none⟩ = some (.int .i64 ptype) ∧ w'.cell? ⟨w.heap.size, 4, none⟩ = some (.int .i64 pbits) ∧ w'.cell? ⟨w.heap.size, 5, none⟩ = some (.int .i64 nonref) ∧ w'.cell? ⟨w.heap.size, 6, none⟩ = some (.slice sa cycle.length scap) ∧ w'.cell? ⟨w.heap.size, 7, none⟩ = some (.int .i64 refs) ∧ w'.cell? ⟨w.heap.size, 8, none⟩ = some (.int .i64 delay) ∧ w'.cell? ⟨w6.heap.size, 0, none⟩ = some (.int .i64 gwide) ∧ w'.cell? ⟨w6.heap.size, 1, none⟩ = some (.int .i64 ghigh) ∧ w'.cell? ⟨w6.heap.size, 2, none⟩ = some (.int .i64 gfbits) ∧ w'.cell? ⟨w6.heap.size, 3, none⟩ = some (.int .i64 gptype) ∧ w'.cell? ⟨w6.heap.size, 4, none⟩ = some (.int .i64 gpbits) ∧ w'.cell? ⟨w6.heap.size, 5, none⟩ = some (.int .i64 gnonref) ∧ w'.cell? ⟨w6.heap.size, 6, none⟩ = some (.slice ga gcycle.length gacap) ∧ w'.cell? ⟨w6.heap.size, 7, none⟩ = some (.int .i64 grefs) ∧ w'.cell? ⟨w6.heap.size, 8, none⟩ = some (.int .i64 gdelay) ∧ w'.cell? ⟨w10.heap.size, 0, none⟩ = some (.int .i64 gwide) ∧ w'.cell? ⟨w10.heap.size, 1, none⟩ = some (.int .i64 ghigh) ∧ w'.cell? ⟨w10.heap.size, 2, none⟩ = some (.int .i64 gfbits) ∧ w'.cell? ⟨w10.heap.size, 3, none⟩ = some (.int .i64 gptype) ∧ w'.cell? ⟨w10.heap.size, 4, none⟩ = some (.int .i64 gpbits) ∧ w'.cell? ⟨w10.heap.size, 5, none⟩ = some (.int .i64 gnonref) ∧ w'.cell? ⟨w10.heap.size, 6, none⟩ = some (.slice gw gcycle.length gwcap) ∧ w'.cell? ⟨w10.heap.size, 7, none⟩ = some (.int .i64 grefs) ∧ w'.cell? ⟨w10.heap.size, 8, none⟩ = some (.int .i64 gdelay)) (first | exact ⟨x0, x1, x2, x3, x4, x5, x6, x7, x8, y0, y1, y2, y3, y4, y5, y6, y7, y8, z0, z1, z2, z3, z4, z5, z6, z7, z8, t0, t1, t2, t3, t4, t5, t6, t7, t8⟩ | exact ⟨xa0, xa1, xa2, xa3, xa4, xa5, xa6, xa7, xa8, ya0, ya1, ya2, ya3, ya4, ya5, ya6, ya7, ya8, za0, za1, za2, za3, za4, za5, za6, za7, za8, ta0, ta1, ta2, ta3, ta4, ta5, ta6, ta7, ta8⟩ | exact ⟨xb0, xb1, xb2, xb3, xb4, xb5, xb6, xb7, xb8, yb0, yb1, yb2, yb3, yb4, yb5, yb6, yb7, yb8, zb0, zb1, zb2, zb3, zb4, zb5, zb6, zb7, zb8, tb0, tb1, tb2, tb3, tb4, tb5, tb6, tb7, tb8⟩ | exact ⟨xc0, xc1, xc2, xc3, xc4, xc5, xc6, xc7, xc8, yc0, yc1, yc2, yc3, yc4, yc5, yc6, yc7, yc8, zc0, zc1, zc2, zc3, zc4, zc5, zc6, zc7, zc8, tc0, tc1, tc2, tc3, tc4, tc5, tc6, tc7, tc8⟩) ((first
    | (go_at_call 15; refine (HM.out _ _ _ (by exact L12.out.take)).mono ?_; rintro e wa ⟨rfl, ba⟩; have Xa := Lib.hid ((ba.block _ (row_lt X11.out)).trans X11.out); have Ba := Lib.hid ((ba.block _ (row_lt B11.out)).trans B11.out); have Aa := Lib.hid ((ba.block _ (row_lt A11.out)).trans A11.out); have Ea := Lib.hid ((ba.block _ (row_lt E11.out)).trans E11.out); have Wa := Lib.hid ((ba.block _ (row_lt W11.out)).trans W11.out); have La := Lib.hid (L12.out.below ba (Nat.le_refl _)); have GAa := Lib.hid (GA12.out.below ba (Nat.le_refl _)); have GBa := Lib.hid (GB12.out.below ba (Nat.le_refl _)); have GWa := Lib.hid (GW12.out.below ba (Nat.le_refl _)); have HFa : Hid (∀ x, ga = some x → x.block < w6.heap.size ∧ ∃ cs t, wa.heap[x.block]? = some (.cells cs t (0, 0))) := (fun x hx => by obtain ⟨e1, cs, t, e2⟩ := HF11.out x hx; exact ⟨e1, cs, t, (ba.block _ (row_lt e2)).trans e2⟩); obtain ⟨xa0, xa1, xa2, xa3, xa4, xa5, xa6, xa7, xa8⟩ := nine_cells Xa.out; obtain ⟨ya0, ya1, ya2, ya3, ya4, ya5, ya6, ya7, ya8⟩ := nine_cells Ba.out; obtain ⟨za0, za1, za2, za3, za4, za5, za6, za7, za8⟩ := nine_cells Aa.out; obtain ⟨ta0, ta1, ta2, ta3, ta4, ta5, ta6, ta7, ta8⟩ := nine_cells Wa.out; have Da := Lib.hid (D12.out.trans (ba.mono D12.out.size)); clear ba)
    | (go_at_call 16; refine (HM2.out _ _ _ (by exact HI.out.below Da.out (Nat.le_refl _))).mono ?_; rintro e wb ⟨rfl, bb⟩; have Xb := Lib.hid ((bb.block _ (row_lt Xa.out)).trans Xa.out); have Bb := Lib.hid ((bb.block _ (row_lt Ba.out)).trans Ba.out); have Ab := Lib.hid ((bb.block _ (row_lt Aa.out)).trans Aa.out); have Eb := Lib.hid ((bb.block _ (row_lt Ea.out)).trans Ea.out); have Wb := Lib.hid ((bb.block _ (row_lt Wa.out)).trans Wa.out); have Lb := Lib.hid (La.out.below bb (Nat.le_refl _)); have GAb := Lib.hid (GAa.out.below bb (Nat.le_refl _)); have GBb := Lib.hid (GBa.out.below bb (Nat.le_refl _)); have GWb := Lib.hid (GWa.out.below bb (Nat.le_refl _)); have HFb : Hid (∀ x, ga = some x → x.block < w6.heap.size ∧ ∃ cs t, wb.heap[x.block]? = some (.cells cs t (0, 0))) := (fun x hx => by obtain ⟨e1, cs, t, e2⟩ := HFa.out x hx; exact ⟨e1, cs, t, (bb.block _ (row_lt e2)).trans e2⟩); obtain ⟨xb0, xb1, xb2, xb3, xb4, xb5, xb6, xb7, xb8⟩ := nine_cells Xb.out; obtain ⟨yb0, yb1, yb2, yb3, yb4, yb5, yb6, yb7, yb8⟩ := nine_cells Bb.out; obtain ⟨zb0, zb1, zb2, zb3, zb4, zb5, zb6, zb7, zb8⟩ := nine_cells Ab.out; obtain ⟨tb0, tb1, tb2, tb3, tb4, tb5, tb6, tb7, tb8⟩ := nine_cells Wb.out; have Db := Lib.hid (Da.out.trans (bb.mono Da.out.size)); clear bb)
    | (go_at_call 17; refine (num_is _ _).mono ?_; rintro e w' ⟨rfl, rfl⟩)
    | (go_at_call 18; refine (keptInts_yes _ lg sa lcap scap cycle (by exact Lb.out) (by exact HI.out.below Db.out (Nat.le_refl _)) (by omega) LC.out).mono ?_; rintro e w' ⟨rfl, nk, rfl⟩; have Dk := Lib.hid (below_dN Db.out nk); have Lk := Lib.hid (IntRow.drewN Lb.out nk); have GAk := Lib.hid (IntRow.drewN GAb.out nk); have GBk := Lib.hid (IntRow.drewN GBb.out nk); have GWk := Lib.hid (IntRow.drewN GWb.out nk); have Xk := Xb; have Bk := Bb; have Ak := Ab; have Ek := Eb; have Wk := Wb; have HFk := HFb)
    | (go_at_call 19; refine (HSAME.out _ _ _ _ _ (by exact GAk.out) (by exact GWk.out)).mono ?_; rintro e wc ⟨rfl, bc⟩; have Xc := Lib.hid ((bc.block _ (row_lt Xk.out)).trans Xk.out); have Bc := Lib.hid ((bc.block _ (row_lt Bk.out)).trans Bk.out); have Ac := Lib.hid ((bc.block _ (row_lt Ak.out)).trans Ak.out); have Ec := Lib.hid ((bc.block _ (row_lt Ek.out)).trans Ek.out); have Wc := Lib.hid ((bc.block _ (row_lt Wk.out)).trans Wk.out); have Lc := Lib.hid (Lk.out.below bc (Nat.le_refl _)); have GAc := Lib.hid (GAk.out.below bc (Nat.le_refl _)); have GBc := Lib.hid (GBk.out.below bc (Nat.le_refl _)); have GWc := Lib.hid (GWk.out.below bc (Nat.le_refl _)); have HFc : Hid (∀ x, ga = some x → x.block < w6.heap.size ∧ ∃ cs t, wc.heap[x.block]? = some (.cells cs t (0, 0))) := (fun x hx => by obtain ⟨e1, cs, t, e2⟩ := HFk.out x hx; exact ⟨e1, cs, t, (bc.block _ (row_lt e2)).trans e2⟩); obtain ⟨xc0, xc1, xc2, xc3, xc4, xc5, xc6, xc7, xc8⟩ := nine_cells Xc.out; obtain ⟨yc0, yc1, yc2, yc3, yc4, yc5, yc6, yc7, yc8⟩ := nine_cells Bc.out; obtain ⟨zc0, zc1, zc2, zc3, zc4, zc5, zc6, zc7, zc8⟩ := nine_cells Ac.out; obtain ⟨tc0, tc1, tc2, tc3, tc4, tc5, tc6, tc7, tc8⟩ := nine_cells Wc.out; have Dc := Lib.hid (Dk.out.trans (bc.mono Dk.out.size)); clear bc)))
  all_goals
    clear x0 x1 x2 x3 x4 x5 x6 x7 x8 y0 y1 y2 y3 y4 y5 y6 y7 y8 z0 z1 z2 z3 z4 z5 z6 z7 z8 t0 t1 t2 t3 t4 t5 t6 t7 t8 xa0 xa1 xa2 xa3 xa4 xa5 xa6 xa7 xa8 ya0 ya1 ya2 ya3 ya4 ya5 ya6 ya7 ya8 za0 za1 za2 za3 za4 za5 za6 za7 za8 ta0 ta1 ta2 ta3 ta4 ta5 ta6 ta7 ta8 xb0 xb1 xb2 xb3 xb4 xb5 xb6 xb7 xb8 yb0 yb1 yb2 yb3 yb4 yb5 yb6 yb7 yb8 zb0 zb1 zb2 zb3 zb4 zb5 zb6 zb7 zb8 tb0 tb1 tb2 tb3 tb4 tb5 tb6 tb7 tb8 xc0 xc1 xc2 xc3 xc4 xc5 xc6 xc7 xc8 yc0 yc1 yc2 yc3 yc4 yc5 yc6 yc7 yc8 tc0 tc1 tc2 tc3 tc4 tc5 tc6 tc7 tc8
    go_wp2_with fail
    refine (spoilInts_any _ ga gacap gcycle GAc.out (by omega) (fun x hx => by have := HGX.out x hx; omega) (fun x hx => (HFc.out x hx).2)).mono ?_
    rintro e ws ⟨rfl, fs⟩
    have Es := Lib.hid ((fs.block _ (row_lt Ec.out) (fun ⟨y, hy, e⟩ => by have := (HFc.out y hy).1; omega)).trans Ec.out)
    have Ws := Lib.hid ((fs.block _ (row_lt Wc.out) (fun ⟨y, hy, e⟩ => by have := (HFc.out y hy).1; omega)).trans Wc.out)
    have GBs := Lib.hid (GBc.out.fr fs (fun x hx ⟨y, hy, e⟩ => by have h1 := (HFc.out y hy).1; have h2 := (Q8.out x hx).1; simp only [World.size_alloc] at h2; omega))
    have GWs := Lib.hid (GWc.out.fr fs (fun x hx ⟨y, hy, e⟩ => by have h1 := (HFc.out y hy).1; have h2 := (Q10.out x hx).1; simp only [World.size_alloc] at h2; omega))
    have Ds := Lib.hid (below_fr Dc.out (Nat.le_refl _) fs (fun k ⟨y, hy, e⟩ => by have h1 := (Q6.out y hy).1; omega))
    clear fs zc0 zc1 zc2 zc3 zc4 zc5 zc6 zc7 zc8
    obtain ⟨x0, x1, x2, x3, x4, x5, x6, x7, x8⟩ := nine_cells Es.out
    obtain ⟨y0, y1, y2, y3, y4, y5, y6, y7, y8⟩ := nine_cells Ws.out
    go_wp2_with fail
    refine (HSAME.out _ _ _ _ _ (by exact GBs.out) (by exact GWs.out)).mono ?_
    rintro e wt ⟨rfl, bt⟩
    have Dt := Lib.hid (Ds.out.trans (bt.mono Ds.out.size))
    clear bt x0 x1 x2 x3 x4 x5 x6 x7 x8 y0 y1 y2 y3 y4 y5 y6 y7 y8
    go_wp2_with fail
    refine (HA.out _).mono ?_
    rintro e wu ⟨rfl, bu⟩
    have Du := Lib.hid (Dt.out.trans (bu.mono Dt.out.size))
    clear bu
    go_wp2_with fail
    go_ret
    exact ⟨rfl, Du.out⟩
end Go.Proofs.Ytadfgadkihlmcaa
