/- Layer 3: the walk of the law ParamsPps, told that the program's ranges and its GetSps answer as they should. -/
import Derived.Test.YtadfgadkihlmcaaQR
import Derived.Deep.RegionHeld3
namespace Go.Proofs.Ytadfgadkihlmcaa
open Go.RowKit Zo Zp

theorem nine_cells {w : World} {b : Nat} {a0 a1 a2 a3 a4 a5 a6 a7 a8 : Value} {t : TypeId} (h : w.heap[b]? = some (.cells #[a0, a1, a2, a3, a4, a5, a6, a7, a8] t (0, 0))) :
    w.cell? ⟨b, 0, none⟩ = some a0 ∧ w.cell? ⟨b, 1, none⟩ = some a1 ∧ w.cell? ⟨b, 2, none⟩ = some a2 ∧ w.cell? ⟨b, 3, none⟩ = some a3 ∧ w.cell? ⟨b, 4, none⟩ = some a4 ∧ w.cell? ⟨b, 5, none⟩ = some a5 ∧ w.cell? ⟨b, 6, none⟩ = some a6 ∧ w.cell? ⟨b, 7, none⟩ = some a7 ∧ w.cell? ⟨b, 8, none⟩ = some a8 := by
  refine ⟨?_, ?_, ?_, ?_, ?_, ?_, ?_, ?_, ?_⟩ <;> (rw [cell_of_row _ _ _ _ _ _ h]; rfl)

set_option maxRecDepth 100000 in
set_option maxHeartbeats 8000000 in
theorem paramsPps_at (HS : MaySpsOk) (HP : MayPpsOk) (HG : GetSpsOk) (p : PpsN) (s : ByteArray) (w : World) (hs : s.size ≤ 1048576) :
    Calls Try.prog 4 #[ppsV p, .string s] w fun e w' => e = .returned (.bool true) ∧ Below w.heap.size w w' := by
  have hput := fun w1 => putPps_any HP w1 p
  have hput2 := fun w1 => refPutPps_any w1 p
  have hget := fun w1 => getPps_any HP s w1 hs
  have hget2 := fun w1 => refGetPps_any s w1 hs
  have hm := fun w1 => HP p w1
  have hm2 := fun w1 => refMayPps_any w1 p
  generalize gotPps (bitAt s) (8 * s.size) = got at *
  obtain ⟨⟨gc, gw, gb, gq, gh, gs, gd, g0, g1⟩, gcode⟩ := got
  unfold StrPut at hput hput2
  unfold PPost at hget hget2
  obtain ⟨u, hu⟩ : ∃ u, bstr (putPpsAns p).1 = u := ⟨_, rfl⟩
  obtain ⟨c, hc⟩ : ∃ c, (putPpsAns p).2 = c := ⟨_, rfl⟩
  obtain ⟨m, hmm⟩ : ∃ m, decide p.may = m := ⟨_, rfl⟩
  simp only [hu, hc, hmm] at hput hput2 hm hm2
  obtain ⟨cabac, weighted, bipred, qp, chroma, constrained, deblock, act0, act1⟩ := p
  unfold ppsV at *
  simp only at hput hput2 hget hget2 hm hm2
  have HPUT := Lib.hid hput
  have HPUT2 := Lib.hid hput2
  have HGET := Lib.hid hget
  have HGET2 := Lib.hid hget2
  have HM := Lib.hid hm
  have HM2 := Lib.hid hm2
  have HA := Lib.hid (awake3 HS HP HG)
  clear hput hput2 hget hget2 hm hm2 hu hc hmm
  have X0 := Lib.hid (heap_alloc_last w (.cells #[.bool cabac, .bool weighted, .int .i64 bipred, .int .i64 qp, .int .i64 chroma, .bool constrained, .bool deblock, .int .i64 act0, .int .i64 act1] 43))
  have D0 := Lib.hid ((Below.refl w.heap.size w).alloc (Nat.le_refl _) (.cells #[.bool cabac, .bool weighted, .int .i64 bipred, .int .i64 qp, .int .i64 chroma, .bool constrained, .bool deblock, .int .i64 act0, .int .i64 act1] 43))
  go_enter Try.func4, Try.ntmps4
  go_wp2_with fail
  refine (HPUT.out _).mono ?_
  rintro e w1 ⟨rfl, b1⟩
  have X1 := Lib.hid ((b1.block _ (by simp)).trans X0.out)
  have D1 := Lib.hid (D0.out.trans (b1.mono (by simp)))
  clear b1 X0 D0
  obtain ⟨x0, x1, x2, x3, x4, x5, x6, x7, x8⟩ := nine_cells X1.out
  go_wp2_with fail
  refine (HPUT2.out _).mono ?_
  rintro e w2 ⟨rfl, b2⟩
  have X2 := Lib.hid ((b2.block _ (row_lt X1.out)).trans X1.out)
  have D2 := Lib.hid (D1.out.trans (b2.mono D1.out.size))
  clear x0 x1 x2 x3 x4 x5 x6 x7 x8
  clear b2 X1 D1
  go_wp2_with fail
  refine (HGET.out _).mono ?_
  rintro e w3 ⟨rfl, b3⟩
  have X3 := Lib.hid ((b3.block _ (row_lt X2.out)).trans X2.out)
  have D3 := Lib.hid (D2.out.trans (b3.mono D2.out.size))
  clear b3 X2 D2
  have X4 := Lib.hid ((heap_alloc_other (o := .cells #[.bool gc, .bool gw, .int .i64 gb, .int .i64 gq, .int .i64 gh, .bool gs, .bool gd, .int .i64 g0, .int .i64 g1] 43) (row_lt X3.out)).trans X3.out)
  have Y4 := Lib.hid (heap_alloc_last w3 (.cells #[.bool gc, .bool gw, .int .i64 gb, .int .i64 gq, .int .i64 gh, .bool gs, .bool gd, .int .i64 g0, .int .i64 g1] 43))
  have D4 := Lib.hid (D3.out.alloc D3.out.size (.cells #[.bool gc, .bool gw, .int .i64 gb, .int .i64 gq, .int .i64 gh, .bool gs, .bool gd, .int .i64 g0, .int .i64 g1] 43))
  clear X3 D3
  go_wp2_with fail
  refine (HGET2.out _).mono ?_
  rintro e w5 ⟨rfl, b5⟩
  have X5 := Lib.hid ((b5.block _ (row_lt X4.out)).trans X4.out)
  have Y5 := Lib.hid ((b5.block _ (row_lt Y4.out)).trans Y4.out)
  have D5 := Lib.hid (D4.out.trans (b5.mono D4.out.size))
  clear b5 X4 Y4 D4
  have X6 := Lib.hid ((heap_alloc_other (o := .cells #[.bool gc, .bool gw, .int .i64 gb, .int .i64 gq, .int .i64 gh, .bool gs, .bool gd, .int .i64 g0, .int .i64 g1] 43) (row_lt X5.out)).trans X5.out)
  have Y6 := Lib.hid ((heap_alloc_other (o := .cells #[.bool gc, .bool gw, .int .i64 gb, .int .i64 gq, .int .i64 gh, .bool gs, .bool gd, .int .i64 g0, .int .i64 g1] 43) (row_lt Y5.out)).trans Y5.out)
  have Z6 := Lib.hid (heap_alloc_last w5 (.cells #[.bool gc, .bool gw, .int .i64 gb, .int .i64 gq, .int .i64 gh, .bool gs, .bool gd, .int .i64 g0, .int .i64 g1] 43))
  have D6 := Lib.hid (drew_below (D5.out.alloc D5.out.size (.cells #[.bool gc, .bool gw, .int .i64 gb, .int .i64 gq, .int .i64 gh, .bool gs, .bool gd, .int .i64 g0, .int .i64 g1] 43)))
  clear X5 Y5 D5
  obtain ⟨x0, x1, x2, x3, x4, x5, x6, x7, x8⟩ := nine_cells X6.out
  obtain ⟨y0, y1, y2, y3, y4, y5, y6, y7, y8⟩ := nine_cells Y6.out
  obtain ⟨z0, z1, z2, z3, z4, z5, z6, z7, z8⟩ := nine_cells Z6.out
  go_upto_region 5 with fail
  go_region_held3 (fun w' => w'.cell? ⟨w.heap.size, 0, none⟩ = some (.bool cabac) ∧ w'.cell? ⟨w.heap.size, 1, none⟩ = some (.bool weighted) ∧ w'.cell? ⟨w.heap.size, 2, none⟩ = some (.int .i64 bipred) ∧ w'.cell? ⟨w.heap.size, 3, none⟩ = some (.int .i64 qp) ∧ w'.cell? ⟨w.heap.size, 4, none⟩ = some (.int .i64 chroma) ∧ w'.cell? ⟨w.heap.size, 5, none⟩ = some (.bool constrained) ∧ w'.cell? ⟨w.heap.size, 6, none⟩ = some (.bool deblock) ∧ w'.cell? ⟨w.heap.size, 7, none⟩ = some (.int .i64 act0) ∧ w'.cell? ⟨w.heap.size, 8, none⟩ = some (.int .i64 act1) ∧ w'.cell? ⟨w3.heap.size, 0, none⟩ = some (.bool gc) ∧ w'.cell? ⟨w3.heap.size, 1, none⟩ = some (.bool gw) ∧ w'.cell? ⟨w3.heap.size, 2, none⟩ = some (.int .i64 gb) ∧ w'.cell? ⟨w3.heap.size, 3, none⟩ = some (.int .i64 gq) ∧ w'.cell? ⟨w3.heap.size, 4, none⟩ = some (.int .i64 gh) ∧ w'.cell? ⟨w3.heap.size, 5, none⟩ = some (.bool gs) ∧ w'.cell? ⟨w3.heap.size, 6, none⟩ = some (.bool gd) ∧ w'.cell? ⟨w3.heap.size, 7, none⟩ = some (.int .i64 g0) ∧ w'.cell? ⟨w3.heap.size, 8, none⟩ = some (.int .i64 g1) ∧ w'.cell? ⟨w5.heap.size, 0, none⟩ = some (.bool gc) ∧ w'.cell? ⟨w5.heap.size, 1, none⟩ = some (.bool gw) ∧ w'.cell? ⟨w5.heap.size, 2, none⟩ = some (.int .i64 gb) ∧ w'.cell? ⟨w5.heap.size, 3, none⟩ = some (.int .i64 gq) ∧ w'.cell? ⟨w5.heap.size, 4, none⟩ = some (.int .i64 gh) ∧ w'.cell? ⟨w5.heap.size, 5, none⟩ = some (.bool gs) ∧ w'.cell? ⟨w5.heap.size, 6, none⟩ = some (.bool gd) ∧ w'.cell? ⟨w5.heap.size, 7, none⟩ = some (.int .i64 g0) ∧ w'.cell? ⟨w5.heap.size, 8, none⟩ = some (.int .i64 g1)) (first | exact ⟨x0, x1, x2, x3, x4, x5, x6, x7, x8, y0, y1, y2, y3, y4, y5, y6, y7, y8, z0, z1, z2, z3, z4, z5, z6, z7, z8⟩ | exact ⟨xa0, xa1, xa2, xa3, xa4, xa5, xa6, xa7, xa8, ya0, ya1, ya2, ya3, ya4, ya5, ya6, ya7, ya8, za0, za1, za2, za3, za4, za5, za6, za7, za8⟩ | exact ⟨xb0, xb1, xb2, xb3, xb4, xb5, xb6, xb7, xb8, yb0, yb1, yb2, yb3, yb4, yb5, yb6, yb7, yb8, zb0, zb1, zb2, zb3, zb4, zb5, zb6, zb7, zb8⟩ | exact ⟨xc0, xc1, xc2, xc3, xc4, xc5, xc6, xc7, xc8, yc0, yc1, yc2, yc3, yc4, yc5, yc6, yc7, yc8, zc0, zc1, zc2, zc3, zc4, zc5, zc6, zc7, zc8⟩) ((first
    | (go_at_call 26; refine (HM.out _).mono ?_; rintro e wa ⟨rfl, ba⟩; have Xa := Lib.hid ((ba.block _ (row_lt X6.out)).trans X6.out); have Ya := Lib.hid ((ba.block _ (row_lt Y6.out)).trans Y6.out); have Za := Lib.hid ((ba.block _ (row_lt Z6.out)).trans Z6.out); obtain ⟨xa0, xa1, xa2, xa3, xa4, xa5, xa6, xa7, xa8⟩ := nine_cells Xa.out; obtain ⟨ya0, ya1, ya2, ya3, ya4, ya5, ya6, ya7, ya8⟩ := nine_cells Ya.out; obtain ⟨za0, za1, za2, za3, za4, za5, za6, za7, za8⟩ := nine_cells Za.out; have Da := Lib.hid (D6.out.trans (ba.mono D6.out.size)); clear ba)
    | (go_at_call 27; refine (HM2.out _).mono ?_; rintro e wb ⟨rfl, bb⟩; have Xb := Lib.hid ((bb.block _ (row_lt Xa.out)).trans Xa.out); have Yb := Lib.hid ((bb.block _ (row_lt Ya.out)).trans Ya.out); have Zb := Lib.hid ((bb.block _ (row_lt Za.out)).trans Za.out); obtain ⟨xb0, xb1, xb2, xb3, xb4, xb5, xb6, xb7, xb8⟩ := nine_cells Xb.out; obtain ⟨yb0, yb1, yb2, yb3, yb4, yb5, yb6, yb7, yb8⟩ := nine_cells Yb.out; obtain ⟨zb0, zb1, zb2, zb3, zb4, zb5, zb6, zb7, zb8⟩ := nine_cells Zb.out; have Db := Lib.hid (Da.out.trans (bb.mono Da.out.size)); clear bb)
    | (go_at_call 17; refine (num_is _ _).mono ?_; rintro e w' ⟨rfl, rfl⟩)
    | (go_at_call 21; refine (HA.out _).mono ?_; rintro e wc ⟨rfl, bc⟩; have Xc := Lib.hid ((bc.block _ (row_lt Xb.out)).trans Xb.out); have Yc := Lib.hid ((bc.block _ (row_lt Yb.out)).trans Yb.out); have Zc := Lib.hid ((bc.block _ (row_lt Zb.out)).trans Zb.out); obtain ⟨xc0, xc1, xc2, xc3, xc4, xc5, xc6, xc7, xc8⟩ := nine_cells Xc.out; obtain ⟨yc0, yc1, yc2, yc3, yc4, yc5, yc6, yc7, yc8⟩ := nine_cells Yc.out; obtain ⟨zc0, zc1, zc2, zc3, zc4, zc5, zc6, zc7, zc8⟩ := nine_cells Zc.out; have Dc := Lib.hid (Db.out.trans (bc.mono Db.out.size)); clear bc)))
  all_goals
    go_wp2_with fail
    go_ret
    exact ⟨rfl, Dc.out⟩
end Go.Proofs.Ytadfgadkihlmcaa
