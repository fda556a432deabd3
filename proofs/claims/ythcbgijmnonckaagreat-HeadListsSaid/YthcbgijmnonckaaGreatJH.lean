/- Layer 4: the walk, whichever way: an operation, a weight. -/
import Derived.Test.YthcbgijmnonckaaGreatJG
namespace Go.Proofs.YthcbgijmnonckaaGreat
open Go.RowKit Zo Zp
set_option linter.unusedVariables false

section
variable {σ : Type} {C : Ctx} {F : WayFns σ} {fuel : σ → Nat} {way : World → σ → Prop}

set_option maxRecDepth 100000 in
theorem op_any (ok : WayOk C F fuel way) (w : World) (n : Nat) (s : Ws σ) (b o : Nat) (m : OpN) (hst : St C fuel way (n + 3) w s) (c0 : Cell C w b o (.int .i64 m.kind)) (c1 : Cell C w b (o + 1) (.int .i64 m.a)) (c2 : Cell C w b (o + 2) (.int .i64 m.b)) :
    Calls Tryz.prog 116 #[.pointer (some ⟨C.kb, 0, none⟩), .pointer (some ⟨b, o, none⟩)] w fun e w' =>
      e = .returned (.tuple #[]) ∧ St C fuel way n w' (fOp F m s).2 ∧ Did C w b (fun q => o ≤ q ∧ q < o + 3) w' ∧ Cell C w' b o (.int .i64 (fOp F m s).1.kind) ∧ Cell C w' b (o + 1) (.int .i64 (fOp F m s).1.a) ∧ Cell C w' b (o + 2) (.int .i64 (fOp F m s).1.b) := by
  obtain ⟨kind, xa, xb⟩ := m
  have OK := Lib.hid ok
  have C0 := Lib.hid c0
  have C1 := Lib.hid c1
  have C2 := Lib.hid c2
  have S0 := Lib.hid hst
  obtain ⟨r1, hr1⟩ : ∃ r, fUe F kind 0 s = r := ⟨_, rfl⟩
  obtain ⟨t2, ht2⟩ : ∃ t, fAsk (anyKind r1.1) r1.2 = t := ⟨_, rfl⟩
  obtain ⟨r3, hr3⟩ : ∃ r, (if anyA r1.1 = true then fUe F xa 0 t2 else (xa, t2)) = r := ⟨_, rfl⟩
  obtain ⟨r4, hr4⟩ : ∃ r, (if anyB r1.1 = true then fUe F xb 0 r3.2 else (xb, r3.2)) = r := ⟨_, rfl⟩
  have E : fOp F ⟨kind, xa, xb⟩ s = (⟨r1.1, r3.1, r4.1⟩, r4.2) := by
    simp only [fOp]
    rw [hr1, ht2, hr3, hr4]
  rw [E]
  have U1 := Lib.hid (OK.out.ue w (n + 2) s b o kind 0 S0.out C0.out (by omega) (by omega))
  rw [hr1] at U1
  obtain ⟨ka, hka⟩ : ∃ x, anyKind r1.1 = x := ⟨_, rfl⟩
  obtain ⟨fa, hfa⟩ : ∃ x, anyA r1.1 = x := ⟨_, rfl⟩
  obtain ⟨fb, hfb⟩ : ∃ x, anyB r1.1 = x := ⟨_, rfl⟩
  have o1 : ∀ w : World, Calls Tryz.prog 128 #[.int .i64 r1.1] w fun e w' => e = .returned (.tuple #[.bool (anyA r1.1), .bool (anyB r1.1)]) ∧ w = w' := fun w => operands_all w r1.1
  have k1 : ∀ w : World, Calls Tryz.prog 129 #[.int .i64 r1.1] w fun e w' => e = .returned (.bool (anyKind r1.1)) ∧ w = w' := fun w => mayKind_any w r1.1
  rw [hka] at ht2 k1
  rw [hfa] at hr3 o1
  rw [hfb] at hr4 o1
  have K1 := Lib.hid k1
  have O1 := Lib.hid o1
  clear ok c0 c1 c2 hst E hr1 hka hfa hfb k1 o1
  obtain ⟨k1, s1⟩ := r1
  simp only at ht2 O1 K1 U1 ⊢
  have HT2 := Lib.hid ht2
  have HR3 := Lib.hid hr3
  have HR4 := Lib.hid hr4
  clear ht2 hr3 hr4
  go_enter Tryz.func116, Tryz.ntmps116
  go_wp2_with fail
  refine U1.out.mono ?_
  rintro e w1 ⟨rfl, s1, p1⟩
  have S1 := Lib.hid s1
  have P1 := Lib.hid p1
  have g1 := p1.cell.cell
  clear s1 p1
  go_wp2_with fail
  refine (K1.out _).mono ?_
  rintro e w' ⟨rfl, rfl⟩
  go_wp2_with fail
  refine (ask_any OK.out _ (n + 2) _ ka S1.out).mono ?_
  rintro e w2 ⟨rfl, s2, f2⟩
  rw [HT2.out] at s2
  have S2 := Lib.hid s2
  have A0 := Lib.hid (P1.out.cell.stay f2)
  have A1 := Lib.hid ((C1.out.step P1.out (by omega)).stay f2)
  have A2 := Lib.hid ((C2.out.step P1.out (by omega)).stay f2)
  have D2 := Lib.hid ((Did.of1 (K := fun q => o ≤ q ∧ q < o + 3) P1.out ⟨by omega, by omega⟩).fr1 P1.out.cell f2)
  have g2 := A0.out.cell
  clear s2 f2 g1
  go_wp2_with fail
  refine (O1.out _).mono ?_
  rintro e w' ⟨rfl, rfl⟩
  cases fa <;> cases fb
  · go_wp2_with fail
    have q3 : (xa, t2) = r3 := HR3.out
    have S3 := Lib.hid (show St C fuel way (n + 1) w2 r3.2 from by rw [← q3]; exact S2.out.less (by omega))
    have D3 := D2
    have B0 := A0
    have B1 := Lib.hid (show Cell C w2 b (o + 1) (.int .i64 r3.1) from by rw [← q3]; exact A1.out)
    have B2 := A2
    clear q3
    have q4 : (xb, r3.2) = r4 := HR4.out
    have S4 := Lib.hid (show St C fuel way n _ r4.2 from by rw [← q4]; exact S3.out.less (by omega))
    have D4 := D3
    have E0 := B0
    have E1 := B1
    have E2 := Lib.hid (show Cell C _ b (o + 2) (.int .i64 r4.1) from by rw [← q4]; exact B2.out)
    clear q4
    go_end0
    exact ⟨rfl, S4.out, D4.out, E0.out, E1.out, E2.out⟩
  · go_wp2_with fail
    have q3 : (xa, t2) = r3 := HR3.out
    have S3 := Lib.hid (show St C fuel way (n + 1) w2 r3.2 from by rw [← q3]; exact S2.out.less (by omega))
    have D3 := D2
    have B0 := A0
    have B1 := Lib.hid (show Cell C w2 b (o + 1) (.int .i64 r3.1) from by rw [← q3]; exact A1.out)
    have B2 := A2
    clear q3
    refine (OK.out.ue _ n _ b (o + 2) xb 0 S3.out B2.out (by omega) (by omega)).mono ?_
    rintro e w4 ⟨rfl, s4, p4⟩
    rw [show fUe F xb 0 r3.2 = r4 from HR4.out] at s4 p4
    have S4 := Lib.hid s4
    have D4 := Lib.hid (D3.out.next p4 ⟨by omega, by omega⟩)
    have E0 := Lib.hid (B0.out.step p4 (by omega))
    have E1 := Lib.hid (B1.out.step p4 (by omega))
    have E2 := Lib.hid p4.cell
    clear s4 p4
    go_wp2_with fail
    go_end0
    exact ⟨rfl, S4.out, D4.out, E0.out, E1.out, E2.out⟩
  · go_wp2_with fail
    refine (OK.out.ue _ (n + 1) _ b (o + 1) xa 0 S2.out A1.out (by omega) (by omega)).mono ?_
    rintro e w3 ⟨rfl, s3, p3⟩
    rw [show fUe F xa 0 t2 = r3 from HR3.out] at s3 p3
    have S3 := Lib.hid s3
    have D3 := Lib.hid (D2.out.next p3 ⟨by omega, by omega⟩)
    have B0 := Lib.hid (A0.out.step p3 (by omega))
    have B1 := Lib.hid p3.cell
    have B2 := Lib.hid (A2.out.step p3 (by omega))
    clear s3 p3
    go_wp2_with fail
    have q4 : (xb, r3.2) = r4 := HR4.out
    have S4 := Lib.hid (show St C fuel way n _ r4.2 from by rw [← q4]; exact S3.out.less (by omega))
    have D4 := D3
    have E0 := B0
    have E1 := B1
    have E2 := Lib.hid (show Cell C _ b (o + 2) (.int .i64 r4.1) from by rw [← q4]; exact B2.out)
    clear q4
    go_end0
    exact ⟨rfl, S4.out, D4.out, E0.out, E1.out, E2.out⟩
  · go_wp2_with fail
    refine (OK.out.ue _ (n + 1) _ b (o + 1) xa 0 S2.out A1.out (by omega) (by omega)).mono ?_
    rintro e w3 ⟨rfl, s3, p3⟩
    rw [show fUe F xa 0 t2 = r3 from HR3.out] at s3 p3
    have S3 := Lib.hid s3
    have D3 := Lib.hid (D2.out.next p3 ⟨by omega, by omega⟩)
    have B0 := Lib.hid (A0.out.step p3 (by omega))
    have B1 := Lib.hid p3.cell
    have B2 := Lib.hid (A2.out.step p3 (by omega))
    clear s3 p3
    go_wp2_with fail
    refine (OK.out.ue _ n _ b (o + 2) xb 0 S3.out B2.out (by omega) (by omega)).mono ?_
    rintro e w4 ⟨rfl, s4, p4⟩
    rw [show fUe F xb 0 r3.2 = r4 from HR4.out] at s4 p4
    have S4 := Lib.hid s4
    have D4 := Lib.hid (D3.out.next p4 ⟨by omega, by omega⟩)
    have E0 := Lib.hid (B0.out.step p4 (by omega))
    have E1 := Lib.hid (B1.out.step p4 (by omega))
    have E2 := Lib.hid p4.cell
    clear s4 p4
    go_wp2_with fail
    go_end0
    exact ⟨rfl, S4.out, D4.out, E0.out, E1.out, E2.out⟩

/-- The six cells of a weight. -/
structure Six (C : Ctx) (w : World) (b o : Nat) (m : WeightN) : Prop where
  c0 : Cell C w b o (.int .i64 m.s0)
  c1 : Cell C w b (o + 1) (.int .i64 m.s1)
  c2 : Cell C w b (o + 2) (.int .i64 m.s2)
  c3 : Cell C w b (o + 3) (.int .i64 m.o0)
  c4 : Cell C w b (o + 4) (.int .i64 m.o1)
  c5 : Cell C w b (o + 5) (.int .i64 m.o2)

set_option maxRecDepth 100000 in
theorem weight_any (ok : WayOk C F fuel way) (w : World) (n : Nat) (s : Ws σ) (b o : Nat) (m : WeightN) (hst : St C fuel way (n + 6) w s) (c : Six C w b o m) :
    Calls Tryz.prog 114 #[.pointer (some ⟨C.kb, 0, none⟩), .pointer (some ⟨b, o, none⟩)] w fun e w' =>
      e = .returned (.tuple #[]) ∧ St C fuel way n w' (fWeight F m s).2 ∧ Did C w b (fun q => o ≤ q ∧ q < o + 6) w' ∧ Six C w' b o (fWeight F m s).1 := by
  have OK := Lib.hid ok
  have C0 := Lib.hid c
  have S0 := Lib.hid hst
  have D0 := Lib.hid (⟨Fr.refl _ _, fun _ _ => rfl, c.c0.safe⟩ : Did C w b (fun q => o ≤ q ∧ q < o + 6) w)
  obtain ⟨r, hr⟩ : ∃ r, fWeight F m s = r := ⟨_, rfl⟩
  have R0 := Lib.hid ((fPairs_all F m s).trans hr)
  rw [hr]
  clear ok c hst hr
  go_enter Tryz.func114, Tryz.ntmps114
  go_wp2_with fail
  go_loopg [5] 3 (fun q i wr => ∃ (j : Nat) (m' : WeightN) (s' : Ws σ), j + q = 3 ∧ i = .int .i64 (j : Int) ∧ Hid (St C fuel way (n + 2 * q) wr s') ∧ Hid (Did C w b (fun q => o ≤ q ∧ q < o + 6) wr) ∧ Hid (Six C wr b o m') ∧ Hid (fPairs F q m' s' = r))
  case atStart => exact ⟨0, m, s, by omega, rfl, S0, D0, C0, R0⟩
  case round =>
    obtain ⟨j, m', s', hq, rfl, S1, D1, C1, R1⟩ := hrel
    obtain ⟨x0, x1, x2, y0, y1, y2⟩ := m'
    rcases (show j = 0 ∨ j = 1 ∨ j = 2 ∨ j = 3 by omega) with rfl | rfl | rfl | rfl
    · obtain rfl : gk = 3 := by omega
      obtain ⟨rx, hrx⟩ : ∃ z, fSe F x0 s' = z := ⟨_, rfl⟩
      obtain ⟨ry, hry⟩ : ∃ z, fSe F y0 rx.2 = z := ⟨_, rfl⟩
      have R2 := Lib.hid (show fPairs F 2 ⟨rx.1, x1, x2, ry.1, y1, y2⟩ ry.2 = r from by rw [← hry, ← hrx]; exact R1.out)
      have HX := Lib.hid hrx
      have HY := Lib.hid hry
      have T1 := Lib.hid (S1.out.less (show n + 2 * 2 + 1 + 1 ≤ n + 2 * 3 by omega))
      clear hrx hry R1
      go_wp2_with fail
      refine (OK.out.se _ (n + 2 * 2 + 1) s' b (o + 0) x0 T1.out C1.out.c0).mono ?_
      rintro e w1 ⟨rfl, s1, p1⟩
      rw [HX.out] at s1 p1
      have S2 := Lib.hid s1
      have P1 := Lib.hid p1
      clear s1 p1
      go_wp2_with fail
      refine (OK.out.se _ (n + 2 * 2) rx.2 b (o + 3 + 0) y0 S2.out (C1.out.c3.step P1.out (by omega))).mono ?_
      rintro e w2 ⟨rfl, s2, p2⟩
      rw [HY.out] at s2 p2
      have S3 := Lib.hid s2
      have P2 := Lib.hid p2
      clear s2 p2
      go_wp2_with fail
      go_roundg 2
      case measure => omega
      case rel => exact ⟨1, ⟨rx.1, x1, x2, ry.1, y1, y2⟩, ry.2, by omega, by go_num, S3, Lib.hid ((D1.out.next P1.out ⟨by omega, by omega⟩).next P2.out ⟨by omega, by omega⟩), Lib.hid ⟨P1.out.cell.step P2.out (by omega), (C1.out.c1.step P1.out (by omega)).step P2.out (by omega), (C1.out.c2.step P1.out (by omega)).step P2.out (by omega), P2.out.cell, (C1.out.c4.step P1.out (by omega)).step P2.out (by omega), (C1.out.c5.step P1.out (by omega)).step P2.out (by omega)⟩, R2⟩
    · obtain rfl : gk = 2 := by omega
      obtain ⟨rx, hrx⟩ : ∃ z, fSe F x1 s' = z := ⟨_, rfl⟩
      obtain ⟨ry, hry⟩ : ∃ z, fSe F y1 rx.2 = z := ⟨_, rfl⟩
      have R2 := Lib.hid (show fPairs F 1 ⟨x0, rx.1, x2, y0, ry.1, y2⟩ ry.2 = r from by rw [← hry, ← hrx]; exact R1.out)
      have HX := Lib.hid hrx
      have HY := Lib.hid hry
      have T1 := Lib.hid (S1.out.less (show n + 2 * 1 + 1 + 1 ≤ n + 2 * 2 by omega))
      clear hrx hry R1
      go_wp2_with fail
      refine (OK.out.se _ (n + 2 * 1 + 1) s' b (o + 1) x1 T1.out C1.out.c1).mono ?_
      rintro e w1 ⟨rfl, s1, p1⟩
      rw [HX.out] at s1 p1
      have S2 := Lib.hid s1
      have P1 := Lib.hid p1
      clear s1 p1
      go_wp2_with fail
      refine (OK.out.se _ (n + 2 * 1) rx.2 b (o + 3 + 1) y1 S2.out (C1.out.c4.step P1.out (by omega))).mono ?_
      rintro e w2 ⟨rfl, s2, p2⟩
      rw [HY.out] at s2 p2
      have S3 := Lib.hid s2
      have P2 := Lib.hid p2
      clear s2 p2
      go_wp2_with fail
      go_roundg 1
      case measure => omega
      case rel => exact ⟨2, ⟨x0, rx.1, x2, y0, ry.1, y2⟩, ry.2, by omega, by go_num, S3, Lib.hid ((D1.out.next P1.out ⟨by omega, by omega⟩).next P2.out ⟨by omega, by omega⟩), Lib.hid ⟨(C1.out.c0.step P1.out (by omega)).step P2.out (by omega), P1.out.cell.step P2.out (by omega), (C1.out.c2.step P1.out (by omega)).step P2.out (by omega), (C1.out.c3.step P1.out (by omega)).step P2.out (by omega), P2.out.cell, (C1.out.c5.step P1.out (by omega)).step P2.out (by omega)⟩, R2⟩
    · obtain rfl : gk = 1 := by omega
      obtain ⟨rx, hrx⟩ : ∃ z, fSe F x2 s' = z := ⟨_, rfl⟩
      obtain ⟨ry, hry⟩ : ∃ z, fSe F y2 rx.2 = z := ⟨_, rfl⟩
      have R2 := Lib.hid (show fPairs F 0 ⟨x0, x1, rx.1, y0, y1, ry.1⟩ ry.2 = r from by rw [← hry, ← hrx]; exact R1.out)
      have HX := Lib.hid hrx
      have HY := Lib.hid hry
      have T1 := Lib.hid (S1.out.less (show n + 2 * 0 + 1 + 1 ≤ n + 2 * 1 by omega))
      clear hrx hry R1
      go_wp2_with fail
      refine (OK.out.se _ (n + 2 * 0 + 1) s' b (o + 2) x2 T1.out C1.out.c2).mono ?_
      rintro e w1 ⟨rfl, s1, p1⟩
      rw [HX.out] at s1 p1
      have S2 := Lib.hid s1
      have P1 := Lib.hid p1
      clear s1 p1
      go_wp2_with fail
      refine (OK.out.se _ (n + 2 * 0) rx.2 b (o + 3 + 2) y2 S2.out (C1.out.c5.step P1.out (by omega))).mono ?_
      rintro e w2 ⟨rfl, s2, p2⟩
      rw [HY.out] at s2 p2
      have S3 := Lib.hid s2
      have P2 := Lib.hid p2
      clear s2 p2
      go_wp2_with fail
      go_roundg 0
      case measure => omega
      case rel => exact ⟨3, ⟨x0, x1, rx.1, y0, y1, ry.1⟩, ry.2, by omega, by go_num, S3, Lib.hid ((D1.out.next P1.out ⟨by omega, by omega⟩).next P2.out ⟨by omega, by omega⟩), Lib.hid ⟨(C1.out.c0.step P1.out (by omega)).step P2.out (by omega), (C1.out.c1.step P1.out (by omega)).step P2.out (by omega), P1.out.cell.step P2.out (by omega), (C1.out.c3.step P1.out (by omega)).step P2.out (by omega), (C1.out.c4.step P1.out (by omega)).step P2.out (by omega), P2.out.cell⟩, R2⟩
    · obtain rfl : gk = 0 := by omega
      have R2 : ((⟨x0, x1, x2, y0, y1, y2⟩ : WeightN), s') = r := R1.out
      subst R2
      go_wp2_with fail
      go_end0
      exact ⟨rfl, S1.out, D1.out, C1.out⟩
end
end Go.Proofs.YthcbgijmnonckaaGreat
