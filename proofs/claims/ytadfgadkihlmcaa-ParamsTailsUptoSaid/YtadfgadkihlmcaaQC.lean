/- Layer 3: parameters as values; the law's SameSps; the document's own ranges. -/
import Derived.Test.YtadfgadkihlmcaaQB
import Derived.Deep.DeepCutAuto
import Derived.Deep.CutBlock
namespace Go.Proofs.Ytadfgadkihlmcaa
open Go.RowKit Zo Zp

/-- A sequence's parameters as a value; its Cycle begins at a. -/
def spsV (s : SpsN) (a : Option Addr) (cap : Nat) : Value :=
  .agg #[.int .i64 s.wide, .int .i64 s.high, .int .i64 s.fbits, .int .i64 s.ptype, .int .i64 s.pbits, .int .i64 s.nonref, .slice a s.cycle.length cap, .int .i64 s.refs, .int .i64 s.delay]

def ppsV (p : PpsN) : Value :=
  .agg #[.bool p.cabac, .bool p.weighted, .int .i64 p.bipred, .int .i64 p.qp, .int .i64 p.chroma, .bool p.constrained, .bool p.deblock, .int .i64 p.act0, .int .i64 p.act1]

theorem below_dN {B : Nat} {a w : World} (h : Below B a w) (n : Nat) : Below B a (w.drewN n) := ⟨h.os, h.tape, h.output, h.size, h.block⟩

set_option maxRecDepth 100000 in
theorem sameSps_yes (w : World) (s : SpsN) (a a' : Option Addr) (cap cap' : Nat) (h : IntRow w a s.cycle) (h' : IntRow w a' s.cycle) (hl : s.cycle.length ≤ 1000000000) :
    Calls Try.prog 19 #[spsV s a cap, spsV s a' cap'] w fun e w' => e = .returned (.bool true) ∧ Below w.heap.size w w' := by
  obtain ⟨wide, high, fbits, ptype, pbits, nonref, cycle, refs, delay⟩ := s
  unfold spsV
  simp only at h h' hl ⊢
  have hs : ∀ o1 o2, Calls Try.prog 50 #[.slice a cycle.length cap, .slice a' cycle.length cap'] ((w.alloc o1).alloc o2) fun e w' => e = .returned (.bool true) ∧ ∃ n, w' = ((w.alloc o1).alloc o2).drewN n :=
    fun o1 o2 => sameInts_yes _ a a' cap cap' cycle ((h.alloc _).alloc _) ((h'.alloc _).alloc _) hl
  have HS := Lib.hid hs
  clear h h' hs
  go_enter Try.func19, Try.ntmps19
  go_wp2_with fail
  refine (HS.out _ _).mono ?_
  rintro e w1 ⟨rfl, n, rfl⟩
  go_wp2_with fail
  go_ret
  exact ⟨rfl, below_dN (((Below.refl _ _).alloc (Nat.le_refl _) _).alloc (by simp) _) n⟩

def inB (x a b : Int) : Bool := decide (a ≤ x ∧ x ≤ b)

theorem in_any (w : World) (x a b : Int) : Calls Try.prog 49 #[.int .i64 x, .int .i64 a, .int .i64 b] w fun e w' => e = .returned (.bool (inB x a b)) ∧ w = w' := by
  by_cases h1 : a ≤ x
  · by_cases h2 : x ≤ b
    · go_enter Try.func49, Try.ntmps49
      go_wp2_with fail
      go_ret
      exact ⟨ret_bool (by simp [inB, h1, h2]), rfl⟩
    · have h3 : b < x := by omega
      go_enter Try.func49, Try.ntmps49
      go_wp2_with fail
      go_ret
      exact ⟨ret_bool (by simp [inB, h1, h3]), rfl⟩
  · have h3 : x < a := by omega
    go_enter Try.func49, Try.ntmps49
    go_wp2_with fail
    go_ret
    exact ⟨ret_bool (by simp [inB]; omega), rfl⟩

/-- What the document asks ahead of the Cycle's numbers, of these, behind them. -/
def may1 (wide high fbits ptype pbits nonref : Int) (cycle : List Int) : Bool := inB wide 1 8 && inB high 1 8 && inB fbits 4 8 && inB pbits 4 8 && inB ptype 0 2 && inB nonref (-1000) 1000 && decide ((cycle.length : Int) ≤ 4)
def mayC (l : List Int) : Bool := l.all fun x => inB x (-1000) 1000
def may2 (ptype pbits nonref : Int) (cycle : List Int) : Bool := ((ptype == 1) || ((nonref == 0) && ((cycle.length : Int) == 0))) && ((ptype == 0) || (pbits == 4))
def may3 (ptype refs delay : Int) : Bool := inB refs 1 8 && inB delay 0 refs && ((ptype != 2) || (delay == 0))

theorem may_all (wide high fbits ptype pbits nonref : Int) (cycle : List Int) (refs delay : Int) :
    (may1 wide high fbits ptype pbits nonref cycle && mayC cycle && may2 ptype pbits nonref cycle && may3 ptype refs delay) = decide (SpsN.may ⟨wide, high, fbits, ptype, pbits, nonref, cycle, refs, delay⟩) := by
  rw [Bool.eq_iff_iff, decide_eq_true_iff]
  simp only [may1, mayC, may2, may3, inB, SpsN.may, Bool.and_eq_true, Bool.or_eq_true, decide_eq_true_eq, List.all_eq_true, beq_iff_eq, bne_iff_ne, ne_eq]
  constructor
  · rintro ⟨⟨⟨⟨⟨⟨⟨⟨⟨h1, h2⟩, h3⟩, h4⟩, h5⟩, h6⟩, h7⟩, h8⟩, h9, h10⟩, ⟨h11, h12⟩, h13⟩
    refine ⟨h1.1, h1.2, h2.1, h2.2, h3.1, h3.2, h4.1, h4.2, h5.1, h5.2, h6.1, h6.2, by omega, h8, ?_, h10, h11.1, h11.2, h12.1, h12.2, h13⟩
    rcases h9 with h | ⟨h, h'⟩
    · exact .inl h
    · exact .inr ⟨h, List.eq_nil_of_length_eq_zero (by omega)⟩
  · rintro ⟨h1, h1', h2, h2', h3, h3', h4, h4', h5, h5', h6, h6', h7, h8, h9, h10, h11, h11', h12, h12', h13⟩
    refine ⟨⟨⟨⟨⟨⟨⟨⟨⟨⟨h1, h1'⟩, h2, h2'⟩, h3, h3'⟩, h4, h4'⟩, h5, h5'⟩, h6, h6'⟩, by omega⟩, h8⟩, ?_, h10⟩, ⟨⟨h11, h11'⟩, h12, h12'⟩, h13⟩
    rcases h9 with h | ⟨h, h'⟩
    · exact .inl h
    · exact .inr ⟨h, by rw [h']; rfl⟩

theorem mayC_snoc (l : List Int) (j : Nat) (h : j < l.length) : mayC (l.take (j + 1)) = (mayC (l.take j) && inB l[j] (-1000) 1000) := by
  unfold mayC
  rw [List.take_succ_eq_append_getElem h, List.all_append]
  simp

set_option maxRecDepth 100000 in
set_option maxHeartbeats 3200000 in
theorem refMaySps_any (w : World) (s : SpsN) (a : Option Addr) (cap : Nat) (h : IntRow w a s.cycle) (hl : s.cycle.length ≤ 1000000000) :
    Calls Try.prog 16 #[spsV s a cap] w fun e w' => e = .returned (.bool (decide s.may)) ∧ Below w.heap.size w w' := by
  obtain ⟨wide, high, fbits, ptype, pbits, nonref, cycle, refs, delay⟩ := s
  unfold spsV
  simp only at h hl ⊢
  have HA := Lib.hid (may_all wide high fbits ptype pbits nonref cycle refs delay)
  rw [← may_all]
  have hb : Below w.heap.size w (w.alloc (.cells #[.int .i64 wide, .int .i64 high, .int .i64 fbits, .int .i64 ptype, .int .i64 pbits, .int .i64 nonref, .slice a cycle.length cap, .int .i64 refs, .int .i64 delay] 24)) := (Below.refl _ _).alloc (Nat.le_refl _) _
  have HB := Lib.hid hb
  have H := Lib.hid (h.alloc (.cells #[.int .i64 wide, .int .i64 high, .int .i64 fbits, .int .i64 ptype, .int .i64 pbits, .int .i64 nonref, .slice a cycle.length cap, .int .i64 refs, .int .i64 delay] 24))
  clear h hb
  go_enter Try.func16, Try.ntmps16
  go_upto_region 1 with fail
  go_cut [3] (fun ok wx => ∃ b : Bool, ok = .bool b ∧ Aside (b = may1 wide high fbits ptype pbits nonref cycle) ∧ wx = (w.alloc (.cells #[.int .i64 wide, .int .i64 high, .int .i64 fbits, .int .i64 ptype, .int .i64 pbits, .int .i64 nonref, .slice a cycle.length cap, .int .i64 refs, .int .i64 delay] 24)))
  case first =>
    go_wp2_with (go_at_call 49; refine (in_any _ _ _ _).mono ?_; rintro e w' ⟨rfl, rfl⟩)
    all_goals
      go_meet
      exact ⟨_, rfl, (by unfold Aside; simp [may1, *]), rfl⟩
  case rest =>
    obtain ⟨m1, rfl, A1, rfl⟩ := hcut
    obtain ⟨q, hgq⟩ : ∃ q, q = w.heap.size := ⟨_, rfl⟩
    clear hgq
    go_wp2_with fail
    go_loopg [3, 4] cycle.length (fun q x i wr => ∃ (j : Nat) (b : Bool), j + q = cycle.length ∧ x = .bool b ∧ i = .int .i64 (j : Int) ∧ Aside (b = (m1 && mayC (cycle.take j))) ∧ wr = (w.alloc (.cells #[.int .i64 wide, .int .i64 high, .int .i64 fbits, .int .i64 ptype, .int .i64 pbits, .int .i64 nonref, .slice a cycle.length cap, .int .i64 refs, .int .i64 delay] 24)))
    case atStart => exact ⟨0, m1, by omega, rfl, rfl, (by simp [mayC] : m1 = (m1 && mayC (cycle.take 0))), rfl⟩
    case round =>
      obtain ⟨j, b, hq, rfl, rfl, A, rfl⟩ := hrel
      by_cases hlt : j < cycle.length
      · obtain ⟨g, o, rfl, hg, hc⟩ := H.out.at hlt
        have HS := Lib.hid (mayC_snoc cycle j hlt)
        generalize cycle[j] = x at *
        cases b
        · go_wp2_with (go_at_call 49; refine (in_any _ _ _ _).mono ?_; rintro e w' ⟨rfl, rfl⟩)
          go_roundg (gk - 1)
          case measure => omega
          case rel => exact ⟨j + 1, false, by omega, rfl, by go_num, (by rw [HS.out, ← Bool.and_assoc, ← A]; rfl : false = (m1 && mayC (cycle.take (j + 1)))), rfl⟩
        · go_wp2_with (go_at_call 49; refine (in_any _ _ _ _).mono ?_; rintro e w' ⟨rfl, rfl⟩)
          go_roundg (gk - 1)
          case measure => omega
          case rel => exact ⟨j + 1, inB x (-1000) 1000, by omega, rfl, by go_num, (by rw [HS.out, ← Bool.and_assoc, ← A]; rfl : inB x (-1000) 1000 = (m1 && mayC (cycle.take (j + 1)))), rfl⟩
      · obtain rfl : j = cycle.length := by omega
        have A2 : Aside (b = (m1 && mayC cycle)) := by rw [List.take_length] at A; exact A
        clear A
        go_upto_region 6 with fail
        go_cut [3] (fun ok wx => ∃ b' : Bool, ok = .bool b' ∧ Aside (b' = (b && may2 ptype pbits nonref cycle)) ∧ wx = (w.alloc (.cells #[.int .i64 wide, .int .i64 high, .int .i64 fbits, .int .i64 ptype, .int .i64 pbits, .int .i64 nonref, .slice a cycle.length cap, .int .i64 refs, .int .i64 delay] 24)))
        case first =>
          cases b
          · go_wp2
            go_meet
            exact ⟨_, rfl, (by unfold Aside; simp), rfl⟩
          · cases h1 : (ptype == 1) <;> cases h2 : (nonref == 0) <;> cases h3 : ((cycle.length : Int) == 0) <;> cases h4 : (ptype == 0) <;> cases h5 : (pbits == 4)
            all_goals
              go_wp2
              go_meet
              exact ⟨_, rfl, (by unfold Aside may2; simp only [h1, h2, h3, h4, h5]; rfl), rfl⟩
        case rest =>
          obtain ⟨m2, rfl, A3, rfl⟩ := hcut
          cases m2
          · go_wp2
            go_ret
            exact ⟨ret_bool (by rw [← A1, ← A2, ← A3]; rfl), HB.out⟩
          · cases h1 : (ptype != 2) <;> cases h2 : (delay == 0)
            all_goals
              go_wp2_with (go_at_call 49; refine (in_any _ _ _ _).mono ?_; rintro e w' ⟨rfl, rfl⟩)
            all_goals
              go_ret
              exact ⟨ret_bool (by rw [← A1, ← A2, ← A3]; unfold may3; simp [*]), HB.out⟩
end Go.Proofs.Ytadfgadkihlmcaa
