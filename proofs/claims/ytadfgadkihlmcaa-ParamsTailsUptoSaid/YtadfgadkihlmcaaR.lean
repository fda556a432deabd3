/- The document's own answer for layers 1 and 2: bits as bytes 0 and 1, function by function. -/
import Derived.Test.YtadfgadkihlmcaaLawsB
import Derived.Deep.OwnRows
namespace Go.Proofs.Ytadfgadkihlmcaa
open Go.RowKit Zo

/-- Bits as cells. -/
def bv (l : List Bool) : List Value := l.map fun b => .int .u8 (b.toNat : Int)

theorem bv_append (a b : List Bool) : bv (a ++ b) = bv a ++ bv b := by simp [bv]
theorem bv_length (a : List Bool) : (bv a).length = a.length := by simp [bv]
theorem bv_replicate (n : Nat) : bv (List.replicate n false) = List.replicate n (.int .u8 0) := by simp [bv]

/-- Block g is a row of just these cells. -/
def Row (w : World) (g : Nat) (e : TypeId) (xs : List Value) : Prop := w.heap[g]? = some (.cells xs.toArray e (0, 0))

theorem made_replicate (z : Value) (n : Nat) : madeCells #[z] n = (List.replicate n z).toArray := by
  apply Array.ext
  · simp [madeCells]
  · intro i h1 h2
    simp [madeCells, Nat.mod_one]

theorem make_u8 (n : Nat) (hn : n ≤ 281474976710656) (w : World) :
    (Instr.makeSlice 56 (.int .i64 (n : Int)) (.int .i64 (n : Int))).run Try.prog w = .ok (.slice (some ⟨w.heap.size, 0, none⟩) n n) (w.alloc (.cells (List.replicate n (.int .u8 0)).toArray 5)) := by
  rw [Go.run_make_row' (P := Try.prog) 56 5 (.int .u8 0) 1 Try.underlying56 Try.info5 rfl .i64 .i64 n (by omega) (by omega) w, made_replicate]

theorem Row.cell {w : World} {g : Nat} {e : TypeId} {xs : List Value} (h : Row w g e xs) (i : Nat) {v : Value} (hi : xs[i]? = some v) : w.cell? ⟨g, i, none⟩ = some v := by
  rw [cell_of_row w g i _ _ _ h]
  simpa using hi

theorem Row.free {w : World} {g : Nat} {e : TypeId} {xs : List Value} (h : Row w g e xs) (i : Nat) : w.frozen? ⟨g, i, none⟩ = false := free_row h i

theorem Row.set {w : World} {g : Nat} {e : TypeId} {xs : List Value} (h : Row w g e xs) (i : Nat) (v : Value) : Row (w.setCell ⟨g, i, none⟩ v) g e (xs.set i v) := by
  have := heap_setCell_row h i v
  unfold Row
  rw [this]
  simp

theorem set_at {α : Type} (a : List α) (x y : α) (b : List α) (i : Nat) (h : a.length = i) : (a ++ x :: b).set i y = a ++ y :: b := by
  subst h
  induction a with
  | nil => rfl
  | cons z a ih => simp [ih]

theorem Row.owns {w : World} {g : Nat} {e : TypeId} {xs : List Value} (h : Row w g e xs) {base : Nat} (hb : base ≤ g) (hl : xs.length ≤ maxLen) : w.ownsRow base e 1 (.slice (some ⟨g, 0, none⟩) xs.length xs.length) xs.length xs :=
  ⟨by simp, .inr ⟨g, xs.length, xs.toArray, rfl, hb, h, Nat.le_refl _, hl, by simp, by simp⟩⟩

theorem digits_any (x k : Int) (w : World) (hx : 0 ≤ x) (hx1 : x ≤ 4611686018427387904) (hk0 : 0 ≤ k) (hk : k ≤ 64) :
    Calls Try.prog 62 #[.int .i64 x, .int .i64 k] w fun e w' => ∃ g, e = .returned (.slice (some ⟨g, 0, none⟩) k.toNat k.toNat) ∧ w.heap.size ≤ g ∧ Row w' g 5 (bv (digs k.toNat x.toNat)) ∧ Below w.heap.size w w' := by
  obtain ⟨n, rfl⟩ := Int.eq_ofNat_of_zero_le hk0
  obtain ⟨y, rfl⟩ := Int.eq_ofNat_of_zero_le hx
  rw [Int.toNat_natCast, Int.toNat_natCast]
  have hmk := make_u8 n (by omega)
  go_enter Try.func62, Try.ntmps62
  go_wp2
  go_loopg [0, 6] n (fun q x i wr => ∃ c z : Nat, q + c = n ∧ x = .int .i64 (z : Int) ∧ i = .int .i64 ((q : Int) - 1) ∧ Aside (z = y / 2 ^ c) ∧ Row wr w.heap.size 5 (List.replicate q (.int .u8 0) ++ bv (digs c y)) ∧ Below w.heap.size w wr)
  case atStart =>
    refine ⟨0, y, by omega, rfl, by go_num, (by simp : y = y / 2 ^ 0), ?_, (Below.refl _ _).alloc (Nat.le_refl _) _⟩
    simpa [digs_zero, bv, Row] using heap_alloc_last w _
  case round =>
    obtain ⟨c, z, hq, rfl, rfl, A, hrow, bl⟩ := hrel
    have hzy : z ≤ y := by rw [A]; exact Nat.div_le_self _ _
    by_cases h0 : gk = 0
    · subst h0
      obtain rfl : c = n := by omega
      go_wp2
      go_ret
      exact ⟨w.heap.size, rfl, Nat.le_refl _, by simpa using hrow, bl⟩
    · obtain ⟨q, rfl⟩ : ∃ q, gk = q + 1 := ⟨gk - 1, by omega⟩
      have e1 : ((q + 1 : Nat) : Int) - 1 = (q : Int) := by omega
      rw [e1]
      clear e1
      have hc := hrow.cell q (v := .int .u8 0) (by rw [List.getElem?_append_left (by simp)]; simp)
      have hf := hrow.free q
      have hqn : q < n := by omega
      have hqc : q + (c + 1) = n := by omega
      clear h0 hq
      have H := Lib.hid hrow
      clear hrow
      go_wp2
      go_roundg q
      case measure => omega
      case rel =>
        refine ⟨c + 1, z / 2, hqc, by rw [Int.natCast_ediv]; rfl, rfl, ?_, ?_, bl.setCell (Nat.le_refl _) _⟩
        · show z / 2 = y / 2 ^ (c + 1)
          rw [A, Nat.pow_succ, Nat.div_div_eq_div_mul]
        · have hb : ((y.testBit c).toNat : Int) = (z : Int) % 2 := by
            rw [show (z : Int) % 2 = ((z % 2 : Nat) : Int) from by omega, A, Nat.testBit_eq_decide_div_mod_eq]
            rcases Nat.mod_two_eq_zero_or_one (y / 2 ^ c) with h | h <;> rw [h] <;> rfl
          have := H.out.set q (.int .u8 ((y.testBit c).toNat : Int))
          rw [List.replicate_succ', List.append_assoc, List.singleton_append, set_at _ _ _ _ _ (by simp), hb] at this
          rw [digs_cons]
          simpa [bv, hb] using this

theorem Row.below {w w' : World} {g B : Nat} {e : TypeId} {xs : List Value} (h : Row w g e xs) (b : Below B w w') (hg : g < B) : Row w' g e xs := (b.block g hg).trans h

theorem bv_one (a : List Bool) : ∀ u ∈ bv a, u.oneCell' = true := by
  intro u hu
  simp only [bv, List.mem_map] at hu
  obtain ⟨b, _, rfl⟩ := hu
  rfl

theorem Row.news {w : World} {g : Nat} {e : TypeId} {xs : List Value} (h : Row w g e xs) : ∀ j u, xs[j]? = some u → w.cell? ((⟨g, 0, none⟩ : Addr).add j) = some u := by
  intro j u hj
  rw [show (⟨g, 0, none⟩ : Addr).add j = ⟨g, j, none⟩ from by unfold Addr.add; split <;> simp_all]
  exact h.cell j hj

/-- A slice of bits that the call made: its block, and what it holds. -/
def NewBits (w w' : World) (v : Value) (l : List Bool) : Prop := ∃ g cap, v = .slice (some ⟨g, 0, none⟩) l.length cap ∧ w.heap.size ≤ g ∧ g < w'.heap.size ∧ w'.ownsRow w.heap.size 5 1 v l.length (bv l) ∧ Below w.heap.size w w'

theorem ueRef_any (x : Int) (w : World) (hx : 0 ≤ x) (hx1 : x ≤ 2147483646) :
    Calls Try.prog 34 #[.int .i64 x] w fun e w' => ∃ v, e = .returned v ∧ NewBits w w' v (ueB x.toNat) := by
  obtain ⟨y, rfl⟩ := Int.eq_ofNat_of_zero_le hx
  rw [Int.toNat_natCast]
  go_enter Try.func34, Try.ntmps34
  go_wp2_with fail
  go_loop [3, 4] (fun d z => ∃ n m : Nat, d = .int .i64 (n : Int) ∧ z = .int .i64 (m : Int) ∧ 1 ≤ m ∧ m ≤ 2147483647 ∧ n ≤ 64 ∧ Aside (m * 2 ^ n ≤ y + 1 ∧ y + 1 < (m + 1) * 2 ^ n)) (fun _ z => (intOf z).toNat)
  case atStart => exact ⟨0, y + 1, rfl, by go_num, by omega, by omega, by omega, (by simp : (y + 1) * 2 ^ 0 ≤ y + 1 ∧ y + 1 < (y + 1 + 1) * 2 ^ 0)⟩
  case round =>
    obtain ⟨n, m, rfl, rfl, hm1, hm2, hn, A⟩ := hrel
    have hn32 : n ≤ 31 := by
      by_cases hc : n ≤ 31
      · exact hc
      · have h1 : 2 ^ 32 ≤ 2 ^ n := Nat.pow_le_pow_right (by omega) (by omega)
        have h2 : 1 * 2 ^ n ≤ m * 2 ^ n := Nat.mul_le_mul_right _ hm1
        have := A.1
        omega
    by_cases h1 : 1 < m
    · go_wp2_with fail
      go_round
      case rel =>
        exact ⟨n + 1, m / 2, by go_num, by go_num, by omega, by omega, by omega, half_step m n (y + 1) A.1 A.2⟩
      case measure => simp [intOf]; omega
    · obtain rfl : m = 1 := by omega
      have hbl := bitLen_eq (y + 1) n (by have := A.1; omega) (by have := A.2; rw [Nat.pow_succ]; omega) (by omega)
      have hue : ueB y = List.replicate n false ++ digs (n + 1) (y + 1) := by rw [ueB, hbl]; rfl
      have HU := Lib.hid hue
      clear hue hbl A
      have hmk := make_u8 n (by omega)
      go_wp2_with fail
      refine (digits_any _ _ _ (by omega) (by omega) (by omega) (by omega)).mono ?_
      rw [show ((n : Int) + 1).toNat = n + 1 from by omega, show ((y : Int) + 1).toNat = y + 1 from by omega]
      rintro e w2 ⟨g', rfl, hg', hrow', bl⟩
      have hr0 : Row (w.alloc (.cells (List.replicate n (.int .u8 0)).toArray 5)) w.heap.size 5 (List.replicate n (.int .u8 0)) := heap_alloc_last w _
      have hr1 := hr0.below bl (by simp)
      have hown := hr1.owns (base := w.heap.size) (Nat.le_refl _) (by simp [maxLen]; omega)
      rw [List.length_replicate] at hown
      obtain ⟨i0, hi, hz0, hz1, hz2⟩ := info_parts Try.info5
      have hbw : Below w.heap.size w w2 := ((Below.refl _ _).alloc (Nat.le_refl _) _).trans (bl.mono (by simp))
      have hz := hbw.size
      clear hmk hr0 hr1
      go_wp2_with (refine wpList_append_lies _ rfl (.tmp 16) (.tmp 21) 56 rfl w.heap.size 5 i0 (.int .u8 0) 1 1 Try.underlying56 hi hz0 hz1 hz2 ?_ ?_ (.slice (some ⟨w.heap.size, 0, none⟩) n n) n (List.replicate n (.int .u8 0)) ?_ hown ⟨g', 0, none⟩ (n + 1) (n + 1) (bv (digs (n + 1) (y + 1))) ?_ ?_ hrow'.news (bv_one _) ?_ ?_ ?_ hz w2.heap.size rfl ?_; rfl; decide; rfl; rfl; (simp [bv_length, digs_length]); omega; (unfold maxLen; omega); omega; intro g cap w3 hown3 hgrow3 hat3 hlt3)
      go_ret
      have hl : (ueB y).length = n + (n + 1) := by rw [HU.out]; simp [digs_length]
      refine ⟨_, rfl, g, cap, by rw [hl]; rfl, ?_, hlt3, ?_, hbw.grown hgrow3 hz (fun k e => by simp [Value.ownBlock] at e; omega)⟩
      · rcases hat3 with e | e
        · simp [Value.ownBlock] at e; omega
        · omega
      · rw [hl, HU.out, bv_append, bv_replicate]
        exact hown3

theorem seRef_any (x : Int) (w : World) (h0 : -1073741823 ≤ x) (h1 : x ≤ 1073741823) :
    Calls Try.prog 35 #[.int .i64 x] w fun e w' => ∃ v, e = .returned v ∧ NewBits w w' v (seB x) := by
  by_cases h : 0 < x
  · have hf : foldedN x = (2 * x - 1).toNat := by rw [foldedN, if_pos h]
    have F := Lib.hid hf
    clear hf
    go_enter Try.func35, Try.ntmps35
    go_wp2_with fail
    refine (ueRef_any _ _ (by omega) (by omega)).mono ?_
    rintro e w2 ⟨v, rfl, hv⟩
    go_wp2_with fail
    go_ret
    exact ⟨v, rfl, by rw [seB, F.out]; exact hv⟩
  · have hf : foldedN x = (-2 * x).toNat := by rw [foldedN, if_neg h]
    have F := Lib.hid hf
    clear hf
    go_enter Try.func35, Try.ntmps35
    go_wp2_with fail
    refine (ueRef_any _ _ (by omega) (by omega)).mono ?_
    rintro e w2 ⟨v, rfl, hv⟩
    go_wp2_with fail
    go_ret
    exact ⟨v, rfl, by rw [seB, F.out]; exact hv⟩

/-- A slice of bits that the call owns. -/
def OwnBits (w : World) (base : Nat) (v : Value) (l : List Bool) : Prop := w.ownsRow base 5 1 v l.length (bv l)

/-- Behind a call that may append to v: the new slice. -/
def APost (w : World) (base : Nat) (v : Value) (l : List Bool) (v' : Value) (w' : World) : Prop :=
  OwnBits w' base v' l ∧ Fr (fun k => v.ownBlock = some k) w w' ∧ ∀ k, v'.ownBlock = some k → v.ownBlock = some k ∨ w.heap.size ≤ k

theorem OwnBits.shape {w : World} {base : Nat} {v : Value} {l : List Bool} (h : OwnBits w base v l) : ∃ a cap, v = .slice a l.length cap := by
  rcases h.2 with ⟨rfl, h0⟩ | ⟨g, cap, cur, rfl, _⟩
  · exact ⟨none, 0, by rw [h0]⟩
  · exact ⟨_, _, rfl⟩

theorem OwnBits.lt {w : World} {base : Nat} {v : Value} {l : List Bool} (h : OwnBits w base v l) : ∀ k, v.ownBlock = some k → base ≤ k ∧ k < w.heap.size := World.ownsRow.lt h

theorem trailRef_any (v : Value) (l : List Bool) (w : World) (base : Nat) (h : OwnBits w base v l) (hb : base ≤ w.heap.size) (hl : l.length ≤ 1000000000) :
    Calls Try.prog 37 #[v] w fun e w' => ∃ v', e = .returned v' ∧ APost w base v (l ++ trailB l.length) v' w' := by
  obtain ⟨i0, hi, hz0, hz1, hz2⟩ := info_parts Try.info5
  go_enter Try.func37, Try.ntmps37
  go_wp2_with (refine wpList_append_lies _ rfl (.tmp 3) (.tmp 4) 56 rfl base 5 i0 (.int .u8 0) 1 1 Try.underlying56 hi hz0 hz1 hz2 ?_ ?_ v l.length (bv l) ?_ (World.ownsRow.alloc h _) ⟨w.heap.size, 0, none⟩ 1 1 [.int .u8 1] ?_ ?_ (cell_one_new _ _ _) ?_ ?_ ?_ ?_ ?_ _ rfl ?_; rfl; decide; rfl; rfl; rfl; (simp [Value.oneCell']); decide; (unfold maxLen; omega); omega; (simp; omega); intro g cap w3 hown3 hgrow3 hat3 hlt3)
  have hold : ∀ k, v.ownBlock = some k → base ≤ k ∧ k < w.heap.size := h.lt
  have f3 : Fr (fun k => v.ownBlock = some k) w w3 := ((Fr.refl _ _).alloc _).grown hgrow3 (fun k _ e => e)
  have hg3 : v.ownBlock = some g ∨ w.heap.size ≤ g := by rcases hat3 with e | e; exact .inl e; exact .inr (by simp at e; omega)
  clear hgrow3 hat3 h
  go_loopg [0] (7 - l.length % 8) (fun q x wr => ∃ n N g cap, n + q = 7 - l.length % 8 ∧ N = l.length + 1 + n ∧ x = .slice (some ⟨g, 0, none⟩) N cap ∧ wr.ownsRow base 5 1 x N (bv (l ++ true :: List.replicate n false)) ∧ Fr (fun k => v.ownBlock = some k) w wr ∧ (v.ownBlock = some g ∨ w.heap.size ≤ g))
  case atStart => exact ⟨0, l.length + 1, g, cap, by omega, rfl, rfl, by simpa [bv] using hown3, f3, hg3⟩
  case round =>
    clear hown3 f3 hg3 hlt3
    obtain ⟨n, N, g', cap', hq, hN, rfl, hown, f, hg⟩ := hrel
    have hz := f.size
    by_cases h0 : gk = 0
    · have hb0 : ((N : Int) % 8 != 0) = false := by simp; omega
      have HN := Lib.hid hN
      have HQ := Lib.hid hq
      have H0 := Lib.hid h0
      clear hN hq h0
      go_wp2_with fail
      go_ret
      have hn : n = 7 - l.length % 8 := by have := HQ.out; have := H0.out; omega
      refine ⟨_, rfl, ?_, f, fun k e => ?_⟩
      · have hN2 : N = (l ++ trailB l.length).length := by rw [HN.out, hn]; simp [trailB]; omega
        unfold OwnBits
        rw [← hN2, trailB, ← hn]
        exact hown
      · obtain rfl : g' = k := by simpa [Value.ownBlock] using e
        exact hg
    · have hb0 : ((N : Int) % 8 != 0) = true := by simp; omega
      have hN9 : N ≤ 1000000100 := by omega
      have HN := Lib.hid hN
      have hbw : base ≤ wr.heap.size := by omega
      clear hN
      go_wp2_with (refine wpList_append_lies _ rfl (.tmp 10) (.tmp 11) 56 rfl base 5 i0 (.int .u8 0) 1 1 Try.underlying56 hi hz0 hz1 hz2 ?_ ?_ (.slice (some ⟨g', 0, none⟩) N cap') N (bv (l ++ true :: List.replicate n false)) ?_ (hown.alloc _) ⟨wr.heap.size, 0, none⟩ 1 1 [.int .u8 0] ?_ ?_ (cell_one_new _ _ _) ?_ ?_ ?_ ?_ ?_ _ rfl ?_; rfl; decide; rfl; rfl; rfl; (simp [Value.oneCell']); decide; (unfold maxLen; omega); omega; (simp; omega); intro g2 cap2 w4 hown4 hgrow4 hat4 hlt4)
      go_roundg (gk - 1)
      case measure => omega
      case rel =>
        refine ⟨n + 1, N + 1, g2, cap2, by omega, by have := HN.out; omega, rfl, ?_, (f.alloc _).grown hgrow4 (fun k hk e => ?_), ?_⟩
        · rw [show l ++ true :: List.replicate (n + 1) false = (l ++ true :: List.replicate n false) ++ [false] from by rw [List.replicate_succ']; simp, bv_append]
          exact hown4
        · obtain rfl : g' = k := by simpa [Value.ownBlock] using e
          rcases hg with e1 | e1
          · exact e1
          · omega
        · rcases hat4 with e1 | e1
          · obtain rfl : g' = g2 := by simpa [Value.ownBlock] using e1
            exact hg
          · exact .inr (by simp at e1; omega)
end Go.Proofs.Ytadfgadkihlmcaa
