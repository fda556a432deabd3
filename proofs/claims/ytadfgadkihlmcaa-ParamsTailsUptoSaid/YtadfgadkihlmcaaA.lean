/- The bits' Writer: what each of its calls does to what it holds. -/
import Derived.Test.YtadfgadkihlmcaaProg
import Derived.Test.YtadfgadkihlmcaaM
import Derived.Test.YtadfgadkihlmcaaW
import Derived.RegionTactic
import Derived.ChangeAlike
import Derived.Outline
import Derived.Laws.LoneSync
import Derived.LoopTactic
import Derived.Handy
import Derived.Deep.LoopGhost
import Derived.Deep.RegionLaw
namespace Go.Proofs.Ytadfgadkihlmcaa
open Go.RowKit Zo

def u8s (l : List Nat) : List Value := l.map fun n : Nat => .int .u8 (n : Int)

/-- Block b is a Writer that holds 'bytes' and k bits more, the lowest of r; its bytes lie in block o. -/
def WrC (w : World) (base b : Nat) (o : Option Nat) (bytes : List Nat) (k r : Nat) : Prop :=
  ∃ (c : Int) (v : Value), w.heap[b]? = some (.cells #[.int .u32 c, v, .int .u64 (r : Int), .int .i64 (k : Int)] 109 (0,0)) ∧ base ≤ b ∧ v.ownBlock = o ∧ w.ownsRow base 5 1 v bytes.length (u8s bytes) ∧ ∀ x ∈ bytes, x < 256

def wsel (b : Nat) (o : Option Nat) (k : Nat) : Prop := k = b ∨ o = some k

theorem Try.info5 : (Try.prog.info? 5).map (fun i => (i.zero, i.size, i.bytes)) = some (some (.int .u8 0), 1, 1) := by kernel_rfl

theorem u8s_append (l : List Nat) (n : Nat) : u8s (l ++ [n]) = u8s l ++ [.int .u8 (n : Int)] := by simp [u8s]

theorem lt_append {l : List Nat} {n : Nat} (h : ∀ x ∈ l, x < 256) (hn : n < 256) : ∀ x ∈ l ++ [n], x < 256 := by
  intro x hx
  rcases List.mem_append.1 hx with h1 | h1
  · exact h x h1
  · rw [List.mem_singleton.1 h1]; exact hn

theorem shl_or (r n : Nat) (x : Int) (hx : 0 ≤ x) (hn : n ≤ 32) (hr : r < 128) (hxn : x.toNat < 2 ^ n) :
    bits .or .u64 (IntKind.u64.wrap ((r : Int) * 2 ^ n)) x = (((r <<< n ||| x.toNat : Nat)) : Int) ∧ (r <<< n ||| x.toNat) < 2 ^ 39 := by
  have h2 : (2 : Nat) ^ n ≤ 2 ^ 32 := Nat.pow_le_pow_right (by omega) hn
  have h3 : r * 2 ^ n < 2 ^ 39 := Nat.lt_of_lt_of_le (Nat.mul_lt_mul_of_pos_right hr (Nat.two_pow_pos n)) (by omega)
  have e : ((r : Int) * 2 ^ n) = ((r * 2 ^ n : Nat) : Int) := by rw [Int.natCast_mul, Int.natCast_pow]; rfl
  have e39 : (2 : Nat) ^ 39 = 549755813888 := by decide
  have e32 : (2 : Nat) ^ 32 = 4294967296 := by decide
  rw [e, wrap_u64_nat _ (by omega), u64_or _ _ (by omega) (by omega) hx (by omega), Int.toNat_natCast, Nat.shiftLeft_eq]
  exact ⟨rfl, Nat.or_lt_two_pow h3 (by omega)⟩

theorem and_mask (r k : Nat) (hr : r < 2 ^ 39) (hk : k ≤ 7) :
    bits .and .u64 (r : Int) (IntKind.u64.wrap (IntKind.u64.wrap (2 ^ k) - 1)) = ((r % 2 ^ k : Nat) : Int) := by
  have e39 : (2 : Nat) ^ 39 = 549755813888 := by decide
  have h2 : (2 : Nat) ^ k ≤ 2 ^ 7 := Nat.pow_le_pow_right (by omega) hk
  have h1 := Nat.two_pow_pos k
  have e : ((2 : Int) ^ k) = ((2 ^ k : Nat) : Int) := by rw [Int.natCast_pow]; rfl
  rw [e, wrap_u64_nat _ (by omega), show (((2 ^ k : Nat) : Int) - 1) = ((2 ^ k - 1 : Nat) : Int) from by omega, wrap_u64_nat _ (by omega), u64_and _ _ (by omega) (by omega) (by omega) (by omega)]
  rw [Int.toNat_natCast, Int.toNat_natCast, Nat.and_two_pow_sub_one_eq_mod]

set_option maxHeartbeats 400000 in
theorem put_any (w : World) (base b : Nat) (o : Option Nat) (bytes : List Nat) (k r : Nat) (x n : Int)
   (h : WrC w base b o bytes k r) (hx : 0 ≤ x) (hn0 : 0 ≤ n) (hn : n ≤ 32) (hxn : x.toNat < 2 ^ n.toNat) (hk : k ≤ 7) (hr : r < 2 ^ k) (hb : bytes.length ≤ 1000000000000) :
    Calls Try.prog 61 #[.pointer (some ⟨b, 0, none⟩), .int .u64 x, .int .i64 n] w fun e w' => e = .returned (.tuple #[]) ∧
      ∃ o' bytes' k' r', WrC w' base b o' bytes' k' r' ∧ k' ≤ 7 ∧ r' < 2 ^ k' ∧ held bytes' k' r' = held bytes k r ++ digs n.toNat x.toNat ∧ Fr (wsel b o) w w' ∧ (∀ k, o' = some k → o = some k ∨ w.heap.size ≤ k) := by
  obtain ⟨m, rfl⟩ := Int.eq_ofNat_of_zero_le hn0
  rw [Int.toNat_natCast] at hxn
  have hr7 : r < 128 := by have : 2 ^ k ≤ 2 ^ 7 := Nat.pow_le_pow_right (by omega) hk; omega
  have G := Lib.hid (shl_or r m x hx (by omega) hr7 hxn)
  obtain ⟨c, v, h, hbb, hv, hown, h256⟩ := h
  have c2 := cell_of_row w b 2 _ _ _ h
  have c3 := cell_of_row w b 3 _ _ _ h
  have f2 := free_row h 2
  have f3 := free_row h 3
  simp at c2 c3
  go_enter Try.func61, Try.ntmps61
  go_wp2
  go_loopg [] 40 (fun q wr => ∃ o' bytes' k' r', WrC wr base b o' bytes' k' r' ∧ k' ≤ q ∧ k' ≤ 39 ∧ r' < 2 ^ 39 ∧ bytes'.length * 8 + k' ≤ bytes.length * 8 + 39 ∧ held bytes' k' r' = held bytes k r ++ digs m x.toNat ∧ Fr (wsel b o) w wr ∧ (∀ k, o' = some k → o = some k ∨ w.heap.size ≤ k))
  case atStart =>
    have hrow := heap_setCell_row (heap_setCell_row h 2 (.int .u64 (bits BinOp.or IntKind.u64 (IntKind.u64.wrap (↑r * 2 ^ m)) x))) 3 (.int .i64 ((k : Int) + (m : Int)))
    refine ⟨o, bytes, k + m, r <<< m ||| x.toNat, ⟨c, v, ?_, hbb, hv, ?_, h256⟩, by omega, by omega, G.out.2, by omega, held_push _ _ _ _ _ hxn, ?_, fun _ e => .inl e⟩
    · rw [← G.out.1]; simpa using hrow
    · exact ownsRow_setCell (ownsRow_setCell hown (ownsRow_ne hown h (by decide)) _ _) (ownsRow_ne hown h (by decide)) _ _
    · exact ((Fr.refl _ _).setCell (fun _ => .inl rfl) _).setCell (fun _ => .inl rfl) _
  case round =>
    clear h hown c2 c3 f2 f3
    obtain ⟨o', bytes', k', r', ⟨c', v', h', _, hv', hown', h256'⟩, hk', hk39, hr', hlen, hheld, hfr, ho'⟩ := hrel
    have c1 := cell_of_row wr b 1 _ _ _ h'
    have c2 := cell_of_row wr b 2 _ _ _ h'
    have c3 := cell_of_row wr b 3 _ _ _ h'
    have f1 := free_row h' 1
    have f2 := free_row h' 2
    have f3 := free_row h' 3
    simp at c1 c2 c3
    have A : Aside (held bytes' k' r' = held bytes k r ++ digs m x.toNat ∧ v'.ownBlock = o' ∧ ∀ x ∈ bytes', x < 256) := ⟨hheld, hv', h256'⟩
    clear hheld hv' h256' h256
    by_cases h8 : 8 ≤ k'
    · obtain ⟨k2, rfl⟩ : ∃ k2, k' = k2 + 8 := ⟨k' - 8, by omega⟩
      go_wp2
      have h1 : (wr.setCell ⟨b, 3, none⟩ (.int .i64 (k2 : Int))).heap[b]? = some (.cells #[.int .u32 c', v', .int .u64 (r' : Int), .int .i64 (k2 : Int)] 109 (0,0)) := by
        simpa using heap_setCell_row h' 3 (.int .i64 (k2 : Int))
      have hown1 := ownsRow_setCell hown' (ownsRow_ne hown' h' (by decide)) 3 (.int .i64 (k2 : Int))
      have hfr1 := hfr.setCell (p := ⟨b, 3, none⟩) (fun _ => .inl rfl) (.int .i64 (k2 : Int))
      generalize (wr.setCell ⟨b, 3, none⟩ (.int .i64 (k2 : Int))) = wx at *
      have c1 := cell_of_row wx b 1 _ _ _ h1
      have c2 := cell_of_row wx b 2 _ _ _ h1
      have c3 := cell_of_row wx b 3 _ _ _ h1
      have f1 := free_row h1 1
      have f2 := free_row h1 2
      have f3 := free_row h1 3
      simp at c1 c2 c3
      obtain ⟨i0, hi, hz0, hz1, hz2⟩ := info_parts Try.info5
      have hbl : b < wx.heap.size := row_lt h1
      go_region_law (
        refine step_append_lies _ ?_ (.tmp 41) (.tmp 52) 56 ?_ base 5 i0 (.int .u8 0) 1 1 Try.underlying56 hi hz0 hz1 hz2 ?_ ?_ v' bytes'.length (u8s bytes') ?_ ?_ ⟨wx.heap.size, 0, none⟩ 1 1 [.int .u8 (IntKind.u8.wrap ((r' : Int) / 2 ^ k2))] ?_ ?_ ?_ ?_ ?_ ?_ ?_ ?_ (wx.heap.size + 1) ?_ ?_
        · rfl
        · rfl
        · rfl
        · decide
        · rfl
        · exact (hown1.alloc _).drew
        · rfl
        · rfl
        · exact cell_one_new wx _ 5
        · simp [Value.oneCell']
        · decide
        · unfold maxLen; omega
        · omega
        · show base ≤ (wx.heap.push _).size; rw [Array.size_push]; omega
        · exact Array.size_push _
        intro g cap w1 hown2 hgrow2 hat2 hlt2
        have hb1 : w1.heap[b]? = some (.cells #[.int .u32 c', v', .int .u64 (r' : Int), .int .i64 (k2 : Int)] 109 (0,0)) := by
          rw [hgrow2.block b (by show b < (wx.heap.push _).size; rw [Array.size_push]; omega) (ownsRow_ne hown1 h1 (by decide))]
          exact (heap_alloc_other hbl).trans h1
        have c1' := cell_of_row w1 b 1 _ _ _ hb1
        simp at c1'
        have f1' := free_row hb1 1
        )
      all_goals
        go_wp2
        go_roundg k2
        case measure => omega
        case rel =>
          obtain ⟨a1, a2, a3⟩ := A.out
          have hlen1 : (bytes' ++ [(r' >>> k2) % 256]).length = bytes'.length + 1 := by simp
          refine ⟨some g, bytes' ++ [(r' >>> k2) % 256], k2, r', ⟨c', .slice (some ⟨g, 0, none⟩) (bytes'.length + 1) cap, ?_, hbb, rfl, ?_, lt_append a3 (Nat.mod_lt _ (by omega))⟩, by omega, by omega, hr', by rw [hlen1]; omega, ?_, ?_, ?_⟩
          · simpa using heap_setCell_row hb1 1 (.slice (some ⟨g, 0, none⟩) (bytes'.length + 1) cap)
          · rw [hlen1, u8s_append, ← u8_byte]
            exact ownsRow_setCell hown2 (ownsRow_ne hown2 hb1 (by decide)) 1 _
          · rw [held_byte, Nat.add_comm 8 k2, a1]
          · refine (((hfr1.alloc _).drew).grown hgrow2 (fun i hi e => ?_)).setCell (fun _ => .inl rfl) _
            rw [a2] at e
            rcases ho' i e with e1 | e1
            · exact .inr e1
            · omega
          · intro i e
            obtain rfl : g = i := by simpa using e
            rcases hat2 with e1 | e1
            · rw [a2] at e1; exact ho' _ e1
            · have := hfr1.size; omega
    · go_wp2
      go_region
      all_goals
        go_end0
        obtain ⟨a1, a2, a3⟩ := A.out
        refine ⟨rfl, o', bytes', k', r' % 2 ^ k', ⟨c', v', ?_, hbb, a2, ?_, a3⟩, by omega, Nat.mod_lt _ (Nat.two_pow_pos _), by rw [held_mask, a1, Int.toNat_natCast], ?_, ho'⟩
        · rw [← and_mask r' k' hr' (by omega)]
          exact (heap_setCell_row h' 2 _).trans (by simp)
        · exact ownsRow_setCell hown' (ownsRow_ne hown' h' (by decide)) 2 _
        · exact (hfr.setCell (fun _ => .inl rfl) _).drew
end Go.Proofs.Ytadfgadkihlmcaa
