/- The document's own Pack: bits as a string. -/
import Derived.Test.YtadfgadkihlmcaaR
import Derived.Test.YtadfgadkihlmcaaS
namespace Go.Proofs.Ytadfgadkihlmcaa
open Go.RowKit Zo

theorem OwnBits.cell {w : World} {base : Nat} {v : Value} {l : List Bool} (h : OwnBits w base v l) (i : Nat) (hi : i < l.length) :
    ∃ g cap, v = .slice (some ⟨g, 0, none⟩) l.length cap ∧ base ≤ g ∧ g < w.heap.size ∧ w.cell? ⟨g, i, none⟩ = some (.int .u8 ((l[i]'hi).toNat : Int)) := by
  rcases h.2 with ⟨_, h0⟩ | ⟨g, cap, cur, rfl, hb, hg, _, _, _, ht⟩
  · omega
  · refine ⟨g, cap, rfl, hb, row_lt hg, ?_⟩
    rw [cell_of_row w g i _ _ _ hg]
    have : (bv l)[i]? = some (.int .u8 ((l[i]'hi).toNat : Int)) := by simp [bv, hi]
    rw [← ht, List.getElem?_take] at this
    split at this
    · simpa using this
    · cases this

theorem OwnBits.fr {S : Nat → Prop} {w w' : World} {base : Nat} {v : Value} {l : List Bool} (h : OwnBits w base v l) (f : Fr S w w') (hS : ∀ k, v.ownBlock = some k → ¬ S k) : OwnBits w' base v l := ownsRow_fr h f hS

theorem OwnBits.below {w w' : World} {base B : Nat} {v : Value} {l : List Bool} (h : OwnBits w base v l) (f : Below B w w') (hB : w.heap.size ≤ B) : OwnBits w' base v l :=
  h.fr (S := fun k => B ≤ k) ⟨f.os, f.tape, f.output, f.size, fun k _ hn => f.block k (by omega)⟩ (fun k e => by have := h.lt k e; omega)

theorem u8s_replicate (n : Nat) : u8s (List.replicate n 0) = List.replicate n (.int .u8 0) := by simp [u8s]

theorem u8s_set (l : List Nat) (i x : Nat) : u8s (l.set i x) = (u8s l).set i (.int .u8 (x : Int)) := by simp [u8s, List.map_set]

theorem conv_row (w : World) (g : Nat) (bytes : List Nat) (h : Row w g 5 (u8s bytes)) (h256 : ∀ x ∈ bytes, x < 256) (hl : bytes.length ≤ maxLen) :
    (convert 56 9 (.slice (some ⟨g, 0, none⟩) bytes.length bytes.length)).run Try.prog w = .ok (.string (bstr bytes)) w := by
  have ho := h.owns (base := 0) (Nat.zero_le _) (by simpa [u8s] using hl)
  have hlen : (u8s bytes).length = bytes.length := by simp [u8s]
  rw [hlen] at ho
  exact conv_bytes w 0 _ bytes ho h256

theorem or_shift (x i : Nat) (hx : x < 256) : bits .or .u8 (x : Int) (128 / 2 ^ i) = ((x ||| 128 >>> i : Nat) : Int) := by
  have h : (128 : Nat) / 2 ^ i ≤ 128 := Nat.div_le_self _ _
  rw [show (128 : Int) / 2 ^ i = ((128 / 2 ^ i : Nat) : Int) from by rw [Int.natCast_ediv, Int.natCast_pow]; rfl, u8_or_nat _ _ hx (by omega), Nat.shiftRight_eq_div_pow]

theorem pack_any (v : Value) (l : List Bool) (w : World) (base : Nat) (h : OwnBits w base v l) (hl : l.length ≤ 1000000000) :
    Calls Try.prog 36 #[v] w fun e w' => e = .returned (.string (bstr (packB l))) ∧ Below w.heap.size w w' := by
  have hmk := make_u8 ((l.length + 7) / 8) (by omega)
  have hlt := h.lt
  obtain ⟨a, cap, rfl⟩ := h.shape
  have hL : ((l.length : Int) + 7) / 8 = (((l.length + 7) / 8 : Nat) : Int) := by omega
  have HT := Lib.hid (show (l.length + 7) / 8 = (l.length + 7) / 8 from rfl)
  obtain ⟨T, hT⟩ : ∃ T, (l.length + 7) / 8 = T := ⟨_, rfl⟩
  rw [hT] at hmk hL
  have hT8 : l.length ≤ 8 * T := by omega
  have HTT := Lib.hid hT
  clear hT HT
  go_enter Try.func36, Try.ntmps36
  go_wp2
  go_loopg [4] l.length (fun q i wr => ∃ j : Nat, j + q = l.length ∧ i = .int .i64 (j : Int) ∧ Row wr w.heap.size 5 (u8s (packTo l T j)) ∧ Below w.heap.size w wr)
  case atStart =>
    refine ⟨0, by omega, rfl, ?_, (Below.refl _ _).alloc (Nat.le_refl _) _⟩
    rw [packTo_zero, u8s_replicate]
    exact heap_alloc_last w _
  case round =>
    obtain ⟨j, hq, rfl, hrow, bl⟩ := hrel
    have ho := h.below bl (Nat.le_refl _)
    have hlenT := packTo_length l T j (by omega) (by omega)
    by_cases h0 : j < l.length
    · obtain ⟨g, cap', hv, hb, hg, hcell⟩ := ho.cell j h0
      simp only [Value.slice.injEq] at hv
      obtain ⟨rfl, _, rfl⟩ := hv
      have hgw := hlt g (by simp [Value.ownBlock])
      have hgs : g < w.heap.size := hgw.2
      clear hlt hgw
      obtain ⟨b, hbit⟩ : ∃ b, l[j] = b := ⟨_, rfl⟩
      have hji : l[j]? = some b := by rw [List.getElem?_eq_getElem h0, hbit]
      rw [hbit] at hcell
      have H0 := Lib.hid h
      have HO := Lib.hid ho
      have HR := Lib.hid hrow
      have HB := Lib.hid hbit
      have HJ := Lib.hid hji
      have HLT := Lib.hid hlenT
      clear h ho hbit hji hlenT hmk
      cases b with
      | false =>
        simp only [Bool.toNat_false] at hcell
        go_wp2
        go_roundg (gk - 1)
        case measure => omega
        case rel =>
          refine ⟨j + 1, by omega, by go_num, ?_, bl⟩
          rw [packTo_no l T j HJ.out (by omega)]
          exact HR.out
      | true =>
        simp only [Bool.toNat_true] at hcell
        have hj8 : j / 8 < T := by omega
        obtain ⟨x, hx⟩ : ∃ x, (packTo l T j)[j / 8]? = some x := ⟨_, List.getElem?_eq_getElem (by rw [HLT.out]; exact hj8)⟩
        have hc2 : wr.cell? ⟨w.heap.size, j / 8, none⟩ = some (.int .u8 (x : Int)) := hrow.cell (j / 8) (by simp [u8s, hx])
        have hf2 := hrow.free (j / 8)
        have hxb : x < 256 := packB_lt _ x (List.mem_of_getElem? hx)
        have HX := Lib.hid hx
        clear hrow hx
        have hj8i : (j : Int) / 8 < (T : Int) := by omega
        have hj0i : 0 ≤ (j : Int) / 8 := by omega
        have hq : j + 1 + (gk - 1) = l.length := by omega
        go_wp2
        go_region
        all_goals
          go_wp2
          go_roundg (gk - 1)
        case measure => omega
        case rel =>
          refine ⟨j + 1, hq, by go_num, ?_, ?_⟩
          · have hv := or_shift x (j % 8) hxb
            rw [packTo_yes l T j HJ.out (by omega), List.getD_eq_getElem?_getD, HX.out, u8s_set]
            have := HR.out.set (j / 8) (.int .u8 (bits BinOp.or IntKind.u8 (x : Int) (128 / 2 ^ (j % 8))))
            rw [hv] at this ⊢
            exact this
          · exact (bl.setCell (Nat.le_refl _) _).drew
    · obtain rfl : j = l.length := by omega
      have hcv := conv_row wr w.heap.size _ hrow (packB_lt _) (by rw [hlenT]; unfold maxLen; omega)
      rw [hlenT] at hcv
      have HA := Lib.hid (show packTo l T l.length = packB l by rw [← HTT.out]; exact packTo_all l)
      clear hlt h ho hmk hrow
      go_wp2
      go_ret
      exact ⟨by rw [← HA.out]; rfl, bl⟩
end Go.Proofs.Ytadfgadkihlmcaa
