/- nal's Join. -/
import Derived.Test.YtdlklcdafembhaaNH
namespace Go.Proofs.Ytdlklcdafembhaa
open Go.RowKit Zn Zo

def UU.ok (u : UU) : Prop := okU u.ref u.ty
def UU.pk (u : UU) : List UInt8 := Go.Proofs.Ytdlklcdafembhaa.pk u.ref u.ty u.rb
instance (u : UU) : Decidable u.ok := by unfold UU.ok; infer_instance

/-- Cells of a row of units. -/
def IsUnits (w : World) (b off : Nat) (L : List UU) : Prop :=
  b < w.heap.size ∧ ∀ i (h : i < L.length), w.cell? ⟨b, off + i * 3, none⟩ = some (.int .i64 L[i].ref) ∧ w.cell? ⟨b, off + i * 3 + 1, none⟩ = some (.int .i64 L[i].ty) ∧ w.cell? ⟨b, off + i * 3 + 2, none⟩ = some (.string ⟨L[i].rb.toArray⟩)

theorem IsUnits.below {w w' : World} {b off : Nat} {L : List UU} (h : IsUnits w b off L) (bl : Below w.heap.size w w') : IsUnits w' b off L :=
  ⟨Nat.lt_of_lt_of_le h.1 bl.size, fun i hi => by
    obtain ⟨h1, h2, h3⟩ := h.2 i hi
    exact ⟨(bl.cell (p := ⟨b, _, none⟩) h.1).trans h1, (bl.cell (p := ⟨b, _, none⟩) h.1).trans h2, (bl.cell (p := ⟨b, _, none⟩) h.1).trans h3⟩⟩

/-- A slice of units: nil or empty, or its cells. -/
def UnitsAt (w : World) (a : Option Addr) (L : List UU) : Prop := L = [] ∨ ∃ b off, a = some ⟨b, off, none⟩ ∧ IsUnits w b off L

theorem UnitsAt.below {w w' : World} {a : Option Addr} {L : List UU} (h : UnitsAt w a L) (bl : Below w.heap.size w w') : UnitsAt w' a L := by
  rcases h with h | ⟨b, off, h1, h2⟩
  · exact .inl h
  · exact .inr ⟨b, off, h1, h2.below bl⟩

def bulk (L : List UU) : Nat := (L.map fun u => u.rb.length + 4).sum

theorem bulk_take (L : List UU) (k : Nat) : bulk (L.take k) ≤ bulk L := by
  conv => rhs; rw [← List.take_append_drop k L]
  rw [bulk, bulk, List.map_append, List.sum_append]
  omega

theorem bulk_at (L : List UU) (k : Nat) (h : k < L.length) : L[k].rb.length + 4 ≤ bulk L := by
  conv => rhs; rw [← List.take_append_drop k L, List.drop_eq_getElem_cons h]
  simp only [bulk, List.map_append, List.sum_append, List.map_cons, List.sum_cons]
  omega

theorem strm_length : ∀ L : List UU, (strm (L.map UU.pk)).length ≤ 2 * bulk L
  | [] => by simp [strm]
  | u :: L => by
    have ih := strm_length L
    have := pk_length u.ref u.ty u.rb
    have h3 : Zn.start.length = 3 := rfl
    simp only [strm, List.map_cons, List.length_append, UU.pk, bulk, List.sum_cons, h3] at ih ⊢
    have e : (List.map UU.pk L) = List.map (fun u => Go.Proofs.Ytdlklcdafembhaa.pk u.ref u.ty u.rb) L := rfl
    rw [← e] at *
    omega

/-- What Join answers. -/
def jnAns (L : List UU) : List UInt8 × Int := if ∀ u ∈ L, u.ok then (strm (L.map UU.pk), 0) else ([], 200)

theorem strm_snoc (l : List (List UInt8)) (p : List UInt8) : strm (l ++ [p]) = strm l ++ Zn.start ++ p := by
  rw [strm_append]; simp [strm]

theorem join_any (a : Option Addr) (cap : Nat) (L : List UU) (w : World) (hu : UnitsAt w a L) (hb : bulk L ≤ 20000000) (hlen : L.length ≤ 20000000) :
    Calls Try.prog 21 #[.slice a L.length cap] w (StrPost (jnAns L) w.heap.size w) := by
  obtain ⟨B, hB⟩ : ∃ B, w.heap.size = B := ⟨_, rfl⟩
  have hb0 := Lib.hid (bd_at w B B (by omega) hB.symm)
  have bl0 : Hid (Below B w (w.alloc (.cells #[.pointer none, .slice none 0 0] 56))) := (Below.refl _ _).alloc (by omega) _
  have HU := Lib.hid hu
  rw [hB]
  have HB := Lib.hid hB
  have hBB := Nat.le_of_eq hB.symm
  clear hB hu
  go_enter Try.func21, Try.ntmps21
  go_wp2_with fail
  rw [HB.out]
  go_loopg [10] L.length (fun q iv wr => ∃ k : Nat, ∃ t, k + q = L.length ∧ iv = .int .i64 ((k : Nat) : Int) ∧ Bd wr B B t ∧ Aside (t = strm ((L.take k).map UU.pk) ∧ ∀ u ∈ L.take k, u.ok) ∧ Below B w wr)
  case atStart => exact ⟨0, [], by omega, rfl, hb0.out, ⟨by simp [strm], by simp⟩, bl0.out⟩
  case round =>
    obtain ⟨k, t, hq, rfl, ht, A, bl⟩ := hrel
    have hBr : B ≤ wr.heap.size := by have := bl.size; omega
    have htl : t.length ≤ 2 * bulk L := by
      rw [A.1]
      exact Nat.le_trans (strm_length _) (by have := bulk_take L k; omega)
    by_cases hlt : k < L.length
    · have hk1 : (k + 1) + (gk - 1) = L.length := by omega
      obtain ⟨b, off, rfl, hun⟩ : ∃ b off, a = some ⟨b, off, none⟩ ∧ IsUnits w b off L := by
        rcases HU.out with h | h
        · rw [h] at hlt; cases hlt
        · exact h
      have hul := bulk_at L k hlt
      obtain ⟨c0, c1, c2⟩ := (hun.below (bl.mono (Nat.le_refl _) |> fun x => by rw [HB.out]; exact x)).2 k hlt
      obtain ⟨u, hu⟩ : ∃ u, L[k] = u := ⟨_, rfl⟩
      rw [hu] at c0 c1 c2 hul
      have HUK := Lib.hid hu
      have HX := Lib.hid (heap_alloc_last wr (.cells #[.int .i64 u.ref, .int .i64 u.ty, .string ⟨u.rb.toArray⟩] 32))
      have ht0 := Lib.hid (ht.alloc (.cells #[.int .i64 u.ref, .int .i64 u.ty, .string ⟨u.rb.toArray⟩] 32))
      have hbB : wr.heap.size ≠ B := by have := ht.lt; omega
      have htake : Hid (L.take (k + 1) = L.take k ++ [u]) := by
        show _ = _
        rw [List.take_succ_eq_append_getElem hlt, hu]
      clear hu hun
      by_cases hok : u.ok
      · go_wp2_with fail
        refine (str_any _ B B t _ ht0.out (by simp; omega) (by show t.length + 3 ≤ _; omega)).mono ?_
        rintro e w1 ⟨rfl, g1, b1⟩
        have x1 := b1.row HX.out hbB (by decide)
        have d0 := cell_of_row w1 wr.heap.size 0 _ _ _ x1
        have d1 := cell_of_row w1 wr.heap.size 1 _ _ _ x1
        have d2 := cell_of_row w1 wr.heap.size 2 _ _ _ x1
        simp at d0 d1 d2
        have z1 := b1.size
        have HB1 := Lib.hid b1
        clear x1 b1 c0 c1 c2
        go_wp2_with fail
        refine (putPacked_yes w1 B B _ u.ref u.ty ⟨u.rb.toArray⟩ g1 (by simp at z1; omega) (by simp; omega) (by simp [ByteArray.size]; omega) hok).mono ?_
        rintro e w2 ⟨rfl, g2, b2⟩
        go_wp2_with fail
        go_roundg (gk - 1)
        case measure => omega
        case rel =>
          refine ⟨k + 1, _, hk1, by go_num, g2, ⟨?_, ?_⟩, ((bl.alloc hBr _).trans HB1.out.1).trans b2.1⟩
          · rw [htake.out, List.map_append, List.map_singleton, strm_snoc, ← A.1]
            rfl
          · rw [htake.out]
            intro x hx
            rcases List.mem_append.1 hx with h | h
            · exact A.2 x h
            · rw [List.mem_singleton.1 h]; exact hok
      · have HJ : Hid (jnAns L = ([], 200)) := by
          show _ = _
          rw [jnAns, if_neg]
          intro h
          exact hok (h u (by rw [← HUK.out]; exact List.getElem_mem hlt))
        go_wp2_with fail
        refine (str_any _ B B t _ ht0.out (by simp; omega) (by show t.length + 3 ≤ _; omega)).mono ?_
        rintro e w1 ⟨rfl, g1, b1⟩
        have x1 := b1.row HX.out hbB (by decide)
        have d0 := cell_of_row w1 wr.heap.size 0 _ _ _ x1
        have d1 := cell_of_row w1 wr.heap.size 1 _ _ _ x1
        have d2 := cell_of_row w1 wr.heap.size 2 _ _ _ x1
        simp at d0 d1 d2
        have z1 := b1.size
        have HB1 := Lib.hid b1
        clear x1 b1 c0 c1 c2
        go_wp2_with fail
        refine (putPacked_no w1 B B _ u.ref u.ty ⟨u.rb.toArray⟩ g1 (by simp at z1; omega) hok).mono ?_
        rintro e w2 ⟨rfl, g2, b2⟩
        go_wp2_with fail
        go_ret2
        exact ⟨by rw [HJ.out]; rfl, ((bl.alloc hBr _).trans HB1.out.1).trans b2.1⟩
    · obtain rfl : k = L.length := by omega
      have HJ : Hid (jnAns L = (t, 0)) := by
        show _ = _
        have h := A
        rw [List.take_length] at h
        rw [jnAns, if_pos h.2, ← h.1]
      go_wp2_with fail
      refine (string_any wr B B _ ht hBr).mono ?_
      rintro e w2 ⟨rfl, b2⟩
      go_wp2_with fail
      go_ret2
      exact ⟨by rw [HJ.out]; rfl, bl.trans b2.1⟩

end Go.Proofs.Ytdlklcdafembhaa
