/- Layer 4: the walk, whichever way, over a list. -/
import Derived.Test.YthcbgijmnonckaaGreatJH
namespace Go.Proofs.YthcbgijmnonckaaGreat
open Go.RowKit Zo Zp
set_option linter.unusedVariables false

/-- A row whose block stays safe, and is the walk's own where numbers move. -/
structure RowOk {α : Type} (C : Ctx) (k : Nat) (cells : α → List Int) (W w : World) (a : Option Addr) (l : List α) : Prop where
  row : KRow k cells w a l
  safe : ∀ x, l ≠ [] → a = some x → Safe C w x.block ∧ x.block ≠ C.kb
  own : C.moves = true → ∀ x, l ≠ [] → a = some x → C.base ≤ x.block ∧ W.heap.size ≤ x.block

theorem RowOk.nil {α : Type} (C : Ctx) (k : Nat) (cells : α → List Int) (W w : World) (a : Option Addr) : RowOk (α := α) C k cells W w a [] :=
  ⟨KRow.nil _ _ _ _, fun _ h => absurd rfl h, fun _ _ h => absurd rfl h⟩

theorem RowOk.fr {α : Type} {C : Ctx} {k : Nat} {cells : α → List Int} {W w w' : World} {a : Option Addr} {l : List α} {Y : Nat → Prop} (h : RowOk C k cells W w a l) (f : Fr (Un C w Y) w w') (hY : C.moves = true → ∀ x, l ≠ [] → a = some x → ¬ Y x.block) : RowOk C k cells W w' a l := by
  by_cases hl : l = []
  · subst hl; exact RowOk.nil C k cells W w' a
  · have n := fun x (hx : a = some x) => not_un (Y := Y) (h.safe x hl hx).1 (h.safe x hl hx).2 (fun hm => hY hm x hl hx)
    refine ⟨h.row.fr f n, fun x _ hx => ⟨(h.safe x hl hx).1.eq (f.block _ ?_ (n x hx)), (h.safe x hl hx).2⟩, fun hm x _ hx => h.own hm x hl hx⟩
    obtain ⟨b, o, ha, hb, _⟩ := h.row hl
    rw [hx] at ha
    cases ha
    exact hb

/-- What a list's walk leaves: the list's field, the row that it tells. -/
structure Listed {α : Type} (C : Ctx) (k : Nat) (cells : α → List Int) (w : World) (hb f : Nat) (cs : Array Value) (t : TypeId) (l' : List α) (w' : World) : Prop where
  all : ∃ a' cap', w'.heap[hb]? = some (.cells (cs.setIfInBounds f (.slice a' l'.length cap')) t (0, 0)) ∧ RowOk C k cells w w' a' l'
  fr : Fr (Un C w (fun k => k = hb)) w w'

def zeroCells (n : Nat) : Array Value := (List.replicate n (.int .i64 0)).toArray

theorem zeroCells_at {n i : Nat} (h : i < n) : (zeroCells n)[i]? = some (.int .i64 0) := by
  unfold zeroCells
  simp [h]

theorem enough_at {α : Type} (zero : α) (n : Int) (l : List α) (h : ¬ (l.length : Int) < n) : enough zero n l = l := if_neg h

theorem krow_turn {α : Type} {k : Nat} {cells : α → List Int} {w w' : World} {b o : Nat} {d : List α} {x y : α} {r : List α} (hk : ∀ z : α, (cells z).length = k) (h : KRow k cells w (some ⟨b, o, none⟩) (d ++ x :: r)) (hb : b < w'.heap.size)
    (hn : ∀ j z, (cells y)[j]? = some z → w'.cell? ⟨b, o + d.length * k + j, none⟩ = some (.int .i64 z))
    (ho : ∀ q, ¬ (o + d.length * k ≤ q ∧ q < o + d.length * k + k) → w'.cell? ⟨b, q, none⟩ = w.cell? ⟨b, q, none⟩) : KRow k cells w' (some ⟨b, o, none⟩) (d ++ y :: r) := by
  intro hl
  obtain ⟨b', o', e, _, hc⟩ := h (by simp)
  cases e
  refine ⟨b, o, rfl, hb, fun i hi j z hz => ?_⟩
  have hj : j < k := by
    have := (List.getElem?_eq_some_iff.1 hz).1
    rwa [hk] at this
  by_cases hid : i = d.length
  · subst hid
    rw [show (d ++ y :: r)[d.length] = y from by simp] at hz
    exact hn j z hz
  · have hi2 : i < (d ++ x :: r).length := by simpa using hi
    have ex : (d ++ y :: r)[i] = (d ++ x :: r)[i] := by
      rw [List.getElem_append, List.getElem_append]
      split
      · rfl
      · rename_i h2
        rw [List.getElem_cons, List.getElem_cons, dif_neg (by omega), dif_neg (by omega)]
    rw [ex] at hz
    rw [ho]
    · exact hc i hi2 j z hz
    · rcases (show i + 1 ≤ d.length ∨ d.length + 1 ≤ i by omega) with g | g
      · have := Nat.mul_le_mul_right k g
        rw [Nat.add_mul] at this
        omega
      · have := Nat.mul_le_mul_right k g
        rw [Nat.add_mul] at this
        omega

section
variable {σ : Type} {C : Ctx} {F : WayFns σ} {fuel : σ → Nat} {way : World → σ → Prop}

theorem info_Mod : (Tryz.prog.info? 128).map (fun i => (i.zero, i.size, i.bytes)) = some (some (.agg #[.int .i64 0, .int .i64 0]), 2, 16) := by kernel_rfl

theorem make_Mod (n : Nat) (hn : n ≤ 1000000) (w : World) :
    (Instr.makeSlice 22 (.int .i64 (n : Int)) (.int .i64 (n : Int))).run Tryz.prog w = .ok (.slice (some ⟨w.heap.size, 0, none⟩) n n) (w.alloc (.cells (zeroCells (n * 2)) 128)) := by
  obtain ⟨i0, hi, hz0, hz1, hz2⟩ := info_parts info_Mod
  have hr := run_make (P := Tryz.prog) w 22 128 i0 (.agg #[.int .i64 0, .int .i64 0]) Tryz.underlying22 hi hz0 .i64 .i64 (n : Int) (n : Int) (by omega) (by omega) (by rw [hz2]; omega) (by omega)
  rw [hr, hz1, Int.toNat_natCast]
  have e : madeCells (.agg #[.int .i64 0, .int .i64 0] : Value).cells (n * 2) = zeroCells (n * 2) := by
    apply Array.ext
    · simp [madeCells, zeroCells]
    · intro i h1 h2
      have hm : i % 2 < 2 := Nat.mod_lt _ (by decide)
      have hs : (.agg #[.int .i64 0, .int .i64 0] : Value).cells = #[Value.int .i64 0, Value.int .i64 0] := rfl
      simp only [madeCells, hs, zeroCells, Array.getElem_map, Array.getElem_range, List.getElem_toArray, List.getElem_replicate]
      show (#[Value.int .i64 0, Value.int .i64 0] : Array Value)[i % 2]! = _
      rcases (show i % 2 = 0 ∨ i % 2 = 1 by omega) with e | e <;> rw [e] <;> rfl
  rw [e]

theorem info_Weight : (Tryz.prog.info? 73).map (fun i => (i.zero, i.size, i.bytes)) = some (some (.agg #[.int .i64 0, .int .i64 0, .int .i64 0, .int .i64 0, .int .i64 0, .int .i64 0]), 6, 48) := by kernel_rfl

theorem make_Weight (n : Nat) (hn : n ≤ 1000000) (w : World) :
    (Instr.makeSlice 23 (.int .i64 (n : Int)) (.int .i64 (n : Int))).run Tryz.prog w = .ok (.slice (some ⟨w.heap.size, 0, none⟩) n n) (w.alloc (.cells (zeroCells (n * 6)) 73)) := by
  obtain ⟨i0, hi, hz0, hz1, hz2⟩ := info_parts info_Weight
  have hr := run_make (P := Tryz.prog) w 23 73 i0 (.agg #[.int .i64 0, .int .i64 0, .int .i64 0, .int .i64 0, .int .i64 0, .int .i64 0]) Tryz.underlying23 hi hz0 .i64 .i64 (n : Int) (n : Int) (by omega) (by omega) (by rw [hz2]; omega) (by omega)
  rw [hr, hz1, Int.toNat_natCast]
  have e : madeCells (.agg #[.int .i64 0, .int .i64 0, .int .i64 0, .int .i64 0, .int .i64 0, .int .i64 0] : Value).cells (n * 6) = zeroCells (n * 6) := by
    apply Array.ext
    · simp [madeCells, zeroCells]
    · intro i h1 h2
      have hm : i % 6 < 6 := Nat.mod_lt _ (by decide)
      have hs : (.agg #[.int .i64 0, .int .i64 0, .int .i64 0, .int .i64 0, .int .i64 0, .int .i64 0] : Value).cells = #[Value.int .i64 0, Value.int .i64 0, Value.int .i64 0, Value.int .i64 0, Value.int .i64 0, Value.int .i64 0] := rfl
      simp only [madeCells, hs, zeroCells, Array.getElem_map, Array.getElem_range, List.getElem_toArray, List.getElem_replicate]
      show (#[Value.int .i64 0, Value.int .i64 0, Value.int .i64 0, Value.int .i64 0, Value.int .i64 0, Value.int .i64 0] : Array Value)[i % 6]! = _
      rcases (show i % 6 = 0 ∨ i % 6 = 1 ∨ i % 6 = 2 ∨ i % 6 = 3 ∨ i % 6 = 4 ∨ i % 6 = 5 by omega) with e | e | e | e | e | e <;> rw [e] <;> rfl
  rw [e]

theorem info_Op : (Tryz.prog.info? 69).map (fun i => (i.zero, i.size, i.bytes)) = some (some (.agg #[.int .i64 0, .int .i64 0, .int .i64 0]), 3, 24) := by kernel_rfl

theorem make_Op (n : Nat) (hn : n ≤ 1000000) (w : World) :
    (Instr.makeSlice 24 (.int .i64 (n : Int)) (.int .i64 (n : Int))).run Tryz.prog w = .ok (.slice (some ⟨w.heap.size, 0, none⟩) n n) (w.alloc (.cells (zeroCells (n * 3)) 69)) := by
  obtain ⟨i0, hi, hz0, hz1, hz2⟩ := info_parts info_Op
  have hr := run_make (P := Tryz.prog) w 24 69 i0 (.agg #[.int .i64 0, .int .i64 0, .int .i64 0]) Tryz.underlying24 hi hz0 .i64 .i64 (n : Int) (n : Int) (by omega) (by omega) (by rw [hz2]; omega) (by omega)
  rw [hr, hz1, Int.toNat_natCast]
  have e : madeCells (.agg #[.int .i64 0, .int .i64 0, .int .i64 0] : Value).cells (n * 3) = zeroCells (n * 3) := by
    apply Array.ext
    · simp [madeCells, zeroCells]
    · intro i h1 h2
      have hm : i % 3 < 3 := Nat.mod_lt _ (by decide)
      have hs : (.agg #[.int .i64 0, .int .i64 0, .int .i64 0] : Value).cells = #[Value.int .i64 0, Value.int .i64 0, Value.int .i64 0] := rfl
      simp only [madeCells, hs, zeroCells, Array.getElem_map, Array.getElem_range, List.getElem_toArray, List.getElem_replicate]
      show (#[Value.int .i64 0, Value.int .i64 0, Value.int .i64 0] : Array Value)[i % 3]! = _
      rcases (show i % 3 = 0 ∨ i % 3 = 1 ∨ i % 3 = 2 by omega) with e | e | e <;> rw [e] <;> rfl
  rw [e]

theorem Un.trans' {X Y : Nat → Prop} {a b c : World} (h : Fr (Un C a X) a b) (k : Fr (Un C b Y) b c) (hY : C.moves = true → ∀ i, i < a.heap.size → Y i → X i) : Fr (Un C a X) a c := by
  cases hm : C.moves with
  | true => exact Un.trans h k (hY hm)
  | false =>
    refine Un.trans h (Fr.mono k (T := Un C b X) (fun i hi hu => ?_)) (fun _ _ e => e)
    rcases hu with e | e | ⟨e, _⟩
    · exact .inl e
    · exact .inr (.inl e)
    · rw [hm] at e; cases e

/-- A list's walk under way: d is behind it, r is to come. -/
structure Lp {α : Type} (C : Ctx) (fuel : σ → Nat) (way : World → σ → Prop) (k : Nat) (cells : α → List Int) (item : α → Ws σ → α × Ws σ) (cost n : Nat) (w : World) (hb f : Nat) (cs : Array Value) (t : TypeId) (A : Option Addr) (cap' : Nat) (L : List α) (s : Ws σ) (q : Nat) (d r : List α) (s1 : Ws σ) (wr : World) : Prop where
  st : St C fuel way (n + cost * q) wr s1
  fr : Fr (Un C w (fun k => k = hb)) w wr
  row : wr.heap[hb]? = some (.cells (cs.setIfInBounds f (.slice A L.length cap')) t (0, 0))
  rk : RowOk C k cells w wr A (d ++ r)
  len : d.length + r.length = L.length
  q : r.length = q
  many : fMany item L s = (d ++ (fMany item r s1).1, (fMany item r s1).2)

section
variable {α : Type} {k : Nat} {cells : α → List Int} {item : α → Ws σ → α × Ws σ} {cost n : Nat} {w : World} {hb f : Nat} {cs : Array Value} {t : TypeId} {A : Option Addr} {cap' : Nat} {L : List α} {s : Ws σ} {q : Nat} {d r : List α} {s1 : Ws σ} {wr : World}

theorem Lp.done (h : Lp C fuel way k cells item cost n w hb f cs t A cap' L s 0 d r s1 wr) : St C fuel way n wr (fMany item L s).2 ∧ Listed C k cells w hb f cs t (fMany item L s).1 wr := by
  have hr := List.eq_nil_of_length_eq_zero h.q
  have hs := h.st
  have hm := h.many
  have hrow := h.row
  have hrk := h.rk
  have hl := h.len
  rw [hr] at hm hrk hl
  simp only [List.append_nil, List.length_nil, Nat.add_zero, Nat.mul_zero, fMany] at hm hrk hl hs
  rw [hm]
  rw [← hl] at hrow
  exact ⟨hs, ⟨A, cap', hrow, hrk⟩, h.fr⟩

theorem Lp.next {x : α} {b o : Nat} {w2 : World} (hk : ∀ z : α, (cells z).length = k) (ht : t ≠ 82 ∧ t ≠ 5 ∧ t ≠ 116) (hne : hb ≠ C.kb) (hlt : hb < w.heap.size)
    (h : Lp C fuel way k cells item cost n w hb f cs t (some ⟨b, o, none⟩) cap' L s (q + 1) d (x :: r) s1 wr) (hs : St C fuel way (n + cost * q) w2 (item x s1).2) (dd : Did C wr b (fun z => o + d.length * k ≤ z ∧ z < o + d.length * k + k) w2)
    (hn : ∀ j z, (cells (item x s1).1)[j]? = some z → w2.cell? ⟨b, o + d.length * k + j, none⟩ = some (.int .i64 z)) :
    Lp C fuel way k cells item cost n w hb f cs t (some ⟨b, o, none⟩) cap' L s q (d ++ [(item x s1).1]) r (item x s1).2 w2 := by
  have hlb : b < wr.heap.size := by
    obtain ⟨b', o', e, hb', _⟩ := h.rk.row (by simp)
    cases e
    exact hb'
  have own := fun hm => (h.rk.own hm ⟨b, o, none⟩ (by simp) rfl).2
  have hbs : Safe C wr hb := .inr (Prot.of h.row ht)
  refine ⟨hs, Un.trans' h.fr dd.fr (fun hm i hi e => ?_), ?_, ?_, ?_, ?_, ?_⟩
  · have := own hm
    simp only at this
    omega
  · rw [dd.fr.block hb (row_lt h.row) (not_un hbs hne (fun hm e => ?_)), h.row]
    have := own hm
    simp only at this
    omega
  · rw [List.append_assoc]
    refine ⟨krow_turn hk h.rk.row (Nat.lt_of_lt_of_le hlb dd.fr.size) hn dd.other, fun z _ hz => ?_, fun hm z _ hz => h.rk.own hm z (by simp) hz⟩
    cases hz
    exact ⟨dd.safe, (h.rk.safe _ (by simp) rfl).2⟩
  · have := h.len
    simp only [List.length_cons, List.length_append, List.length_nil] at this ⊢
    omega
  · have := h.q
    simp only [List.length_cons] at this
    omega
  · rw [h.many]
    simp [fMany]

theorem Lp.elem {x : α} (h : Lp C fuel way k cells item cost n w hb f cs t A cap' L s q d (x :: r) s1 wr) : ∃ b o, A = some ⟨b, o, none⟩ ∧ ∀ j z, (cells x)[j]? = some z → Cell C wr b (o + d.length * k + j) (.int .i64 z) := by
  have hi : d.length < (d ++ x :: r).length := by simp
  obtain ⟨b, o, e, hlb, hc⟩ := h.rk.row.at hi
  refine ⟨b, o, e, fun j z hz => ⟨?_, hlb, (h.rk.safe _ (by simp) e).1, fun hm => (h.rk.own hm _ (by simp) e).1, (h.rk.safe _ (by simp) e).2⟩⟩
  exact hc j z (by rw [show (d ++ x :: r)[d.length] = x from by simp]; exact hz)
end

set_option maxRecDepth 100000 in
set_option maxHeartbeats 1000000 in
theorem listMod_any (ok : WayOk C F fuel way) (w : World) (n : Nat) (s : Ws σ) (hb f : Nat) (cs : Array Value) (t : TypeId) (l : List ModN) (a : Option Addr) (cap : Nat) (m : Int) (hst : St C fuel way (n + 100) w s)
    (hrow : w.heap[hb]? = some (.cells cs t (0, 0))) (ht : t ≠ 82 ∧ t ≠ 5 ∧ t ≠ 116) (hne : hb ≠ C.kb) (hf : cs[f]? = some (.slice a l.length cap)) (R : RowOk C 2 modI w w a l)
    (hm : C.moves = true → l = []) (hw : C.moves = false → s.c = 0 → m ≤ l.length) (hn : s.c = 0 → m ≤ 16) (hl16 : l.length ≤ 16) :
    Calls Tryz.prog 130 #[.pointer (some ⟨C.kb, 0, none⟩), .pointer (some ⟨hb, f, none⟩), .int .i64 m, .func (.func 112) #[.pointer (some ⟨C.kb, 0, none⟩)] #[]] w fun e w' =>
      e = .returned (.tuple #[]) ∧ St C fuel way n w' (fList ModN.zero (fMod F) m l s).2 ∧ Listed C 2 modI w hb f cs t (fList ModN.zero (fMod F) m l s).1 w' := by
  have c21 : w.cell? ⟨C.kb, 21, none⟩ = some (.int .i64 s.c) := hst.k.cell 21 _ rfl
  have OK := Lib.hid ok
  have HT := Lib.hid ht
  have hlt := row_lt hrow
  by_cases h0 : s.c = 0
  · by_cases hlm : (l.length : Int) < m
    · have hmv : C.moves = true := by
        cases e : C.moves with
        | true => rfl
        | false => have := hw e h0; omega
      have hl := hm hmv
      subst hl
      obtain ⟨nn, rfl⟩ : ∃ nn : Nat, m = (nn : Int) := ⟨m.toNat, by simp at hlm; omega⟩
      have hn16 := hn h0
      have hfs : f < cs.size := (Array.getElem?_eq_some_iff.1 hf).1
      have e1 : fList ModN.zero (fMod F) (nn : Int) [] s = fMany (fMod F) (List.replicate nn ModN.zero) s := by
        unfold fList enough
        rw [if_pos h0, if_pos (by simpa using hlm), Int.toNat_natCast]
      rw [e1]
      have cf : w.cell? ⟨hb, f, none⟩ = some (.slice a 0 cap) := by rw [cell_of_row w hb f _ _ _ hrow]; exact hf
      have hmk := make_Mod nn (by omega)
      have r1 : (w.alloc (.cells (zeroCells (nn * 2)) 128)).heap[hb]? = some (.cells cs t (0, 0)) := (heap_alloc_other hlt).trans hrow
      have cf1 : (w.alloc (.cells (zeroCells (nn * 2)) 128)).cell? ⟨hb, f, none⟩ = some (.slice a 0 cap) := by rw [cell_of_row _ hb f _ _ _ r1]; exact hf
      have zf1 : (w.alloc (.cells (zeroCells (nn * 2)) 128)).frozen? ⟨hb, f, none⟩ = false := free_row r1 f
      have r0 := heap_setCell_row hrow f (.slice (some ⟨w.heap.size, 0, none⟩) nn nn)
      have hs0 : (w.setCell ⟨hb, f, none⟩ (.slice (some ⟨w.heap.size, 0, none⟩) nn nn)).heap.size = w.heap.size := by simp [World.setCell]
      have r2 := (heap_alloc_other (o := .cells (zeroCells (nn * 2)) 128) (row_lt r0)).trans r0
      have g2 : ((w.setCell ⟨hb, f, none⟩ (.slice (some ⟨w.heap.size, 0, none⟩) nn nn)).alloc (.cells (zeroCells (nn * 2)) 128)).cell? ⟨hb, f, none⟩ = some (.slice (some ⟨w.heap.size, 0, none⟩) nn nn) := by rw [cell_of_row _ hb f _ _ _ r2, Array.getElem?_setIfInBounds, if_pos rfl, if_pos hfs]
      have SL := Lib.hid (show (cs.setIfInBounds f (.slice (some ⟨w.heap.size, 0, none⟩) nn nn))[f]? = some (.slice (some ⟨w.heap.size, 0, none⟩) nn nn) from by rw [Array.getElem?_setIfInBounds, if_pos rfl, if_pos hfs])
      obtain ⟨LL, hLL⟩ : ∃ L, List.replicate nn ModN.zero = L := ⟨_, rfl⟩
      have hLn : LL.length = nn := by rw [← hLL]; simp
      rw [hLL]
      have rz : ((w.setCell ⟨hb, f, none⟩ (.slice (some ⟨w.heap.size, 0, none⟩) nn nn)).alloc (.cells (zeroCells (nn * 2)) 128)).heap[w.heap.size]? = some (.cells (zeroCells (nn * 2)) 128 (0, 0)) := by
        have := heap_alloc_last (w.setCell ⟨hb, f, none⟩ (.slice (some ⟨w.heap.size, 0, none⟩) nn nn)) (.cells (zeroCells (nn * 2)) 128)
        rwa [hs0] at this
      have hsz := row_lt rz
      have L0 : Hid (Lp C fuel way 2 modI (fMod F) 2 n w hb f cs t (some ⟨w.heap.size, 0, none⟩) nn LL s nn [] LL s ((w.setCell ⟨hb, f, none⟩ (.slice (some ⟨w.heap.size, 0, none⟩) nn nn)).alloc (.cells (zeroCells (nn * 2)) 128))) := Lib.hid (by
        have s1 : St C fuel way (n + 100) (w.setCell ⟨hb, f, none⟩ (.slice (some ⟨w.heap.size, 0, none⟩) nn nn)) s := ⟨⟨(Zo.heap_setCell_other _ (Ne.symm hne)).trans hst.k.row, hst.k.base⟩, ok.hold _ _ s.s (fun j => j = hb) hst.way (set_fr _ hb f _) (fun j _ e => by rw [e]; exact Prot.of hrow ht), hst.fuel⟩
        refine ⟨(s1.alloc ok _).less (by omega), Fr.alloc (Fr.setCell (S := Un C w (fun k => k = hb)) (p := ⟨hb, f, none⟩) (Fr.refl _ _) (fun _ => .inr (.inr ⟨hmv, rfl⟩)) _) _, by rw [hLn]; exact r2, ?_, by simp, hLn, by simp⟩
        · refine ⟨?_, fun x _ hx => ?_, fun _ x _ hx => ?_⟩
          · intro _
            refine ⟨w.heap.size, 0, rfl, hsz, fun i hi j z hz => ?_⟩
            have hi' : i < nn := by simpa [hLn] using hi
            have ez : ([] ++ LL)[i] = ModN.zero := by simp [← hLL]
            rw [ez] at hz
            have hj : j < 2 := (List.getElem?_eq_some_iff.1 hz).1
            have : z = 0 := by
              rcases (show j = 0 ∨ j = 1 by omega) with rfl | rfl <;> (cases hz; rfl)
            subst this
            rw [cell_of_row _ _ _ _ _ _ rz]
            exact zeroCells_at (by omega)
          · cases hx
            refine ⟨.inr (Prot.of rz ⟨by decide, by decide, by decide⟩), ?_⟩
            have := row_lt hst.k.row
            simp only
            omega
          · cases hx
            have := row_lt hst.k.row
            have := hst.k.base
            simp only
            omega)
      have hb0 : (s.c != 0) = false := by simp [h0]
      rw [h0] at c21
      have hlm' : (0 : Int) < (nn : Int) := by simpa using hlm
      clear hst hrow ok R hm hw hn hf e1 hlm hl16 r1 r0 hs0 r2 rz hsz ht
      go_enter Tryz.func130, Tryz.ntmps130
      go_wp2_with fail
      have hnn : 0 < nn := by omega
      simp only [hnn, decide_true]
      go_loopg [28] nn (fun g i wr => ∃ (d r : List ModN) (s1 : Ws σ), d.length + g = nn ∧ i = .int .i64 (d.length : Int) ∧ Hid (Lp C fuel way 2 modI (fMod F) 2 n w hb f cs t (some ⟨w.heap.size, 0, none⟩) nn LL s g d r s1 wr))
      case atStart => exact ⟨[], LL, s, by simp, rfl, L0⟩
      case round =>
        obtain ⟨d, r, s1, hg, rfl, LP⟩ := hrel
        cases gk with
        | zero =>
          have P := Lib.hid LP.out.done
          clear LP
          go_wp2_with fail
          go_end0
          exact ⟨rfl, P.out⟩
        | succ g =>
          obtain ⟨x, r', rfl⟩ : ∃ x r', r = x :: r' := by
            cases r with
            | nil => have := LP.out.q; simp at this
            | cons x r' => exact ⟨x, r', rfl⟩
          obtain ⟨x0, x1⟩ := x
          obtain ⟨b, o, eA, hce⟩ := LP.out.elem
          have hlen := LP.out.len
          have hcell : wr.cell? ⟨hb, f, none⟩ = some (.slice (some ⟨w.heap.size, 0, none⟩) nn nn) := by rw [cell_of_row wr hb f _ _ _ LP.out.row]; first | exact SL.out | (rw [hLn]; exact SL.out)
          rw [eA] at hcell
          have CE := Lib.hid (⟨hce 0 x0 rfl, hce 1 x1 rfl⟩ : Cell C wr b (o + d.length * 2 + 0) (.int .i64 x0) ∧ Cell C wr b (o + d.length * 2 + 1) (.int .i64 x1))
          have S2 := Lib.hid (LP.out.st.less (show n + 2 * g + 2 ≤ n + 2 * (g + 1) by omega))
          have LQ := Lib.hid (eA ▸ LP.out)
          have EA := Lib.hid eA
          clear LP hce eA
          go_wp2_with fail
          refine (mod_any OK.out _ (n + 2 * g) s1 b (o + d.length * 2) ⟨x0, x1⟩ S2.out CE.out.1 CE.out.2).mono ?_
          rintro e w2 ⟨rfl, s2, dd, y0, y1⟩
          have LR := Lib.hid (Lp.next (k := 2) (cells := modI) (item := fMod F) (fun z => rfl) HT.out hne hlt LQ.out s2 dd (fun j z hz => by
            rcases j with _ | _ | j
            · cases hz; exact y0.cell
            · cases hz; exact y1.cell
            · cases hz))
          clear s2 dd y0 y1 LQ
          go_wp2_with fail
          go_roundg g
          case measure => omega
          case rel => exact ⟨d ++ [(fMod F ⟨x0, x1⟩ s1).1], r', _, by simp; omega, by simp, Lib.hid (EA.out.symm ▸ LR.out)⟩

    · have e1 : fList ModN.zero (fMod F) m l s = fMany (fMod F) l s := by
        unfold fList
        rw [if_pos h0, enough_at _ _ _ hlm]
      rw [e1]
      have cf : w.cell? ⟨hb, f, none⟩ = some (.slice a l.length cap) := by rw [cell_of_row w hb f _ _ _ hrow]; exact hf
      have SL := Lib.hid (show (cs.setIfInBounds f (.slice a l.length cap))[f]? = some (.slice a l.length cap) from by rw [set_same hf]; exact hf)
      have L0 : Hid (Lp C fuel way 2 modI (fMod F) 2 n w hb f cs t a cap l s l.length [] l s w) := Lib.hid ⟨hst.less (by omega), Fr.refl _ _, by rw [set_same hf]; exact hrow, R, by simp, rfl, by simp⟩
      rw [h0] at c21
      clear hst hrow ok R hm hw hn hf e1 ht
      go_enter Tryz.func130, Tryz.ntmps130
      go_wp2_with fail
      go_loopg [28] l.length (fun g i wr => ∃ (d r : List ModN) (s1 : Ws σ), d.length + g = l.length ∧ i = .int .i64 (d.length : Int) ∧ Hid (Lp C fuel way 2 modI (fMod F) 2 n w hb f cs t a cap l s g d r s1 wr))
      case atStart => exact ⟨[], l, s, by simp, rfl, L0⟩
      case round =>
        obtain ⟨d, r, s1, hg, rfl, LP⟩ := hrel
        cases gk with
        | zero =>
          have P := Lib.hid LP.out.done
          clear LP
          go_wp2_with fail
          go_end0
          exact ⟨rfl, P.out⟩
        | succ g =>
          obtain ⟨x, r', rfl⟩ : ∃ x r', r = x :: r' := by
            cases r with
            | nil => have := LP.out.q; simp at this
            | cons x r' => exact ⟨x, r', rfl⟩
          obtain ⟨x0, x1⟩ := x
          obtain ⟨b, o, eA, hce⟩ := LP.out.elem
          have hlen := LP.out.len
          have hcell : wr.cell? ⟨hb, f, none⟩ = some (.slice a l.length cap) := by rw [cell_of_row wr hb f _ _ _ LP.out.row]; first | exact SL.out | (rw [hLn]; exact SL.out)
          rw [eA] at hcell
          have CE := Lib.hid (⟨hce 0 x0 rfl, hce 1 x1 rfl⟩ : Cell C wr b (o + d.length * 2 + 0) (.int .i64 x0) ∧ Cell C wr b (o + d.length * 2 + 1) (.int .i64 x1))
          have S2 := Lib.hid (LP.out.st.less (show n + 2 * g + 2 ≤ n + 2 * (g + 1) by omega))
          have LQ := Lib.hid (eA ▸ LP.out)
          have EA := Lib.hid eA
          clear LP hce eA
          go_wp2_with fail
          refine (mod_any OK.out _ (n + 2 * g) s1 b (o + d.length * 2) ⟨x0, x1⟩ S2.out CE.out.1 CE.out.2).mono ?_
          rintro e w2 ⟨rfl, s2, dd, y0, y1⟩
          have LR := Lib.hid (Lp.next (k := 2) (cells := modI) (item := fMod F) (fun z => rfl) HT.out hne hlt LQ.out s2 dd (fun j z hz => by
            rcases j with _ | _ | j
            · cases hz; exact y0.cell
            · cases hz; exact y1.cell
            · cases hz))
          clear s2 dd y0 y1 LQ
          go_wp2_with fail
          go_roundg g
          case measure => omega
          case rel => exact ⟨d ++ [(fMod F ⟨x0, x1⟩ s1).1], r', _, by simp; omega, by simp, Lib.hid (EA.out.symm ▸ LR.out)⟩

  · rw [fList_idle h0]
    have P := Lib.hid (⟨hst.less (by omega), ⟨a, cap, by rw [set_same hf]; exact hrow, R⟩, Fr.refl _ _⟩ : St C fuel way n w s ∧ Listed C 2 modI w hb f cs t l w)
    have hb0 : (s.c != 0) = true := by simp [h0]
    generalize s.c = sc at *
    clear hst hrow ok R hm hw hn h0 hf ht
    go_enter Tryz.func130, Tryz.ntmps130
    go_wp2_with fail
    first | go_end0 | (simp only [Exit.inBlock, Exit.then]; refine bodyPost_ret (results_none rfl _ _ _) rfl ?_) | refine bodyPost_ret (results_none rfl _ _ _) rfl ?_
    exact ⟨rfl, P.out⟩

set_option maxRecDepth 100000 in
set_option maxHeartbeats 1000000 in
theorem listWeight_any (ok : WayOk C F fuel way) (w : World) (n : Nat) (s : Ws σ) (hb f : Nat) (cs : Array Value) (t : TypeId) (l : List WeightN) (a : Option Addr) (cap : Nat) (m : Int) (hst : St C fuel way (n + 100) w s)
    (hrow : w.heap[hb]? = some (.cells cs t (0, 0))) (ht : t ≠ 82 ∧ t ≠ 5 ∧ t ≠ 116) (hne : hb ≠ C.kb) (hf : cs[f]? = some (.slice a l.length cap)) (R : RowOk C 6 weightI w w a l)
    (hm : C.moves = true → l = []) (hw : C.moves = false → s.c = 0 → m ≤ l.length) (hn : s.c = 0 → m ≤ 16) (hl16 : l.length ≤ 16) :
    Calls Tryz.prog 113 #[.pointer (some ⟨C.kb, 0, none⟩), .pointer (some ⟨hb, f, none⟩), .int .i64 m, .func (.func 114) #[.pointer (some ⟨C.kb, 0, none⟩)] #[]] w fun e w' =>
      e = .returned (.tuple #[]) ∧ St C fuel way n w' (fList WeightN.zero (fWeight F) m l s).2 ∧ Listed C 6 weightI w hb f cs t (fList WeightN.zero (fWeight F) m l s).1 w' := by
  have c21 : w.cell? ⟨C.kb, 21, none⟩ = some (.int .i64 s.c) := hst.k.cell 21 _ rfl
  have OK := Lib.hid ok
  have HT := Lib.hid ht
  have hlt := row_lt hrow
  by_cases h0 : s.c = 0
  · by_cases hlm : (l.length : Int) < m
    · have hmv : C.moves = true := by
        cases e : C.moves with
        | true => rfl
        | false => have := hw e h0; omega
      have hl := hm hmv
      subst hl
      obtain ⟨nn, rfl⟩ : ∃ nn : Nat, m = (nn : Int) := ⟨m.toNat, by simp at hlm; omega⟩
      have hn16 := hn h0
      have hfs : f < cs.size := (Array.getElem?_eq_some_iff.1 hf).1
      have e1 : fList WeightN.zero (fWeight F) (nn : Int) [] s = fMany (fWeight F) (List.replicate nn WeightN.zero) s := by
        unfold fList enough
        rw [if_pos h0, if_pos (by simpa using hlm), Int.toNat_natCast]
      rw [e1]
      have cf : w.cell? ⟨hb, f, none⟩ = some (.slice a 0 cap) := by rw [cell_of_row w hb f _ _ _ hrow]; exact hf
      have hmk := make_Weight nn (by omega)
      have r1 : (w.alloc (.cells (zeroCells (nn * 6)) 73)).heap[hb]? = some (.cells cs t (0, 0)) := (heap_alloc_other hlt).trans hrow
      have cf1 : (w.alloc (.cells (zeroCells (nn * 6)) 73)).cell? ⟨hb, f, none⟩ = some (.slice a 0 cap) := by rw [cell_of_row _ hb f _ _ _ r1]; exact hf
      have zf1 : (w.alloc (.cells (zeroCells (nn * 6)) 73)).frozen? ⟨hb, f, none⟩ = false := free_row r1 f
      have r0 := heap_setCell_row hrow f (.slice (some ⟨w.heap.size, 0, none⟩) nn nn)
      have hs0 : (w.setCell ⟨hb, f, none⟩ (.slice (some ⟨w.heap.size, 0, none⟩) nn nn)).heap.size = w.heap.size := by simp [World.setCell]
      have r2 := (heap_alloc_other (o := .cells (zeroCells (nn * 6)) 73) (row_lt r0)).trans r0
      have g2 : ((w.setCell ⟨hb, f, none⟩ (.slice (some ⟨w.heap.size, 0, none⟩) nn nn)).alloc (.cells (zeroCells (nn * 6)) 73)).cell? ⟨hb, f, none⟩ = some (.slice (some ⟨w.heap.size, 0, none⟩) nn nn) := by rw [cell_of_row _ hb f _ _ _ r2, Array.getElem?_setIfInBounds, if_pos rfl, if_pos hfs]
      have SL := Lib.hid (show (cs.setIfInBounds f (.slice (some ⟨w.heap.size, 0, none⟩) nn nn))[f]? = some (.slice (some ⟨w.heap.size, 0, none⟩) nn nn) from by rw [Array.getElem?_setIfInBounds, if_pos rfl, if_pos hfs])
      obtain ⟨LL, hLL⟩ : ∃ L, List.replicate nn WeightN.zero = L := ⟨_, rfl⟩
      have hLn : LL.length = nn := by rw [← hLL]; simp
      rw [hLL]
      have rz : ((w.setCell ⟨hb, f, none⟩ (.slice (some ⟨w.heap.size, 0, none⟩) nn nn)).alloc (.cells (zeroCells (nn * 6)) 73)).heap[w.heap.size]? = some (.cells (zeroCells (nn * 6)) 73 (0, 0)) := by
        have := heap_alloc_last (w.setCell ⟨hb, f, none⟩ (.slice (some ⟨w.heap.size, 0, none⟩) nn nn)) (.cells (zeroCells (nn * 6)) 73)
        rwa [hs0] at this
      have hsz := row_lt rz
      have L0 : Hid (Lp C fuel way 6 weightI (fWeight F) 6 n w hb f cs t (some ⟨w.heap.size, 0, none⟩) nn LL s nn [] LL s ((w.setCell ⟨hb, f, none⟩ (.slice (some ⟨w.heap.size, 0, none⟩) nn nn)).alloc (.cells (zeroCells (nn * 6)) 73))) := Lib.hid (by
        have s1 : St C fuel way (n + 100) (w.setCell ⟨hb, f, none⟩ (.slice (some ⟨w.heap.size, 0, none⟩) nn nn)) s := ⟨⟨(Zo.heap_setCell_other _ (Ne.symm hne)).trans hst.k.row, hst.k.base⟩, ok.hold _ _ s.s (fun j => j = hb) hst.way (set_fr _ hb f _) (fun j _ e => by rw [e]; exact Prot.of hrow ht), hst.fuel⟩
        refine ⟨(s1.alloc ok _).less (by omega), Fr.alloc (Fr.setCell (S := Un C w (fun k => k = hb)) (p := ⟨hb, f, none⟩) (Fr.refl _ _) (fun _ => .inr (.inr ⟨hmv, rfl⟩)) _) _, by rw [hLn]; exact r2, ?_, by simp, hLn, by simp⟩
        · refine ⟨?_, fun x _ hx => ?_, fun _ x _ hx => ?_⟩
          · intro _
            refine ⟨w.heap.size, 0, rfl, hsz, fun i hi j z hz => ?_⟩
            have hi' : i < nn := by simpa [hLn] using hi
            have ez : ([] ++ LL)[i] = WeightN.zero := by simp [← hLL]
            rw [ez] at hz
            have hj : j < 6 := (List.getElem?_eq_some_iff.1 hz).1
            have : z = 0 := by
              rcases (show j = 0 ∨ j = 1 ∨ j = 2 ∨ j = 3 ∨ j = 4 ∨ j = 5 by omega) with rfl | rfl | rfl | rfl | rfl | rfl <;> (cases hz; rfl)
            subst this
            rw [cell_of_row _ _ _ _ _ _ rz]
            exact zeroCells_at (by omega)
          · cases hx
            refine ⟨.inr (Prot.of rz ⟨by decide, by decide, by decide⟩), ?_⟩
            have := row_lt hst.k.row
            simp only
            omega
          · cases hx
            have := row_lt hst.k.row
            have := hst.k.base
            simp only
            omega)
      have hb0 : (s.c != 0) = false := by simp [h0]
      rw [h0] at c21
      have hlm' : (0 : Int) < (nn : Int) := by simpa using hlm
      clear hst hrow ok R hm hw hn hf e1 hlm hl16 r1 r0 hs0 r2 rz hsz ht
      go_enter Tryz.func113, Tryz.ntmps113
      go_wp2_with fail
      have hnn : 0 < nn := by omega
      simp only [hnn, decide_true]
      go_loopg [28] nn (fun g i wr => ∃ (d r : List WeightN) (s1 : Ws σ), d.length + g = nn ∧ i = .int .i64 (d.length : Int) ∧ Hid (Lp C fuel way 6 weightI (fWeight F) 6 n w hb f cs t (some ⟨w.heap.size, 0, none⟩) nn LL s g d r s1 wr))
      case atStart => exact ⟨[], LL, s, by simp, rfl, L0⟩
      case round =>
        obtain ⟨d, r, s1, hg, rfl, LP⟩ := hrel
        cases gk with
        | zero =>
          have P := Lib.hid LP.out.done
          clear LP
          go_wp2_with fail
          go_end0
          exact ⟨rfl, P.out⟩
        | succ g =>
          obtain ⟨x, r', rfl⟩ : ∃ x r', r = x :: r' := by
            cases r with
            | nil => have := LP.out.q; simp at this
            | cons x r' => exact ⟨x, r', rfl⟩
          obtain ⟨x0, x1, x2, x3, x4, x5⟩ := x
          obtain ⟨b, o, eA, hce⟩ := LP.out.elem
          have hlen := LP.out.len
          have hcell : wr.cell? ⟨hb, f, none⟩ = some (.slice (some ⟨w.heap.size, 0, none⟩) nn nn) := by rw [cell_of_row wr hb f _ _ _ LP.out.row]; first | exact SL.out | (rw [hLn]; exact SL.out)
          rw [eA] at hcell
          have CE := Lib.hid (⟨hce 0 x0 rfl, hce 1 x1 rfl, hce 2 x2 rfl, hce 3 x3 rfl, hce 4 x4 rfl, hce 5 x5 rfl⟩ : Six C wr b (o + d.length * 6) ⟨x0, x1, x2, x3, x4, x5⟩)
          have S2 := Lib.hid (LP.out.st.less (show n + 6 * g + 6 ≤ n + 6 * (g + 1) by omega))
          have LQ := Lib.hid (eA ▸ LP.out)
          have EA := Lib.hid eA
          clear LP hce eA
          go_wp2_with fail
          refine (weight_any OK.out _ (n + 6 * g) s1 b (o + d.length * 6) ⟨x0, x1, x2, x3, x4, x5⟩ S2.out CE.out).mono ?_
          rintro e w2 ⟨rfl, s2, dd, y⟩
          have LR := Lib.hid (Lp.next (k := 6) (cells := weightI) (item := fWeight F) (fun z => rfl) HT.out hne hlt LQ.out s2 dd (fun j z hz => by
            rcases j with _ | _ | _ | _ | _ | _ | j
            · cases hz; exact y.c0.cell
            · cases hz; exact y.c1.cell
            · cases hz; exact y.c2.cell
            · cases hz; exact y.c3.cell
            · cases hz; exact y.c4.cell
            · cases hz; exact y.c5.cell
            · cases hz))
          clear s2 dd y LQ
          go_wp2_with fail
          go_roundg g
          case measure => omega
          case rel => exact ⟨d ++ [(fWeight F ⟨x0, x1, x2, x3, x4, x5⟩ s1).1], r', _, by simp; omega, by simp, Lib.hid (EA.out.symm ▸ LR.out)⟩

    · have e1 : fList WeightN.zero (fWeight F) m l s = fMany (fWeight F) l s := by
        unfold fList
        rw [if_pos h0, enough_at _ _ _ hlm]
      rw [e1]
      have cf : w.cell? ⟨hb, f, none⟩ = some (.slice a l.length cap) := by rw [cell_of_row w hb f _ _ _ hrow]; exact hf
      have SL := Lib.hid (show (cs.setIfInBounds f (.slice a l.length cap))[f]? = some (.slice a l.length cap) from by rw [set_same hf]; exact hf)
      have L0 : Hid (Lp C fuel way 6 weightI (fWeight F) 6 n w hb f cs t a cap l s l.length [] l s w) := Lib.hid ⟨hst.less (by omega), Fr.refl _ _, by rw [set_same hf]; exact hrow, R, by simp, rfl, by simp⟩
      rw [h0] at c21
      clear hst hrow ok R hm hw hn hf e1 ht
      go_enter Tryz.func113, Tryz.ntmps113
      go_wp2_with fail
      go_loopg [28] l.length (fun g i wr => ∃ (d r : List WeightN) (s1 : Ws σ), d.length + g = l.length ∧ i = .int .i64 (d.length : Int) ∧ Hid (Lp C fuel way 6 weightI (fWeight F) 6 n w hb f cs t a cap l s g d r s1 wr))
      case atStart => exact ⟨[], l, s, by simp, rfl, L0⟩
      case round =>
        obtain ⟨d, r, s1, hg, rfl, LP⟩ := hrel
        cases gk with
        | zero =>
          have P := Lib.hid LP.out.done
          clear LP
          go_wp2_with fail
          go_end0
          exact ⟨rfl, P.out⟩
        | succ g =>
          obtain ⟨x, r', rfl⟩ : ∃ x r', r = x :: r' := by
            cases r with
            | nil => have := LP.out.q; simp at this
            | cons x r' => exact ⟨x, r', rfl⟩
          obtain ⟨x0, x1, x2, x3, x4, x5⟩ := x
          obtain ⟨b, o, eA, hce⟩ := LP.out.elem
          have hlen := LP.out.len
          have hcell : wr.cell? ⟨hb, f, none⟩ = some (.slice a l.length cap) := by rw [cell_of_row wr hb f _ _ _ LP.out.row]; first | exact SL.out | (rw [hLn]; exact SL.out)
          rw [eA] at hcell
          have CE := Lib.hid (⟨hce 0 x0 rfl, hce 1 x1 rfl, hce 2 x2 rfl, hce 3 x3 rfl, hce 4 x4 rfl, hce 5 x5 rfl⟩ : Six C wr b (o + d.length * 6) ⟨x0, x1, x2, x3, x4, x5⟩)
          have S2 := Lib.hid (LP.out.st.less (show n + 6 * g + 6 ≤ n + 6 * (g + 1) by omega))
          have LQ := Lib.hid (eA ▸ LP.out)
          have EA := Lib.hid eA
          clear LP hce eA
          go_wp2_with fail
          refine (weight_any OK.out _ (n + 6 * g) s1 b (o + d.length * 6) ⟨x0, x1, x2, x3, x4, x5⟩ S2.out CE.out).mono ?_
          rintro e w2 ⟨rfl, s2, dd, y⟩
          have LR := Lib.hid (Lp.next (k := 6) (cells := weightI) (item := fWeight F) (fun z => rfl) HT.out hne hlt LQ.out s2 dd (fun j z hz => by
            rcases j with _ | _ | _ | _ | _ | _ | j
            · cases hz; exact y.c0.cell
            · cases hz; exact y.c1.cell
            · cases hz; exact y.c2.cell
            · cases hz; exact y.c3.cell
            · cases hz; exact y.c4.cell
            · cases hz; exact y.c5.cell
            · cases hz))
          clear s2 dd y LQ
          go_wp2_with fail
          go_roundg g
          case measure => omega
          case rel => exact ⟨d ++ [(fWeight F ⟨x0, x1, x2, x3, x4, x5⟩ s1).1], r', _, by simp; omega, by simp, Lib.hid (EA.out.symm ▸ LR.out)⟩

  · rw [fList_idle h0]
    have P := Lib.hid (⟨hst.less (by omega), ⟨a, cap, by rw [set_same hf]; exact hrow, R⟩, Fr.refl _ _⟩ : St C fuel way n w s ∧ Listed C 6 weightI w hb f cs t l w)
    have hb0 : (s.c != 0) = true := by simp [h0]
    generalize s.c = sc at *
    clear hst hrow ok R hm hw hn h0 hf ht
    go_enter Tryz.func113, Tryz.ntmps113
    go_wp2_with fail
    first | go_end0 | (simp only [Exit.inBlock, Exit.then]; refine bodyPost_ret (results_none rfl _ _ _) rfl ?_) | refine bodyPost_ret (results_none rfl _ _ _) rfl ?_
    exact ⟨rfl, P.out⟩

set_option maxRecDepth 100000 in
set_option maxHeartbeats 1000000 in
theorem listOp_any (ok : WayOk C F fuel way) (w : World) (n : Nat) (s : Ws σ) (hb f : Nat) (cs : Array Value) (t : TypeId) (l : List OpN) (a : Option Addr) (cap : Nat) (m : Int) (hst : St C fuel way (n + 100) w s)
    (hrow : w.heap[hb]? = some (.cells cs t (0, 0))) (ht : t ≠ 82 ∧ t ≠ 5 ∧ t ≠ 116) (hne : hb ≠ C.kb) (hf : cs[f]? = some (.slice a l.length cap)) (R : RowOk C 3 opI w w a l)
    (hm : C.moves = true → l = []) (hw : C.moves = false → s.c = 0 → m ≤ l.length) (hn : s.c = 0 → m ≤ 16) (hl16 : l.length ≤ 16) :
    Calls Tryz.prog 131 #[.pointer (some ⟨C.kb, 0, none⟩), .pointer (some ⟨hb, f, none⟩), .int .i64 m, .func (.func 116) #[.pointer (some ⟨C.kb, 0, none⟩)] #[]] w fun e w' =>
      e = .returned (.tuple #[]) ∧ St C fuel way n w' (fList OpN.zero (fOp F) m l s).2 ∧ Listed C 3 opI w hb f cs t (fList OpN.zero (fOp F) m l s).1 w' := by
  have c21 : w.cell? ⟨C.kb, 21, none⟩ = some (.int .i64 s.c) := hst.k.cell 21 _ rfl
  have OK := Lib.hid ok
  have HT := Lib.hid ht
  have hlt := row_lt hrow
  by_cases h0 : s.c = 0
  · by_cases hlm : (l.length : Int) < m
    · have hmv : C.moves = true := by
        cases e : C.moves with
        | true => rfl
        | false => have := hw e h0; omega
      have hl := hm hmv
      subst hl
      obtain ⟨nn, rfl⟩ : ∃ nn : Nat, m = (nn : Int) := ⟨m.toNat, by simp at hlm; omega⟩
      have hn16 := hn h0
      have hfs : f < cs.size := (Array.getElem?_eq_some_iff.1 hf).1
      have e1 : fList OpN.zero (fOp F) (nn : Int) [] s = fMany (fOp F) (List.replicate nn OpN.zero) s := by
        unfold fList enough
        rw [if_pos h0, if_pos (by simpa using hlm), Int.toNat_natCast]
      rw [e1]
      have cf : w.cell? ⟨hb, f, none⟩ = some (.slice a 0 cap) := by rw [cell_of_row w hb f _ _ _ hrow]; exact hf
      have hmk := make_Op nn (by omega)
      have r1 : (w.alloc (.cells (zeroCells (nn * 3)) 69)).heap[hb]? = some (.cells cs t (0, 0)) := (heap_alloc_other hlt).trans hrow
      have cf1 : (w.alloc (.cells (zeroCells (nn * 3)) 69)).cell? ⟨hb, f, none⟩ = some (.slice a 0 cap) := by rw [cell_of_row _ hb f _ _ _ r1]; exact hf
      have zf1 : (w.alloc (.cells (zeroCells (nn * 3)) 69)).frozen? ⟨hb, f, none⟩ = false := free_row r1 f
      have r0 := heap_setCell_row hrow f (.slice (some ⟨w.heap.size, 0, none⟩) nn nn)
      have hs0 : (w.setCell ⟨hb, f, none⟩ (.slice (some ⟨w.heap.size, 0, none⟩) nn nn)).heap.size = w.heap.size := by simp [World.setCell]
      have r2 := (heap_alloc_other (o := .cells (zeroCells (nn * 3)) 69) (row_lt r0)).trans r0
      have g2 : ((w.setCell ⟨hb, f, none⟩ (.slice (some ⟨w.heap.size, 0, none⟩) nn nn)).alloc (.cells (zeroCells (nn * 3)) 69)).cell? ⟨hb, f, none⟩ = some (.slice (some ⟨w.heap.size, 0, none⟩) nn nn) := by rw [cell_of_row _ hb f _ _ _ r2, Array.getElem?_setIfInBounds, if_pos rfl, if_pos hfs]
      have SL := Lib.hid (show (cs.setIfInBounds f (.slice (some ⟨w.heap.size, 0, none⟩) nn nn))[f]? = some (.slice (some ⟨w.heap.size, 0, none⟩) nn nn) from by rw [Array.getElem?_setIfInBounds, if_pos rfl, if_pos hfs])
      obtain ⟨LL, hLL⟩ : ∃ L, List.replicate nn OpN.zero = L := ⟨_, rfl⟩
      have hLn : LL.length = nn := by rw [← hLL]; simp
      rw [hLL]
      have rz : ((w.setCell ⟨hb, f, none⟩ (.slice (some ⟨w.heap.size, 0, none⟩) nn nn)).alloc (.cells (zeroCells (nn * 3)) 69)).heap[w.heap.size]? = some (.cells (zeroCells (nn * 3)) 69 (0, 0)) := by
        have := heap_alloc_last (w.setCell ⟨hb, f, none⟩ (.slice (some ⟨w.heap.size, 0, none⟩) nn nn)) (.cells (zeroCells (nn * 3)) 69)
        rwa [hs0] at this
      have hsz := row_lt rz
      have L0 : Hid (Lp C fuel way 3 opI (fOp F) 3 n w hb f cs t (some ⟨w.heap.size, 0, none⟩) nn LL s nn [] LL s ((w.setCell ⟨hb, f, none⟩ (.slice (some ⟨w.heap.size, 0, none⟩) nn nn)).alloc (.cells (zeroCells (nn * 3)) 69))) := Lib.hid (by
        have s1 : St C fuel way (n + 100) (w.setCell ⟨hb, f, none⟩ (.slice (some ⟨w.heap.size, 0, none⟩) nn nn)) s := ⟨⟨(Zo.heap_setCell_other _ (Ne.symm hne)).trans hst.k.row, hst.k.base⟩, ok.hold _ _ s.s (fun j => j = hb) hst.way (set_fr _ hb f _) (fun j _ e => by rw [e]; exact Prot.of hrow ht), hst.fuel⟩
        refine ⟨(s1.alloc ok _).less (by omega), Fr.alloc (Fr.setCell (S := Un C w (fun k => k = hb)) (p := ⟨hb, f, none⟩) (Fr.refl _ _) (fun _ => .inr (.inr ⟨hmv, rfl⟩)) _) _, by rw [hLn]; exact r2, ?_, by simp, hLn, by simp⟩
        · refine ⟨?_, fun x _ hx => ?_, fun _ x _ hx => ?_⟩
          · intro _
            refine ⟨w.heap.size, 0, rfl, hsz, fun i hi j z hz => ?_⟩
            have hi' : i < nn := by simpa [hLn] using hi
            have ez : ([] ++ LL)[i] = OpN.zero := by simp [← hLL]
            rw [ez] at hz
            have hj : j < 3 := (List.getElem?_eq_some_iff.1 hz).1
            have : z = 0 := by
              rcases (show j = 0 ∨ j = 1 ∨ j = 2 by omega) with rfl | rfl | rfl <;> (cases hz; rfl)
            subst this
            rw [cell_of_row _ _ _ _ _ _ rz]
            exact zeroCells_at (by omega)
          · cases hx
            refine ⟨.inr (Prot.of rz ⟨by decide, by decide, by decide⟩), ?_⟩
            have := row_lt hst.k.row
            simp only
            omega
          · cases hx
            have := row_lt hst.k.row
            have := hst.k.base
            simp only
            omega)
      have hb0 : (s.c != 0) = false := by simp [h0]
      rw [h0] at c21
      have hlm' : (0 : Int) < (nn : Int) := by simpa using hlm
      clear hst hrow ok R hm hw hn hf e1 hlm hl16 r1 r0 hs0 r2 rz hsz ht
      go_enter Tryz.func131, Tryz.ntmps131
      go_wp2_with fail
      have hnn : 0 < nn := by omega
      simp only [hnn, decide_true]
      go_loopg [28] nn (fun g i wr => ∃ (d r : List OpN) (s1 : Ws σ), d.length + g = nn ∧ i = .int .i64 (d.length : Int) ∧ Hid (Lp C fuel way 3 opI (fOp F) 3 n w hb f cs t (some ⟨w.heap.size, 0, none⟩) nn LL s g d r s1 wr))
      case atStart => exact ⟨[], LL, s, by simp, rfl, L0⟩
      case round =>
        obtain ⟨d, r, s1, hg, rfl, LP⟩ := hrel
        cases gk with
        | zero =>
          have P := Lib.hid LP.out.done
          clear LP
          go_wp2_with fail
          go_end0
          exact ⟨rfl, P.out⟩
        | succ g =>
          obtain ⟨x, r', rfl⟩ : ∃ x r', r = x :: r' := by
            cases r with
            | nil => have := LP.out.q; simp at this
            | cons x r' => exact ⟨x, r', rfl⟩
          obtain ⟨x0, x1, x2⟩ := x
          obtain ⟨b, o, eA, hce⟩ := LP.out.elem
          have hlen := LP.out.len
          have hcell : wr.cell? ⟨hb, f, none⟩ = some (.slice (some ⟨w.heap.size, 0, none⟩) nn nn) := by rw [cell_of_row wr hb f _ _ _ LP.out.row]; first | exact SL.out | (rw [hLn]; exact SL.out)
          rw [eA] at hcell
          have CE := Lib.hid (⟨hce 0 x0 rfl, hce 1 x1 rfl, hce 2 x2 rfl⟩ : Cell C wr b (o + d.length * 3 + 0) (.int .i64 x0) ∧ Cell C wr b (o + d.length * 3 + 1) (.int .i64 x1) ∧ Cell C wr b (o + d.length * 3 + 2) (.int .i64 x2))
          have S2 := Lib.hid (LP.out.st.less (show n + 3 * g + 3 ≤ n + 3 * (g + 1) by omega))
          have LQ := Lib.hid (eA ▸ LP.out)
          have EA := Lib.hid eA
          clear LP hce eA
          go_wp2_with fail
          refine (op_any OK.out _ (n + 3 * g) s1 b (o + d.length * 3) ⟨x0, x1, x2⟩ S2.out CE.out.1 CE.out.2.1 CE.out.2.2).mono ?_
          rintro e w2 ⟨rfl, s2, dd, y0, y1, y2⟩
          have LR := Lib.hid (Lp.next (k := 3) (cells := opI) (item := fOp F) (fun z => rfl) HT.out hne hlt LQ.out s2 dd (fun j z hz => by
            rcases j with _ | _ | _ | j
            · cases hz; exact y0.cell
            · cases hz; exact y1.cell
            · cases hz; exact y2.cell
            · cases hz))
          clear s2 dd y0 y1 y2 LQ
          go_wp2_with fail
          go_roundg g
          case measure => omega
          case rel => exact ⟨d ++ [(fOp F ⟨x0, x1, x2⟩ s1).1], r', _, by simp; omega, by simp, Lib.hid (EA.out.symm ▸ LR.out)⟩

    · have e1 : fList OpN.zero (fOp F) m l s = fMany (fOp F) l s := by
        unfold fList
        rw [if_pos h0, enough_at _ _ _ hlm]
      rw [e1]
      have cf : w.cell? ⟨hb, f, none⟩ = some (.slice a l.length cap) := by rw [cell_of_row w hb f _ _ _ hrow]; exact hf
      have SL := Lib.hid (show (cs.setIfInBounds f (.slice a l.length cap))[f]? = some (.slice a l.length cap) from by rw [set_same hf]; exact hf)
      have L0 : Hid (Lp C fuel way 3 opI (fOp F) 3 n w hb f cs t a cap l s l.length [] l s w) := Lib.hid ⟨hst.less (by omega), Fr.refl _ _, by rw [set_same hf]; exact hrow, R, by simp, rfl, by simp⟩
      rw [h0] at c21
      clear hst hrow ok R hm hw hn hf e1 ht
      go_enter Tryz.func131, Tryz.ntmps131
      go_wp2_with fail
      go_loopg [28] l.length (fun g i wr => ∃ (d r : List OpN) (s1 : Ws σ), d.length + g = l.length ∧ i = .int .i64 (d.length : Int) ∧ Hid (Lp C fuel way 3 opI (fOp F) 3 n w hb f cs t a cap l s g d r s1 wr))
      case atStart => exact ⟨[], l, s, by simp, rfl, L0⟩
      case round =>
        obtain ⟨d, r, s1, hg, rfl, LP⟩ := hrel
        cases gk with
        | zero =>
          have P := Lib.hid LP.out.done
          clear LP
          go_wp2_with fail
          go_end0
          exact ⟨rfl, P.out⟩
        | succ g =>
          obtain ⟨x, r', rfl⟩ : ∃ x r', r = x :: r' := by
            cases r with
            | nil => have := LP.out.q; simp at this
            | cons x r' => exact ⟨x, r', rfl⟩
          obtain ⟨x0, x1, x2⟩ := x
          obtain ⟨b, o, eA, hce⟩ := LP.out.elem
          have hlen := LP.out.len
          have hcell : wr.cell? ⟨hb, f, none⟩ = some (.slice a l.length cap) := by rw [cell_of_row wr hb f _ _ _ LP.out.row]; first | exact SL.out | (rw [hLn]; exact SL.out)
          rw [eA] at hcell
          have CE := Lib.hid (⟨hce 0 x0 rfl, hce 1 x1 rfl, hce 2 x2 rfl⟩ : Cell C wr b (o + d.length * 3 + 0) (.int .i64 x0) ∧ Cell C wr b (o + d.length * 3 + 1) (.int .i64 x1) ∧ Cell C wr b (o + d.length * 3 + 2) (.int .i64 x2))
          have S2 := Lib.hid (LP.out.st.less (show n + 3 * g + 3 ≤ n + 3 * (g + 1) by omega))
          have LQ := Lib.hid (eA ▸ LP.out)
          have EA := Lib.hid eA
          clear LP hce eA
          go_wp2_with fail
          refine (op_any OK.out _ (n + 3 * g) s1 b (o + d.length * 3) ⟨x0, x1, x2⟩ S2.out CE.out.1 CE.out.2.1 CE.out.2.2).mono ?_
          rintro e w2 ⟨rfl, s2, dd, y0, y1, y2⟩
          have LR := Lib.hid (Lp.next (k := 3) (cells := opI) (item := fOp F) (fun z => rfl) HT.out hne hlt LQ.out s2 dd (fun j z hz => by
            rcases j with _ | _ | _ | j
            · cases hz; exact y0.cell
            · cases hz; exact y1.cell
            · cases hz; exact y2.cell
            · cases hz))
          clear s2 dd y0 y1 y2 LQ
          go_wp2_with fail
          go_roundg g
          case measure => omega
          case rel => exact ⟨d ++ [(fOp F ⟨x0, x1, x2⟩ s1).1], r', _, by simp; omega, by simp, Lib.hid (EA.out.symm ▸ LR.out)⟩

  · rw [fList_idle h0]
    have P := Lib.hid (⟨hst.less (by omega), ⟨a, cap, by rw [set_same hf]; exact hrow, R⟩, Fr.refl _ _⟩ : St C fuel way n w s ∧ Listed C 3 opI w hb f cs t l w)
    have hb0 : (s.c != 0) = true := by simp [h0]
    generalize s.c = sc at *
    clear hst hrow ok R hm hw hn h0 hf ht
    go_enter Tryz.func131, Tryz.ntmps131
    go_wp2_with fail
    first | go_end0 | (simp only [Exit.inBlock, Exit.then]; refine bodyPost_ret (results_none rfl _ _ _) rfl ?_) | refine bodyPost_ret (results_none rfl _ _ _) rfl ?_
    exact ⟨rfl, P.out⟩

end
end Go.Proofs.YthcbgijmnonckaaGreat
