/- Layer 3: the program's keeper of ranges: what it tells of each kind; numbers within a range. -/
import Derived.Test.YthcbgijmnonckaaGreatQY
namespace Go.Proofs.YthcbgijmnonckaaGreat
open Go.RowKit Zo Zp

theorem kp_cells {w : World} {kb : Nat} (hk : w.heap[kb]? = some (.cells kpZ 154 (0, 0))) : w.cell? ⟨kb, 0, none⟩ = some (.int .u32 0) ∧ w.cell? ⟨kb, 1, none⟩ = some (.int .i32 0) ∧ w.frozen? ⟨kb, 0, none⟩ = false ∧ w.frozen? ⟨kb, 1, none⟩ = false :=
  ⟨by rw [cell_of_row _ _ _ _ _ _ hk]; rfl, by rw [cell_of_row _ _ _ _ _ _ hk]; rfl, free_row hk _, free_row hk _⟩

/-- The world that the first call leaves. -/
def onceW (w : World) (kb : Nat) : World := (((((w.setCell ⟨kb, 1, none⟩ (.int .i32 1)).setCells kb 3 kpT).drew).setCell ⟨kb, 0, none⟩ (.int .u32 1)).setCell ⟨kb, 1, none⟩ (.int .i32 0))

theorem heap_drew (w : World) (k : Nat) : w.drew.heap[k]? = w.heap[k]? := rfl

theorem kpL_eq : kpZ.setIfInBounds 1 (.int .i32 1) = kpL := by kernel_rfl
theorem kpM_eq : setAll kpL 3 kpT = kpM := by kernel_rfl
theorem kpN_eq : kpM.setIfInBounds 0 (.int .u32 1) = kpN := by kernel_rfl
theorem kpD_eq : kpN.setIfInBounds 1 (.int .i32 0) = kpD := by kernel_rfl

theorem load_zero (a : Addr) (x : Int) (w : World) (hc : w.cell? a = some (.int .u32 x)) (b : Bool) (hb : (x != 0) = b) :
    Calls Tryz.prog 133 #[.pointer (some a)] w fun e w' => e = .returned (.bool b) ∧ w' = w := by
  have hl := run_call_load (P := Tryz.prog) Tryz.func135 (by kernel_rfl) (by kernel_rfl) (by kernel_rfl) .u32 (by kernel_rfl) hc
  go_enter Tryz.func133, Tryz.ntmps133
  go_wp2
  go_ret
  exact ⟨rfl, rfl⟩

theorem once_world {w : World} {kb : Nat} (hk : w.heap[kb]? = some (.cells kpZ 154 (0, 0))) :
    (w.setCell ⟨kb, 1, none⟩ (.int .i32 1)).heap[kb]? = some (.cells kpL 154 (0, 0)) ∧
    ((w.setCell ⟨kb, 1, none⟩ (.int .i32 1)).setCells kb 3 kpT).heap[kb]? = some (.cells kpM 154 (0, 0)) ∧
    ((((w.setCell ⟨kb, 1, none⟩ (.int .i32 1)).setCells kb 3 kpT).drew).setCell ⟨kb, 0, none⟩ (.int .u32 1)).heap[kb]? = some (.cells kpN 154 (0, 0)) ∧
    (onceW w kb).heap[kb]? = some (.cells kpD 154 (0, 0)) ∧ Fr (fun k => k = kb) w (onceW w kb) := by
  have r1 := heap_setCell_row hk 1 (.int .i32 1)
  rw [kpL_eq] at r1
  have r2 := heap_setCells_row kpT 3 _ _ r1
  rw [kpM_eq] at r2
  have r3 := heap_setCell_row (w := ((w.setCell ⟨kb, 1, none⟩ (.int .i32 1)).setCells kb 3 kpT).drew) ((heap_drew _ _).trans r2) 0 (.int .u32 1)
  rw [kpN_eq] at r3
  have r4 := heap_setCell_row r3 1 (.int .i32 0)
  rw [kpD_eq] at r4
  refine ⟨r1, r2, r3, r4, ?_⟩
  have f1 := Fr.setCell (S := fun k => k = kb) (Fr.refl _ w) (p := ⟨kb, 1, none⟩) (fun _ => rfl) (.int .i32 1)
  have f2 := (fr_setCells (S := fun k => k = kb) (b := kb) (fun _ => rfl) kpT 3 _ f1).drew
  exact (f2.setCell (p := ⟨kb, 0, none⟩) (fun _ => rfl) _).setCell (p := ⟨kb, 1, none⟩) (fun _ => rfl) _

set_option maxRecDepth 100000 in
set_option maxHeartbeats 1600000 in
theorem slow_any (w : World) (kb pl : Nat) (hk : w.heap[kb]? = some (.cells kpZ 154 (0, 0))) (hne : pl ≠ kb) (hp : w.cell? ⟨pl, 0, none⟩ = some (.pointer (some ⟨kb, 0, none⟩))) :
    Calls Tryz.prog 134 #[.pointer (some ⟨kb, 0, none⟩), .func (.func 125) #[] #[.pointer (some ⟨pl, 0, none⟩)]] w fun e w' => e = .returned (.tuple #[]) ∧ w' = onceW w kb := by
  obtain ⟨r1, r2, r3, r4, _⟩ := once_world hk
  obtain ⟨h0, h1, f0, f1⟩ := kp_cells hk
  have HZ := Lib.hid (show (w.setCell ⟨kb, 1, none⟩ (.int .i32 1)).cell? ⟨kb, 0, none⟩ = some (.int .u32 0) by rw [cell_of_row _ _ _ _ _ _ r1]; rfl)
  have hp1 : (w.setCell ⟨kb, 1, none⟩ (.int .i32 1)).cell? ⟨pl, 0, none⟩ = some (.pointer (some ⟨kb, 0, none⟩)) := (World.cell?_setCell_other _ ⟨kb, 1, none⟩ ⟨pl, 0, none⟩ _ (fun h => hne (by have := congrArg Addr.block h; simp at this; omega))).trans hp
  have HT := Lib.hid (table_made _ kb pl r1 hp1)
  have HL := Lib.hid (lock_free ⟨kb, 1, none⟩ w h1 f1)
  have HS := Lib.hid (fun u => store_deferred ⟨kb, 0, none⟩ (.int .u32 0) u ((w.setCell ⟨kb, 1, none⟩ (.int .i32 1)).setCells kb 3 kpT) (by rw [cell_of_row _ _ _ _ _ _ r2]; rfl) (free_row r2 _))
  have HU := Lib.hid (fun u => unlock_deferred ⟨kb, 1, none⟩ u ((((w.setCell ⟨kb, 1, none⟩ (.int .i32 1)).setCells kb 3 kpT).drew).setCell ⟨kb, 0, none⟩ (.int .u32 1)) (by rw [cell_of_row _ _ _ _ _ _ r3]; rfl) (free_row r3 _))
  have hnot : ∀ (x : Bool) (w : World), (Op.unary .not (.bool x)).run Tryz.prog w = .ok (.bool (!x)) w := fun _ _ => rfl
  clear r1 r2 r3 r4 h0 h1 f0 f1 hp hp1 hk
  go_enter_defers Tryz.func134, Tryz.ntmps134
  go_wp2_with (go_at_call 136; refine HL.out.mono ?_; rintro e w' ⟨rfl, rfl⟩)
  all_goals go_wp2_with (go_at_call 133; refine (load_zero _ 0 _ HZ.out false rfl).mono ?_; rintro e w' ⟨rfl, rfl⟩)
  refine HT.out.mono ?_
  rintro e w' ⟨rfl, rfl⟩
  go_wp2_with fail
  refine leaves_cons (f := 138) (args := #[.pointer (some ⟨kb, 0, none⟩), .bool true]) (by simp) (by simp [go_sem]) ?_
  refine (HS.out _).mono ?_
  rintro e u' w'' ⟨rfl, rfl, rfl⟩
  refine leaves_cons (f := 137) (args := #[.pointer (some ⟨kb, 1, none⟩)]) (by simp [settle]) (by simp [go_sem]) ?_
  refine (HU.out _).mono ?_
  rintro e u' w'' ⟨rfl, rfl, rfl⟩
  simp [Leaves, settle, results, Tryz.results134, onceW]

/-- A keeper, asked already or not. -/
def Kp (w : World) (kb : Nat) : Prop := w.heap[kb]? = some (.cells kpZ 154 (0, 0)) ∨ w.heap[kb]? = some (.cells kpD 154 (0, 0))

set_option maxRecDepth 100000 in
set_option maxHeartbeats 1600000 in
theorem do_any (w : World) (kb pl : Nat) (hk : Kp w kb) (hne : pl ≠ kb) (hp : w.cell? ⟨pl, 0, none⟩ = some (.pointer (some ⟨kb, 0, none⟩))) :
    Calls Tryz.prog 124 #[.pointer (some ⟨kb, 0, none⟩), .func (.func 125) #[] #[.pointer (some ⟨pl, 0, none⟩)]] w fun e w' =>
      e = .returned (.tuple #[]) ∧ w'.heap[kb]? = some (.cells kpD 154 (0, 0)) ∧ Fr (fun k => k = kb) w w' := by
  have hnot : ∀ (x : Bool) (w : World), (Op.unary .not (.bool x)).run Tryz.prog w = .ok (.bool (!x)) w := fun _ _ => rfl
  rcases hk with hk | hk
  · have HS := Lib.hid (slow_any w kb pl hk hne hp)
    have E := Lib.hid (once_world hk).2.2.2
    have HZ := Lib.hid (kp_cells hk).1
    clear hk hp
    go_enter Tryz.func124, Tryz.ntmps124
    go_wp2_with (first | (go_at_call 134; refine HS.out.mono ?_; rintro e w' ⟨rfl, rfl⟩) | (go_at_call 133; refine (load_zero _ 0 _ HZ.out false rfl).mono ?_; rintro e w' ⟨rfl, rfl⟩))
    go_end0
    exact ⟨rfl, E.out⟩
  · have E := Lib.hid hk
    have HZ := Lib.hid (show w.cell? ⟨kb, 0, none⟩ = some (.int .u32 1) by rw [cell_of_row _ _ _ _ _ _ hk]; rfl)
    clear hk hp
    go_enter Tryz.func124, Tryz.ntmps124
    go_wp2_with (go_at_call 133; refine (load_zero _ 1 _ HZ.out true rfl).mono ?_; rintro e w' ⟨rfl, rfl⟩)
    go_end0
    exact ⟨rfl, E.out, Fr.refl _ _⟩

theorem two_boxes (w : World) (c1 c2 : Array Value) (t u : TypeId) :
    ((w.alloc (.cells c1 t)).alloc (.cells c2 u)).heap[w.heap.size]? = some (.cells c1 t (0, 0)) ∧ ((w.alloc (.cells c1 t)).alloc (.cells c2 u)).heap[w.heap.size + 1]? = some (.cells c2 u (0, 0)) ∧ Fr (fun _ => False) w ((w.alloc (.cells c1 t)).alloc (.cells c2 u)) := by
  have r2 := heap_alloc_last (w.alloc (.cells c1 t)) (.cells c2 u)
  rw [show (w.alloc (.cells c1 t)).heap.size = w.heap.size + 1 from by simp] at r2
  refine ⟨?_, r2, ((Fr.refl _ _).alloc _).alloc _⟩
  rw [heap_alloc_other (by simp)]
  exact heap_alloc_last _ _


set_option maxRecDepth 100000 in
set_option maxHeartbeats 1600000 in
theorem of_0 (w : World) (kb : Nat) (hk : Kp w kb) :
    Calls Tryz.prog 99 #[.pointer (some ⟨kb, 0, none⟩), .int .i64 0] w fun e w' => e = .returned (.agg #[.int .i64 1, .int .i64 8]) ∧ Kp w' kb ∧ Fr (fun k => k = kb) w w' := by
  have hlt : kb < w.heap.size := by rcases hk with h | h <;> exact row_lt h
  obtain ⟨x1, x2, f0⟩ := two_boxes w #[.pointer (some ⟨kb, 0, none⟩)] #[.int .i64 0, .int .i64 0] 138 151
  have b1 : ((w.alloc (.cells #[.pointer (some ⟨kb, 0, none⟩)] 138)).alloc (.cells #[.int .i64 0, .int .i64 0] 151)).cell? ⟨w.heap.size, 0, none⟩ = some (.pointer (some ⟨kb, 0, none⟩)) := by rw [cell_of_row _ _ _ _ _ _ x1]; rfl
  have hk2 : Kp ((w.alloc (.cells #[.pointer (some ⟨kb, 0, none⟩)] 138)).alloc (.cells #[.int .i64 0, .int .i64 0] 151)) kb := by
    rcases hk with h | h
    · exact .inl ((f0.block kb hlt (fun e => e)).trans h)
    · exact .inr ((f0.block kb hlt (fun e => e)).trans h)
  have HD := Lib.hid (do_any _ kb w.heap.size hk2 (by omega) b1)
  have X1 := Lib.hid x1
  have X2 := Lib.hid x2
  have F0 := Lib.hid f0
  have HLT := Lib.hid hlt
  clear x1 x2 f0 hk hk2 hlt
  go_enter Tryz.func99, Tryz.ntmps99
  go_wp2_with fail
  refine HD.out.mono ?_
  rintro e w1 ⟨rfl, k1, f1⟩
  have y1 := (f1.block _ (row_lt X1.out) (by have := HLT.out; omega)).trans X1.out
  have y2 := (f1.block _ (row_lt X2.out) (by have := HLT.out; omega)).trans X2.out
  have FT : Hid (Fr (fun k => k = kb) w w1) := (F0.out.mono (T := fun k => k = kb) (fun _ _ h => h.elim)).trans f1 (fun i hi e => e)
  have z1 := cell_of_row _ w.heap.size 0 _ _ _ y1
  have c1 : w1.cell? ⟨kb, 3, none⟩ = some (.int .i64 1) := by rw [cell_of_row _ _ _ _ _ _ k1]; rfl
  have c2 : w1.cell? ⟨kb, 4, none⟩ = some (.int .i64 8) := by rw [cell_of_row _ _ _ _ _ _ k1]; rfl
  simp at z1
  have Y2 := Lib.hid y2
  have K1 := Lib.hid k1
  clear y1 y2 k1 f1 b1
  go_wp2_with (refine wpList_store_whole rfl 151 (.tmp 4) (.tmp 15) rfl (w.heap.size + 1) #[.int .i64 1, .int .i64 8] ?_ ?_ 151 _ Y2.out ?_ ?_ ?_ ?_; rfl; rfl; kernel_rfl; rfl; (simp [Value.oneCell']); intro wz hz fz)
  have v0 := cell_of_row _ (w.heap.size + 1) 0 _ _ _ hz
  have v1 := cell_of_row _ (w.heap.size + 1) 1 _ _ _ hz
  simp at v0 v1
  refine bodyPost_ret (v := .agg #[.int .i64 1, .int .i64 8]) (by simp [results, Tryz.results99, go_sem, v0, v1]) rfl ⟨rfl, ?_, ?_⟩
  · exact .inr ((fz.block kb (row_lt K1.out) (by have := HLT.out; omega)).trans K1.out)
  · exact FT.out.trans fz (fun i hi e => by omega)


set_option maxRecDepth 100000 in
set_option maxHeartbeats 1600000 in
theorem of_1 (w : World) (kb : Nat) (hk : Kp w kb) :
    Calls Tryz.prog 99 #[.pointer (some ⟨kb, 0, none⟩), .int .i64 1] w fun e w' => e = .returned (.agg #[.int .i64 4, .int .i64 8]) ∧ Kp w' kb ∧ Fr (fun k => k = kb) w w' := by
  have hlt : kb < w.heap.size := by rcases hk with h | h <;> exact row_lt h
  obtain ⟨x1, x2, f0⟩ := two_boxes w #[.pointer (some ⟨kb, 0, none⟩)] #[.int .i64 0, .int .i64 0] 138 151
  have b1 : ((w.alloc (.cells #[.pointer (some ⟨kb, 0, none⟩)] 138)).alloc (.cells #[.int .i64 0, .int .i64 0] 151)).cell? ⟨w.heap.size, 0, none⟩ = some (.pointer (some ⟨kb, 0, none⟩)) := by rw [cell_of_row _ _ _ _ _ _ x1]; rfl
  have hk2 : Kp ((w.alloc (.cells #[.pointer (some ⟨kb, 0, none⟩)] 138)).alloc (.cells #[.int .i64 0, .int .i64 0] 151)) kb := by
    rcases hk with h | h
    · exact .inl ((f0.block kb hlt (fun e => e)).trans h)
    · exact .inr ((f0.block kb hlt (fun e => e)).trans h)
  have HD := Lib.hid (do_any _ kb w.heap.size hk2 (by omega) b1)
  have X1 := Lib.hid x1
  have X2 := Lib.hid x2
  have F0 := Lib.hid f0
  have HLT := Lib.hid hlt
  clear x1 x2 f0 hk hk2 hlt
  go_enter Tryz.func99, Tryz.ntmps99
  go_wp2_with fail
  refine HD.out.mono ?_
  rintro e w1 ⟨rfl, k1, f1⟩
  have y1 := (f1.block _ (row_lt X1.out) (by have := HLT.out; omega)).trans X1.out
  have y2 := (f1.block _ (row_lt X2.out) (by have := HLT.out; omega)).trans X2.out
  have FT : Hid (Fr (fun k => k = kb) w w1) := (F0.out.mono (T := fun k => k = kb) (fun _ _ h => h.elim)).trans f1 (fun i hi e => e)
  have z1 := cell_of_row _ w.heap.size 0 _ _ _ y1
  have c1 : w1.cell? ⟨kb, 5, none⟩ = some (.int .i64 4) := by rw [cell_of_row _ _ _ _ _ _ k1]; rfl
  have c2 : w1.cell? ⟨kb, 6, none⟩ = some (.int .i64 8) := by rw [cell_of_row _ _ _ _ _ _ k1]; rfl
  simp at z1
  have Y2 := Lib.hid y2
  have K1 := Lib.hid k1
  clear y1 y2 k1 f1 b1
  go_wp2_with (refine wpList_store_whole rfl 151 (.tmp 4) (.tmp 15) rfl (w.heap.size + 1) #[.int .i64 4, .int .i64 8] ?_ ?_ 151 _ Y2.out ?_ ?_ ?_ ?_; rfl; rfl; kernel_rfl; rfl; (simp [Value.oneCell']); intro wz hz fz)
  have v0 := cell_of_row _ (w.heap.size + 1) 0 _ _ _ hz
  have v1 := cell_of_row _ (w.heap.size + 1) 1 _ _ _ hz
  simp at v0 v1
  refine bodyPost_ret (v := .agg #[.int .i64 4, .int .i64 8]) (by simp [results, Tryz.results99, go_sem, v0, v1]) rfl ⟨rfl, ?_, ?_⟩
  · exact .inr ((fz.block kb (row_lt K1.out) (by have := HLT.out; omega)).trans K1.out)
  · exact FT.out.trans fz (fun i hi e => by omega)


set_option maxRecDepth 100000 in
set_option maxHeartbeats 1600000 in
theorem of_2 (w : World) (kb : Nat) (hk : Kp w kb) :
    Calls Tryz.prog 99 #[.pointer (some ⟨kb, 0, none⟩), .int .i64 2] w fun e w' => e = .returned (.agg #[.int .i64 0, .int .i64 2]) ∧ Kp w' kb ∧ Fr (fun k => k = kb) w w' := by
  have hlt : kb < w.heap.size := by rcases hk with h | h <;> exact row_lt h
  obtain ⟨x1, x2, f0⟩ := two_boxes w #[.pointer (some ⟨kb, 0, none⟩)] #[.int .i64 0, .int .i64 0] 138 151
  have b1 : ((w.alloc (.cells #[.pointer (some ⟨kb, 0, none⟩)] 138)).alloc (.cells #[.int .i64 0, .int .i64 0] 151)).cell? ⟨w.heap.size, 0, none⟩ = some (.pointer (some ⟨kb, 0, none⟩)) := by rw [cell_of_row _ _ _ _ _ _ x1]; rfl
  have hk2 : Kp ((w.alloc (.cells #[.pointer (some ⟨kb, 0, none⟩)] 138)).alloc (.cells #[.int .i64 0, .int .i64 0] 151)) kb := by
    rcases hk with h | h
    · exact .inl ((f0.block kb hlt (fun e => e)).trans h)
    · exact .inr ((f0.block kb hlt (fun e => e)).trans h)
  have HD := Lib.hid (do_any _ kb w.heap.size hk2 (by omega) b1)
  have X1 := Lib.hid x1
  have X2 := Lib.hid x2
  have F0 := Lib.hid f0
  have HLT := Lib.hid hlt
  clear x1 x2 f0 hk hk2 hlt
  go_enter Tryz.func99, Tryz.ntmps99
  go_wp2_with fail
  refine HD.out.mono ?_
  rintro e w1 ⟨rfl, k1, f1⟩
  have y1 := (f1.block _ (row_lt X1.out) (by have := HLT.out; omega)).trans X1.out
  have y2 := (f1.block _ (row_lt X2.out) (by have := HLT.out; omega)).trans X2.out
  have FT : Hid (Fr (fun k => k = kb) w w1) := (F0.out.mono (T := fun k => k = kb) (fun _ _ h => h.elim)).trans f1 (fun i hi e => e)
  have z1 := cell_of_row _ w.heap.size 0 _ _ _ y1
  have c1 : w1.cell? ⟨kb, 7, none⟩ = some (.int .i64 0) := by rw [cell_of_row _ _ _ _ _ _ k1]; rfl
  have c2 : w1.cell? ⟨kb, 8, none⟩ = some (.int .i64 2) := by rw [cell_of_row _ _ _ _ _ _ k1]; rfl
  simp at z1
  have Y2 := Lib.hid y2
  have K1 := Lib.hid k1
  clear y1 y2 k1 f1 b1
  go_wp2_with (refine wpList_store_whole rfl 151 (.tmp 4) (.tmp 15) rfl (w.heap.size + 1) #[.int .i64 0, .int .i64 2] ?_ ?_ 151 _ Y2.out ?_ ?_ ?_ ?_; rfl; rfl; kernel_rfl; rfl; (simp [Value.oneCell']); intro wz hz fz)
  have v0 := cell_of_row _ (w.heap.size + 1) 0 _ _ _ hz
  have v1 := cell_of_row _ (w.heap.size + 1) 1 _ _ _ hz
  simp at v0 v1
  refine bodyPost_ret (v := .agg #[.int .i64 0, .int .i64 2]) (by simp [results, Tryz.results99, go_sem, v0, v1]) rfl ⟨rfl, ?_, ?_⟩
  · exact .inr ((fz.block kb (row_lt K1.out) (by have := HLT.out; omega)).trans K1.out)
  · exact FT.out.trans fz (fun i hi e => by omega)


set_option maxRecDepth 100000 in
set_option maxHeartbeats 1600000 in
theorem of_3 (w : World) (kb : Nat) (hk : Kp w kb) :
    Calls Tryz.prog 99 #[.pointer (some ⟨kb, 0, none⟩), .int .i64 3] w fun e w' => e = .returned (.agg #[.int .i64 0, .int .i64 4]) ∧ Kp w' kb ∧ Fr (fun k => k = kb) w w' := by
  have hlt : kb < w.heap.size := by rcases hk with h | h <;> exact row_lt h
  obtain ⟨x1, x2, f0⟩ := two_boxes w #[.pointer (some ⟨kb, 0, none⟩)] #[.int .i64 0, .int .i64 0] 138 151
  have b1 : ((w.alloc (.cells #[.pointer (some ⟨kb, 0, none⟩)] 138)).alloc (.cells #[.int .i64 0, .int .i64 0] 151)).cell? ⟨w.heap.size, 0, none⟩ = some (.pointer (some ⟨kb, 0, none⟩)) := by rw [cell_of_row _ _ _ _ _ _ x1]; rfl
  have hk2 : Kp ((w.alloc (.cells #[.pointer (some ⟨kb, 0, none⟩)] 138)).alloc (.cells #[.int .i64 0, .int .i64 0] 151)) kb := by
    rcases hk with h | h
    · exact .inl ((f0.block kb hlt (fun e => e)).trans h)
    · exact .inr ((f0.block kb hlt (fun e => e)).trans h)
  have HD := Lib.hid (do_any _ kb w.heap.size hk2 (by omega) b1)
  have X1 := Lib.hid x1
  have X2 := Lib.hid x2
  have F0 := Lib.hid f0
  have HLT := Lib.hid hlt
  clear x1 x2 f0 hk hk2 hlt
  go_enter Tryz.func99, Tryz.ntmps99
  go_wp2_with fail
  refine HD.out.mono ?_
  rintro e w1 ⟨rfl, k1, f1⟩
  have y1 := (f1.block _ (row_lt X1.out) (by have := HLT.out; omega)).trans X1.out
  have y2 := (f1.block _ (row_lt X2.out) (by have := HLT.out; omega)).trans X2.out
  have FT : Hid (Fr (fun k => k = kb) w w1) := (F0.out.mono (T := fun k => k = kb) (fun _ _ h => h.elim)).trans f1 (fun i hi e => e)
  have z1 := cell_of_row _ w.heap.size 0 _ _ _ y1
  have c1 : w1.cell? ⟨kb, 9, none⟩ = some (.int .i64 0) := by rw [cell_of_row _ _ _ _ _ _ k1]; rfl
  have c2 : w1.cell? ⟨kb, 10, none⟩ = some (.int .i64 4) := by rw [cell_of_row _ _ _ _ _ _ k1]; rfl
  simp at z1
  have Y2 := Lib.hid y2
  have K1 := Lib.hid k1
  clear y1 y2 k1 f1 b1
  go_wp2_with (refine wpList_store_whole rfl 151 (.tmp 4) (.tmp 15) rfl (w.heap.size + 1) #[.int .i64 0, .int .i64 4] ?_ ?_ 151 _ Y2.out ?_ ?_ ?_ ?_; rfl; rfl; kernel_rfl; rfl; (simp [Value.oneCell']); intro wz hz fz)
  have v0 := cell_of_row _ (w.heap.size + 1) 0 _ _ _ hz
  have v1 := cell_of_row _ (w.heap.size + 1) 1 _ _ _ hz
  simp at v0 v1
  refine bodyPost_ret (v := .agg #[.int .i64 0, .int .i64 4]) (by simp [results, Tryz.results99, go_sem, v0, v1]) rfl ⟨rfl, ?_, ?_⟩
  · exact .inr ((fz.block kb (row_lt K1.out) (by have := HLT.out; omega)).trans K1.out)
  · exact FT.out.trans fz (fun i hi e => by omega)


set_option maxRecDepth 100000 in
set_option maxHeartbeats 1600000 in
theorem of_4 (w : World) (kb : Nat) (hk : Kp w kb) :
    Calls Tryz.prog 99 #[.pointer (some ⟨kb, 0, none⟩), .int .i64 4] w fun e w' => e = .returned (.agg #[.int .i64 (-1000), .int .i64 1000]) ∧ Kp w' kb ∧ Fr (fun k => k = kb) w w' := by
  have hlt : kb < w.heap.size := by rcases hk with h | h <;> exact row_lt h
  obtain ⟨x1, x2, f0⟩ := two_boxes w #[.pointer (some ⟨kb, 0, none⟩)] #[.int .i64 0, .int .i64 0] 138 151
  have b1 : ((w.alloc (.cells #[.pointer (some ⟨kb, 0, none⟩)] 138)).alloc (.cells #[.int .i64 0, .int .i64 0] 151)).cell? ⟨w.heap.size, 0, none⟩ = some (.pointer (some ⟨kb, 0, none⟩)) := by rw [cell_of_row _ _ _ _ _ _ x1]; rfl
  have hk2 : Kp ((w.alloc (.cells #[.pointer (some ⟨kb, 0, none⟩)] 138)).alloc (.cells #[.int .i64 0, .int .i64 0] 151)) kb := by
    rcases hk with h | h
    · exact .inl ((f0.block kb hlt (fun e => e)).trans h)
    · exact .inr ((f0.block kb hlt (fun e => e)).trans h)
  have HD := Lib.hid (do_any _ kb w.heap.size hk2 (by omega) b1)
  have X1 := Lib.hid x1
  have X2 := Lib.hid x2
  have F0 := Lib.hid f0
  have HLT := Lib.hid hlt
  clear x1 x2 f0 hk hk2 hlt
  go_enter Tryz.func99, Tryz.ntmps99
  go_wp2_with fail
  refine HD.out.mono ?_
  rintro e w1 ⟨rfl, k1, f1⟩
  have y1 := (f1.block _ (row_lt X1.out) (by have := HLT.out; omega)).trans X1.out
  have y2 := (f1.block _ (row_lt X2.out) (by have := HLT.out; omega)).trans X2.out
  have FT : Hid (Fr (fun k => k = kb) w w1) := (F0.out.mono (T := fun k => k = kb) (fun _ _ h => h.elim)).trans f1 (fun i hi e => e)
  have z1 := cell_of_row _ w.heap.size 0 _ _ _ y1
  have c1 : w1.cell? ⟨kb, 11, none⟩ = some (.int .i64 (-1000)) := by rw [cell_of_row _ _ _ _ _ _ k1]; rfl
  have c2 : w1.cell? ⟨kb, 12, none⟩ = some (.int .i64 1000) := by rw [cell_of_row _ _ _ _ _ _ k1]; rfl
  simp at z1
  have Y2 := Lib.hid y2
  have K1 := Lib.hid k1
  clear y1 y2 k1 f1 b1
  go_wp2_with (refine wpList_store_whole rfl 151 (.tmp 4) (.tmp 15) rfl (w.heap.size + 1) #[.int .i64 (-1000), .int .i64 1000] ?_ ?_ 151 _ Y2.out ?_ ?_ ?_ ?_; rfl; rfl; kernel_rfl; rfl; (simp [Value.oneCell']); intro wz hz fz)
  have v0 := cell_of_row _ (w.heap.size + 1) 0 _ _ _ hz
  have v1 := cell_of_row _ (w.heap.size + 1) 1 _ _ _ hz
  simp at v0 v1
  refine bodyPost_ret (v := .agg #[.int .i64 (-1000), .int .i64 1000]) (by simp [results, Tryz.results99, go_sem, v0, v1]) rfl ⟨rfl, ?_, ?_⟩
  · exact .inr ((fz.block kb (row_lt K1.out) (by have := HLT.out; omega)).trans K1.out)
  · exact FT.out.trans fz (fun i hi e => by omega)


set_option maxRecDepth 100000 in
set_option maxHeartbeats 1600000 in
theorem of_5 (w : World) (kb : Nat) (hk : Kp w kb) :
    Calls Tryz.prog 99 #[.pointer (some ⟨kb, 0, none⟩), .int .i64 5] w fun e w' => e = .returned (.agg #[.int .i64 1, .int .i64 8]) ∧ Kp w' kb ∧ Fr (fun k => k = kb) w w' := by
  have hlt : kb < w.heap.size := by rcases hk with h | h <;> exact row_lt h
  obtain ⟨x1, x2, f0⟩ := two_boxes w #[.pointer (some ⟨kb, 0, none⟩)] #[.int .i64 0, .int .i64 0] 138 151
  have b1 : ((w.alloc (.cells #[.pointer (some ⟨kb, 0, none⟩)] 138)).alloc (.cells #[.int .i64 0, .int .i64 0] 151)).cell? ⟨w.heap.size, 0, none⟩ = some (.pointer (some ⟨kb, 0, none⟩)) := by rw [cell_of_row _ _ _ _ _ _ x1]; rfl
  have hk2 : Kp ((w.alloc (.cells #[.pointer (some ⟨kb, 0, none⟩)] 138)).alloc (.cells #[.int .i64 0, .int .i64 0] 151)) kb := by
    rcases hk with h | h
    · exact .inl ((f0.block kb hlt (fun e => e)).trans h)
    · exact .inr ((f0.block kb hlt (fun e => e)).trans h)
  have HD := Lib.hid (do_any _ kb w.heap.size hk2 (by omega) b1)
  have X1 := Lib.hid x1
  have X2 := Lib.hid x2
  have F0 := Lib.hid f0
  have HLT := Lib.hid hlt
  clear x1 x2 f0 hk hk2 hlt
  go_enter Tryz.func99, Tryz.ntmps99
  go_wp2_with fail
  refine HD.out.mono ?_
  rintro e w1 ⟨rfl, k1, f1⟩
  have y1 := (f1.block _ (row_lt X1.out) (by have := HLT.out; omega)).trans X1.out
  have y2 := (f1.block _ (row_lt X2.out) (by have := HLT.out; omega)).trans X2.out
  have FT : Hid (Fr (fun k => k = kb) w w1) := (F0.out.mono (T := fun k => k = kb) (fun _ _ h => h.elim)).trans f1 (fun i hi e => e)
  have z1 := cell_of_row _ w.heap.size 0 _ _ _ y1
  have c1 : w1.cell? ⟨kb, 13, none⟩ = some (.int .i64 1) := by rw [cell_of_row _ _ _ _ _ _ k1]; rfl
  have c2 : w1.cell? ⟨kb, 14, none⟩ = some (.int .i64 8) := by rw [cell_of_row _ _ _ _ _ _ k1]; rfl
  simp at z1
  have Y2 := Lib.hid y2
  have K1 := Lib.hid k1
  clear y1 y2 k1 f1 b1
  go_wp2_with (refine wpList_store_whole rfl 151 (.tmp 4) (.tmp 15) rfl (w.heap.size + 1) #[.int .i64 1, .int .i64 8] ?_ ?_ 151 _ Y2.out ?_ ?_ ?_ ?_; rfl; rfl; kernel_rfl; rfl; (simp [Value.oneCell']); intro wz hz fz)
  have v0 := cell_of_row _ (w.heap.size + 1) 0 _ _ _ hz
  have v1 := cell_of_row _ (w.heap.size + 1) 1 _ _ _ hz
  simp at v0 v1
  refine bodyPost_ret (v := .agg #[.int .i64 1, .int .i64 8]) (by simp [results, Tryz.results99, go_sem, v0, v1]) rfl ⟨rfl, ?_, ?_⟩
  · exact .inr ((fz.block kb (row_lt K1.out) (by have := HLT.out; omega)).trans K1.out)
  · exact FT.out.trans fz (fun i hi e => by omega)


set_option maxRecDepth 100000 in
set_option maxHeartbeats 1600000 in
theorem of_6 (w : World) (kb : Nat) (hk : Kp w kb) :
    Calls Tryz.prog 99 #[.pointer (some ⟨kb, 0, none⟩), .int .i64 6] w fun e w' => e = .returned (.agg #[.int .i64 0, .int .i64 2]) ∧ Kp w' kb ∧ Fr (fun k => k = kb) w w' := by
  have hlt : kb < w.heap.size := by rcases hk with h | h <;> exact row_lt h
  obtain ⟨x1, x2, f0⟩ := two_boxes w #[.pointer (some ⟨kb, 0, none⟩)] #[.int .i64 0, .int .i64 0] 138 151
  have b1 : ((w.alloc (.cells #[.pointer (some ⟨kb, 0, none⟩)] 138)).alloc (.cells #[.int .i64 0, .int .i64 0] 151)).cell? ⟨w.heap.size, 0, none⟩ = some (.pointer (some ⟨kb, 0, none⟩)) := by rw [cell_of_row _ _ _ _ _ _ x1]; rfl
  have hk2 : Kp ((w.alloc (.cells #[.pointer (some ⟨kb, 0, none⟩)] 138)).alloc (.cells #[.int .i64 0, .int .i64 0] 151)) kb := by
    rcases hk with h | h
    · exact .inl ((f0.block kb hlt (fun e => e)).trans h)
    · exact .inr ((f0.block kb hlt (fun e => e)).trans h)
  have HD := Lib.hid (do_any _ kb w.heap.size hk2 (by omega) b1)
  have X1 := Lib.hid x1
  have X2 := Lib.hid x2
  have F0 := Lib.hid f0
  have HLT := Lib.hid hlt
  clear x1 x2 f0 hk hk2 hlt
  go_enter Tryz.func99, Tryz.ntmps99
  go_wp2_with fail
  refine HD.out.mono ?_
  rintro e w1 ⟨rfl, k1, f1⟩
  have y1 := (f1.block _ (row_lt X1.out) (by have := HLT.out; omega)).trans X1.out
  have y2 := (f1.block _ (row_lt X2.out) (by have := HLT.out; omega)).trans X2.out
  have FT : Hid (Fr (fun k => k = kb) w w1) := (F0.out.mono (T := fun k => k = kb) (fun _ _ h => h.elim)).trans f1 (fun i hi e => e)
  have z1 := cell_of_row _ w.heap.size 0 _ _ _ y1
  have c1 : w1.cell? ⟨kb, 15, none⟩ = some (.int .i64 0) := by rw [cell_of_row _ _ _ _ _ _ k1]; rfl
  have c2 : w1.cell? ⟨kb, 16, none⟩ = some (.int .i64 2) := by rw [cell_of_row _ _ _ _ _ _ k1]; rfl
  simp at z1
  have Y2 := Lib.hid y2
  have K1 := Lib.hid k1
  clear y1 y2 k1 f1 b1
  go_wp2_with (refine wpList_store_whole rfl 151 (.tmp 4) (.tmp 15) rfl (w.heap.size + 1) #[.int .i64 0, .int .i64 2] ?_ ?_ 151 _ Y2.out ?_ ?_ ?_ ?_; rfl; rfl; kernel_rfl; rfl; (simp [Value.oneCell']); intro wz hz fz)
  have v0 := cell_of_row _ (w.heap.size + 1) 0 _ _ _ hz
  have v1 := cell_of_row _ (w.heap.size + 1) 1 _ _ _ hz
  simp at v0 v1
  refine bodyPost_ret (v := .agg #[.int .i64 0, .int .i64 2]) (by simp [results, Tryz.results99, go_sem, v0, v1]) rfl ⟨rfl, ?_, ?_⟩
  · exact .inr ((fz.block kb (row_lt K1.out) (by have := HLT.out; omega)).trans K1.out)
  · exact FT.out.trans fz (fun i hi e => by omega)


set_option maxRecDepth 100000 in
set_option maxHeartbeats 1600000 in
theorem of_7 (w : World) (kb : Nat) (hk : Kp w kb) :
    Calls Tryz.prog 99 #[.pointer (some ⟨kb, 0, none⟩), .int .i64 7] w fun e w' => e = .returned (.agg #[.int .i64 0, .int .i64 51]) ∧ Kp w' kb ∧ Fr (fun k => k = kb) w w' := by
  have hlt : kb < w.heap.size := by rcases hk with h | h <;> exact row_lt h
  obtain ⟨x1, x2, f0⟩ := two_boxes w #[.pointer (some ⟨kb, 0, none⟩)] #[.int .i64 0, .int .i64 0] 138 151
  have b1 : ((w.alloc (.cells #[.pointer (some ⟨kb, 0, none⟩)] 138)).alloc (.cells #[.int .i64 0, .int .i64 0] 151)).cell? ⟨w.heap.size, 0, none⟩ = some (.pointer (some ⟨kb, 0, none⟩)) := by rw [cell_of_row _ _ _ _ _ _ x1]; rfl
  have hk2 : Kp ((w.alloc (.cells #[.pointer (some ⟨kb, 0, none⟩)] 138)).alloc (.cells #[.int .i64 0, .int .i64 0] 151)) kb := by
    rcases hk with h | h
    · exact .inl ((f0.block kb hlt (fun e => e)).trans h)
    · exact .inr ((f0.block kb hlt (fun e => e)).trans h)
  have HD := Lib.hid (do_any _ kb w.heap.size hk2 (by omega) b1)
  have X1 := Lib.hid x1
  have X2 := Lib.hid x2
  have F0 := Lib.hid f0
  have HLT := Lib.hid hlt
  clear x1 x2 f0 hk hk2 hlt
  go_enter Tryz.func99, Tryz.ntmps99
  go_wp2_with fail
  refine HD.out.mono ?_
  rintro e w1 ⟨rfl, k1, f1⟩
  have y1 := (f1.block _ (row_lt X1.out) (by have := HLT.out; omega)).trans X1.out
  have y2 := (f1.block _ (row_lt X2.out) (by have := HLT.out; omega)).trans X2.out
  have FT : Hid (Fr (fun k => k = kb) w w1) := (F0.out.mono (T := fun k => k = kb) (fun _ _ h => h.elim)).trans f1 (fun i hi e => e)
  have z1 := cell_of_row _ w.heap.size 0 _ _ _ y1
  have c1 : w1.cell? ⟨kb, 17, none⟩ = some (.int .i64 0) := by rw [cell_of_row _ _ _ _ _ _ k1]; rfl
  have c2 : w1.cell? ⟨kb, 18, none⟩ = some (.int .i64 51) := by rw [cell_of_row _ _ _ _ _ _ k1]; rfl
  simp at z1
  have Y2 := Lib.hid y2
  have K1 := Lib.hid k1
  clear y1 y2 k1 f1 b1
  go_wp2_with (refine wpList_store_whole rfl 151 (.tmp 4) (.tmp 15) rfl (w.heap.size + 1) #[.int .i64 0, .int .i64 51] ?_ ?_ 151 _ Y2.out ?_ ?_ ?_ ?_; rfl; rfl; kernel_rfl; rfl; (simp [Value.oneCell']); intro wz hz fz)
  have v0 := cell_of_row _ (w.heap.size + 1) 0 _ _ _ hz
  have v1 := cell_of_row _ (w.heap.size + 1) 1 _ _ _ hz
  simp at v0 v1
  refine bodyPost_ret (v := .agg #[.int .i64 0, .int .i64 51]) (by simp [results, Tryz.results99, go_sem, v0, v1]) rfl ⟨rfl, ?_, ?_⟩
  · exact .inr ((fz.block kb (row_lt K1.out) (by have := HLT.out; omega)).trans K1.out)
  · exact FT.out.trans fz (fun i hi e => by omega)


set_option maxRecDepth 100000 in
set_option maxHeartbeats 1600000 in
theorem of_8 (w : World) (kb : Nat) (hk : Kp w kb) :
    Calls Tryz.prog 99 #[.pointer (some ⟨kb, 0, none⟩), .int .i64 8] w fun e w' => e = .returned (.agg #[.int .i64 (-12), .int .i64 12]) ∧ Kp w' kb ∧ Fr (fun k => k = kb) w w' := by
  have hlt : kb < w.heap.size := by rcases hk with h | h <;> exact row_lt h
  obtain ⟨x1, x2, f0⟩ := two_boxes w #[.pointer (some ⟨kb, 0, none⟩)] #[.int .i64 0, .int .i64 0] 138 151
  have b1 : ((w.alloc (.cells #[.pointer (some ⟨kb, 0, none⟩)] 138)).alloc (.cells #[.int .i64 0, .int .i64 0] 151)).cell? ⟨w.heap.size, 0, none⟩ = some (.pointer (some ⟨kb, 0, none⟩)) := by rw [cell_of_row _ _ _ _ _ _ x1]; rfl
  have hk2 : Kp ((w.alloc (.cells #[.pointer (some ⟨kb, 0, none⟩)] 138)).alloc (.cells #[.int .i64 0, .int .i64 0] 151)) kb := by
    rcases hk with h | h
    · exact .inl ((f0.block kb hlt (fun e => e)).trans h)
    · exact .inr ((f0.block kb hlt (fun e => e)).trans h)
  have HD := Lib.hid (do_any _ kb w.heap.size hk2 (by omega) b1)
  have X1 := Lib.hid x1
  have X2 := Lib.hid x2
  have F0 := Lib.hid f0
  have HLT := Lib.hid hlt
  clear x1 x2 f0 hk hk2 hlt
  go_enter Tryz.func99, Tryz.ntmps99
  go_wp2_with fail
  refine HD.out.mono ?_
  rintro e w1 ⟨rfl, k1, f1⟩
  have y1 := (f1.block _ (row_lt X1.out) (by have := HLT.out; omega)).trans X1.out
  have y2 := (f1.block _ (row_lt X2.out) (by have := HLT.out; omega)).trans X2.out
  have FT : Hid (Fr (fun k => k = kb) w w1) := (F0.out.mono (T := fun k => k = kb) (fun _ _ h => h.elim)).trans f1 (fun i hi e => e)
  have z1 := cell_of_row _ w.heap.size 0 _ _ _ y1
  have c1 : w1.cell? ⟨kb, 19, none⟩ = some (.int .i64 (-12)) := by rw [cell_of_row _ _ _ _ _ _ k1]; rfl
  have c2 : w1.cell? ⟨kb, 20, none⟩ = some (.int .i64 12) := by rw [cell_of_row _ _ _ _ _ _ k1]; rfl
  simp at z1
  have Y2 := Lib.hid y2
  have K1 := Lib.hid k1
  clear y1 y2 k1 f1 b1
  go_wp2_with (refine wpList_store_whole rfl 151 (.tmp 4) (.tmp 15) rfl (w.heap.size + 1) #[.int .i64 (-12), .int .i64 12] ?_ ?_ 151 _ Y2.out ?_ ?_ ?_ ?_; rfl; rfl; kernel_rfl; rfl; (simp [Value.oneCell']); intro wz hz fz)
  have v0 := cell_of_row _ (w.heap.size + 1) 0 _ _ _ hz
  have v1 := cell_of_row _ (w.heap.size + 1) 1 _ _ _ hz
  simp at v0 v1
  refine bodyPost_ret (v := .agg #[.int .i64 (-12), .int .i64 12]) (by simp [results, Tryz.results99, go_sem, v0, v1]) rfl ⟨rfl, ?_, ?_⟩
  · exact .inr ((fz.block kb (row_lt K1.out) (by have := HLT.out; omega)).trans K1.out)
  · exact FT.out.trans fz (fun i hi e => by omega)


def inAll (l : List Int) (a b : Int) : Bool := l.all fun x => inB x a b

theorem inAll_snoc (l : List Int) (a b : Int) (j : Nat) (h : j < l.length) : inAll (l.take (j + 1)) a b = (inAll (l.take j) a b && inB l[j] a b) := by
  unfold inAll
  rw [List.take_succ_eq_append_getElem h, List.all_append]
  simp

set_option maxRecDepth 100000 in
set_option maxHeartbeats 1600000 in
theorem holds_any (w : World) (lo hi : Int) (l : List Int) (a : Option Addr) (cap : Nat) (h : IntRow w a l) (hl : l.length ≤ 1000000000) :
    Calls Tryz.prog 100 #[.agg #[.int .i64 lo, .int .i64 hi], .slice a l.length cap] w fun e w' => e = .returned (.bool (inAll l lo hi)) ∧ Below w.heap.size w w' := by
  have hb : Below w.heap.size w (w.alloc (.cells #[.int .i64 lo, .int .i64 hi] 151)) := (Below.refl _ _).alloc (Nat.le_refl _) _
  have HB := Lib.hid hb
  have H := Lib.hid (h.alloc (.cells #[.int .i64 lo, .int .i64 hi] 151))
  have hr := heap_alloc_last w (.cells #[.int .i64 lo, .int .i64 hi] 151)
  have c0 := cell_of_row _ w.heap.size 0 _ _ _ hr
  have c1 := cell_of_row _ w.heap.size 1 _ _ _ hr
  simp at c0 c1
  clear h hb hr
  go_enter Tryz.func100, Tryz.ntmps100
  go_wp2_with fail
  go_loopg [9] l.length (fun q i wr => ∃ j : Nat, j + q = l.length ∧ i = .int .i64 (j : Int) ∧ Aside (inAll (l.take j) lo hi = true) ∧ wr = (w.alloc (.cells #[.int .i64 lo, .int .i64 hi] 151)))
  case atStart => exact ⟨0, by omega, rfl, (by simp [inAll] : inAll (l.take 0) lo hi = true), rfl⟩
  case round =>
    obtain ⟨j, hq, rfl, AL, rfl⟩ := hrel
    by_cases hlt : j < l.length
    · obtain ⟨g, og, rfl, hg, hcell⟩ := H.out.at hlt
      have HS := Lib.hid (inAll_snoc l lo hi j hlt)
      have hin : ∀ y ∈ l, inAll l lo hi = true → inB y lo hi = true := fun y hy hh => by unfold inAll at hh; rw [List.all_eq_true] at hh; exact hh y hy
      have HI := Lib.hid (hin l[j] (List.getElem_mem hlt))
      clear hin
      generalize l[j] = x at *
      by_cases h1 : x < lo
      · go_wp2_with fail
        go_ret
        have hf : inAll l lo hi = false := by
          cases hh : inAll l lo hi
          · rfl
          · have := HI.out hh; simp [inB] at this; omega
        exact ⟨ret_bool hf.symm, HB.out⟩
      · by_cases h2 : hi < x
        · go_wp2_with fail
          go_ret
          have hf : inAll l lo hi = false := by
            cases hh : inAll l lo hi
            · rfl
            · have := HI.out hh; simp [inB] at this; omega
          exact ⟨ret_bool hf.symm, HB.out⟩
        · go_wp2_with fail
          go_roundg (gk - 1)
          case measure => omega
          case rel => exact ⟨j + 1, by omega, by go_num, (by rw [HS.out, show inAll (l.take j) lo hi = true from AL]; simp [inB]; omega : inAll (l.take (j + 1)) lo hi = true), rfl⟩
    · obtain rfl : j = l.length := by omega
      go_wp2_with fail
      go_ret
      rw [List.take_length] at AL
      exact ⟨ret_bool (show true = inAll l lo hi from (show inAll l lo hi = true from AL).symm), HB.out⟩
end Go.Proofs.YthcbgijmnonckaaGreat
