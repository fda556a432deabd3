/- Layer 3: sync.Once, alone; the program's keeper of ranges: its table, made at the first call. -/
import Derived.Test.YthcbgijmnonckaaGreatQN
import Derived.Defers
import Derived.Laws.Pointers
import Derived.Laws.LoneSync
import Derived.RegionTactic
import Derived.RegionCalls
import Derived.Deep.MidRow
namespace Go.Proofs.YthcbgijmnonckaaGreat
open Go.RowKit Zo Zp

def setAll : Array Value → Nat → List Value → Array Value
  | cs, _, [] => cs
  | cs, o, v :: r => setAll (cs.setIfInBounds o v) (o + 1) r

theorem heap_setCells_row {b : Nat} {t : TypeId} {fr : Nat × Nat} : ∀ (vs : List Value) (o : Nat) (cs : Array Value) (w : World), w.heap[b]? = some (.cells cs t fr) → (w.setCells b o vs).heap[b]? = some (.cells (setAll cs o vs) t fr)
  | [], _, _, _, h => h
  | v :: r, o, cs, w, h => heap_setCells_row r (o + 1) (cs.setIfInBounds o v) (w.setCell ⟨b, o, none⟩ v) (heap_setCell_row h o v)

theorem fr_setCells {S : Nat → Prop} {a : World} {b : Nat} (hb : b < a.heap.size → S b) : ∀ (vs : List Value) (o : Nat) (w : World), Fr S a w → Fr S a (w.setCells b o vs)
  | [], _, _, h => h
  | v :: r, o, w, h => fr_setCells hb r (o + 1) (w.setCell ⟨b, o, none⟩ v) (h.setCell (p := ⟨b, o, none⟩) hb v)

def kpZ : Array Value := #[.int .u32 0, .int .i32 0, .int .u32 0, .int .i64 0, .int .i64 0, .int .i64 0, .int .i64 0, .int .i64 0, .int .i64 0, .int .i64 0, .int .i64 0, .int .i64 0, .int .i64 0, .int .i64 0, .int .i64 0, .int .i64 0, .int .i64 0, .int .i64 0, .int .i64 0, .int .i64 0, .int .i64 0]
def kpL : Array Value := #[.int .u32 0, .int .i32 1, .int .u32 0, .int .i64 0, .int .i64 0, .int .i64 0, .int .i64 0, .int .i64 0, .int .i64 0, .int .i64 0, .int .i64 0, .int .i64 0, .int .i64 0, .int .i64 0, .int .i64 0, .int .i64 0, .int .i64 0, .int .i64 0, .int .i64 0, .int .i64 0, .int .i64 0]
def kpM : Array Value := #[.int .u32 0, .int .i32 1, .int .u32 0, .int .i64 1, .int .i64 8, .int .i64 4, .int .i64 8, .int .i64 0, .int .i64 2, .int .i64 0, .int .i64 4, .int .i64 (-1000), .int .i64 1000, .int .i64 1, .int .i64 8, .int .i64 0, .int .i64 2, .int .i64 0, .int .i64 51, .int .i64 (-12), .int .i64 12]
def kpN : Array Value := #[.int .u32 1, .int .i32 1, .int .u32 0, .int .i64 1, .int .i64 8, .int .i64 4, .int .i64 8, .int .i64 0, .int .i64 2, .int .i64 0, .int .i64 4, .int .i64 (-1000), .int .i64 1000, .int .i64 1, .int .i64 8, .int .i64 0, .int .i64 2, .int .i64 0, .int .i64 51, .int .i64 (-12), .int .i64 12]
def kpD : Array Value := #[.int .u32 1, .int .i32 0, .int .u32 0, .int .i64 1, .int .i64 8, .int .i64 4, .int .i64 8, .int .i64 0, .int .i64 2, .int .i64 0, .int .i64 4, .int .i64 (-1000), .int .i64 1000, .int .i64 1, .int .i64 8, .int .i64 0, .int .i64 2, .int .i64 0, .int .i64 51, .int .i64 (-12), .int .i64 12]
def kpT : List Value := [.int .i64 1, .int .i64 8, .int .i64 4, .int .i64 8, .int .i64 0, .int .i64 2, .int .i64 0, .int .i64 4, .int .i64 (-1000), .int .i64 1000, .int .i64 1, .int .i64 8, .int .i64 0, .int .i64 2, .int .i64 0, .int .i64 51, .int .i64 (-12), .int .i64 12]

theorem race_disable (w : World) : (callFunc 143 #[]).run Tryz.prog w = .ok (.value (.tuple #[])) w := run_call_mark0 Tryz.func143 (by kernel_rfl) (by kernel_rfl) (by kernel_rfl) .disable (by kernel_rfl) w
theorem race_enable (w : World) : (callFunc 145 #[]).run Tryz.prog w = .ok (.value (.tuple #[])) w := run_call_mark0 Tryz.func145 (by kernel_rfl) (by kernel_rfl) (by kernel_rfl) .enable (by kernel_rfl) w
theorem race_acquire (a : Addr) (w : World) : (callFunc 146 #[.pointer (some a)]).run Tryz.prog w = .ok (.value (.tuple #[])) w := run_call_marked Tryz.func146 (by kernel_rfl) (by kernel_rfl) (by kernel_rfl) .acquire (by kernel_rfl) a w
theorem race_release (a : Addr) (w : World) : (callFunc 148 #[.pointer (some a)]).run Tryz.prog w = .ok (.value (.tuple #[])) w := run_call_marked Tryz.func148 (by kernel_rfl) (by kernel_rfl) (by kernel_rfl) .releaseMerge (by kernel_rfl) a w

/-- '(*sync/atomic.Bool).Store(true)', entered as a deferred call. -/
theorem store_deferred (a : Addr) (x : Value) (u : FrameMode) (w : World) (hc : w.cell? a = some x) (hz : w.frozen? a = false) :
    CallsD Tryz.prog 138 #[.pointer (some a), .bool true] u w fun e u' w' => u' = u ∧ (e = .returned (.tuple #[]) ∧ w' = w.drew.setCell a (.int .u32 1)) := by
  have hc' : w.drew.cell? a = some x := by go_simp
  have hz' : w.drew.frozen? a = false := by go_simp
  have hst := run_call_store (P := Tryz.prog) Tryz.func141 (by kernel_rfl) (by kernel_rfl) (by kernel_rfl) (by kernel_rfl) (k := .u32) (y := 1) hc' hz'
  go_enter_d Tryz.func138, Tryz.ntmps138
  go_wp2
  go_region_calls
  all_goals (go_end0; exact ⟨rfl, rfl⟩)

set_option maxRecDepth 100000 in
/-- '(*sync.Mutex).Unlock', entered as a deferred call, the lock held and nobody waiting. -/
theorem unlock_deferred (a : Addr) (u : FrameMode) (w : World) (hc : w.cell? a = some (.int .i32 1)) (hz : w.frozen? a = false) :
    CallsD Tryz.prog 137 #[.pointer (some a)] u w fun e u' w' => u' = u ∧ (e = .returned (.tuple #[]) ∧ w' = w.setCell a (.int .i32 0)) := by
  have hd := race_disable
  have he := race_enable
  have hr := race_release
  have hadd := run_call_add (P := Tryz.prog) Tryz.func149 (by kernel_rfl) (by kernel_rfl) (by kernel_rfl) .i32 (by kernel_rfl) (y := -1) (s := 0) hc hz (by simp [go_sem]; rfl)
  have hcv := run_convert_to_unsafe (P := Tryz.prog) (src := 199) (dst := 203) Tryz.underlying199 Tryz.underlying203 (by kernel_rfl) hc
  go_enter_d Tryz.func137, Tryz.ntmps137
  go_wp2
  go_end0
  all_goals go_wp2
  all_goals go_end0
  all_goals exact ⟨rfl, rfl⟩

set_option maxRecDepth 100000 in
/-- '(*sync.Mutex).Lock', the lock free. -/
theorem lock_free (a : Addr) (w : World) (hc : w.cell? a = some (.int .i32 0)) (hz : w.frozen? a = false) :
    Calls Tryz.prog 136 #[.pointer (some a)] w fun e w' => e = .returned (.tuple #[]) ∧ w' = w.setCell a (.int .i32 1) := by
  have hd := race_disable
  have he := race_enable
  have ha := race_acquire
  have hcas := run_call_cas_hit (P := Tryz.prog) Tryz.func144 (by kernel_rfl) (by kernel_rfl) (by kernel_rfl) .i32 (by kernel_rfl) (y := 1) hc hz
  have hc' : (w.setCell a (.int .i32 1)).cell? a = some (.int .i32 1) := World.cell?_setCell_same w a _ hc
  have hcv := run_convert_to_unsafe (P := Tryz.prog) (src := 199) (dst := 203) Tryz.underlying199 Tryz.underlying203 (by kernel_rfl) hc'
  go_enter Tryz.func136, Tryz.ntmps136
  go_wp2
  first | go_end0 | (simp only [Exit.inBlock, Exit.then]; refine bodyPost_ret (results_none rfl _ _ _) rfl ?_) | refine bodyPost_ret (results_none rfl _ _ _) rfl ?_
  all_goals go_wp2
  all_goals go_end0
  all_goals exact ⟨rfl, rfl⟩

/-- The keeper's closure: its table is laid. -/
theorem table_made (w : World) (kb pl : Nat) (hk : w.heap[kb]? = some (.cells kpL 154 (0, 0))) (hp : w.cell? ⟨pl, 0, none⟩ = some (.pointer (some ⟨kb, 0, none⟩))) :
    Calls Tryz.prog 125 #[.pointer (some ⟨pl, 0, none⟩)] w fun e w' => e = .returned (.tuple #[]) ∧ w' = w.setCells kb 3 kpT := by
  have hthere : w.there kb 3 18 := fun j hj => by
    refine ⟨?_, free_row hk _⟩
    rw [cell_of_row _ _ _ _ _ _ hk]
    have : 3 + j < kpL.size := by show 3 + j < 21; omega
    rw [Array.getElem?_eq_getElem this]
    rfl
  have HT := Lib.hid hthere
  clear hthere hk
  go_enter Tryz.func125, Tryz.ntmps125
  go_wp2_with (refine wpList_store_mid rfl 152 (.tmp 13) (.tmp 11) rfl kb 3 (kpT.toArray) ?_ ?_ HT.out ?_ ?_ ?_; rfl; rfl; kernel_rfl; (simp [kpT, Value.oneCell']))
  go_end0
  exact ⟨rfl, rfl⟩
end Go.Proofs.YthcbgijmnonckaaGreat
