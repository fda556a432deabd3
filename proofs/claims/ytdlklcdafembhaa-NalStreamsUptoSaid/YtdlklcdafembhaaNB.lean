/- strings.Builder as a list of bytes: its calls, Grow among them at a builder that has been written. -/
import Derived.Test.YtdlklcdafembhaaNS
import Derived.Test.YtdlklcdafembhaaNM
import Derived.WalkKit
import Derived.RegionTactic
import Derived.ChangeAlike
import Derived.Outline
import Derived.LoopTactic
import Derived.Handy
import Derived.Deep.LoopGhost
import Derived.Deep.RegionLaw
import Derived.Deep.RegionWith
import Derived.Deep.RegionHeld3
import Derived.Laws.CopyOwn
import Derived.Lib.Hide
import Derived.Lib.BufferWrite
import Derived.Lib.OthersKept
namespace Go.Proofs.Ytdlklcdafembhaa
open Go.RowKit

theorem others_of_below {e : TypeId} {b : Option Nat} {w w' : World} (f : Below w.heap.size w w') : Lib.OthersKept e b w w' := by
  intro k o hk _ _
  have hlt : k < w.heap.size := (Array.getElem?_eq_some_iff.1 hk).1
  exact (f.block k hlt).trans hk

set_option maxHeartbeats 1000000 in
theorem grow_at (w : World) (B b cap n : Nat) (a : Option Addr) (bs : List Value) (p : Value)
    (hB : B ≤ b) (hbk : w.heap[b]? = some (.cells #[p, .slice a bs.length cap] 56 (0, 0)))
    (hlen : bs.length ≤ cap) (hsrc : Hid (0 < bs.length → ∃ g, a = some ⟨g, 0, none⟩ ∧ g < w.heap.size ∧ ∀ j v, bs[j]? = some v → w.cell? ((⟨g, 0, none⟩ : Addr).add j) = some v))
    (hBw : B ≤ w.heap.size) (hn : 2 * cap + n ≤ 281474976710656) (hone : ∀ v ∈ bs, v.oneCell' = true) :
    Calls Try.prog 35 #[.pointer (some ⟨b, 0, none⟩), .int .i64 n] w fun e w' => e = .returned (.tuple #[]) ∧ Lib.BuilderAt 56 5 B b p bs w' ∧ Below B w w' ∧ Lib.OthersKept 5 (some b) w w' := by
  obtain ⟨cs, hrun, hle, hmax⟩ := Lib.run_makeNoZero (P := Try.prog) w.drew #[3] 51 5 Try.underlying51 (2 * cap + n) hn
  have hw : IntKind.i64.wrap (IntKind.i64.wrap (2 * (cap : Int)) + (n : Int)) = ((2 * cap + n : Nat) : Int) := by
    rw [IntKind.wrap_i64, IntKind.wrap_i64]; omega
  have hcall : (callFunc 41 #[.int .i64 (IntKind.i64.wrap (IntKind.i64.wrap (2 * (cap : Int)) + (n : Int)))]).run Try.prog w.drew = .ok (.value (.slice (some ⟨w.drew.heap.size, 0, none⟩) (2 * cap + n) cs.size)) (w.drew.drew.drew.alloc (.cells cs 5)) := by
    rw [hw, run_callFunc_extern Try.func41 (by kernel_rfl) (by kernel_rfl) (by kernel_rfl) (e := Extern.BytealgMakeNoZero.makeNoZero #[3] #[51]) (by kernel_rfl), hrun]
    rfl
  have hlt : b < w.heap.size := by
    rcases Nat.lt_or_ge b w.heap.size with h' | h'
    · exact h'
    · simp [Array.getElem?_eq_none h'] at hbk
  have hb2 : (w.alloc (.cells cs 5)).heap[b]? = some (.cells #[p, .slice a bs.length cap] 56 (0, 0)) := (Lib.alloc_old w _ b hlt).trans hbk
  have c1 : w.drew.cell? ⟨b, 1, none⟩ = some (.slice a bs.length cap) := by
    have : w.drew.heap[b]? = _ := hbk
    rw [Lib.cell_of_heap this]; rfl
  have c2 : (w.alloc (.cells cs 5)).cell? ⟨b, 1, none⟩ = some (.slice a bs.length cap) := by rw [Lib.cell_of_heap hb2]; rfl
  have f2 : (w.alloc (.cells cs 5)).frozen? ⟨b, 1, none⟩ = false := Lib.frozen_of_heap hb2 1
  have hlc : bs.length ≤ cs.size := by omega
  have hsz1 : (Try.prog.info? 5).map (·.size) = some 1 := by kernel_rfl
  have hba0 : Below w.heap.size w (w.alloc (.cells cs 5)) := (Below.refl _ _).alloc (Nat.le_refl _) _
  have hba : Hid (Below w.heap.size w (w.alloc (.cells cs 5)).drew.drew.drew) := hba0.drew.drew.drew
  have HG : Hid ((w.alloc (.cells cs 5)).drew.drew.drew.heap[w.heap.size]? = some (.cells cs.toList.toArray 5 (0, 0))) := by
    rw [Array.toArray_toList]; exact heap_alloc_new w (.cells cs 5)
  have HS : Hid (0 < bs.length → ∃ ad, a = some ad ∧ ∀ j v, bs[j]? = some v → (w.alloc (.cells cs 5)).drew.drew.drew.cell? (ad.add j) = some v) := by
    intro h0
    obtain ⟨g, rfl, hg, hc⟩ := hsrc h0
    refine ⟨_, rfl, fun j v h => ?_⟩
    show (w.alloc (.cells cs 5)).cell? _ = _
    rw [hba0.cell (by unfold Addr.add; split <;> simp_all)]
    exact hc j v h
  have HLE := Lib.hid hle
  clear hw hrun hba0 hsrc
  go_enter Try.func35, Try.ntmps35
  go_wp2
  go_region_with (fail)
  all_goals
    go_wp2_with (refine wpList_copy_splice rfl (.tmp 20) (.tmp 24) 51 51 rfl 5 Try.underlying51 hsz1 (some ⟨w.heap.size, 0, none⟩) a bs.length cs.size bs.length cap rfl rfl w.heap.size 0 cs.toList 5 ?_ bs (by simp) ?_ ?_ hone w.heap.size w ?_ (Nat.le_refl _) ?_; (exact HG.out); (exact fun h => ⟨rfl, HS.out h⟩); (simpa using hlc); (exact hba.out); intro w2 hg2 hb2; have hb3 := (hb2.block b hlt).trans hbk; have c3 := Lib.cell_of_heap hb3 1; have f3 := Lib.frozen_of_heap hb3 1; have HB3 := Lib.hid hb3; clear hb3; simp at c3)
    go_end0
    have hb3 := HB3.out
    have hm := hmax (by unfold maxLen; omega)
    have hown2 : w2.ownsRow B 5 1 (.slice (some ⟨w.heap.size, 0, none⟩) bs.length cs.size) bs.length bs :=
      ⟨by simp, .inr ⟨w.heap.size, cs.size, _, rfl, hBw, hg2.out, hlc, hm, by simp [splice]; omega, by simp [splice]⟩⟩
    exact ⟨rfl, Lib.BuilderAt.put hB hb3 hown2 (by decide), (hb2.mono hBw).setCell hB _, (others_of_below (b := some b) hb2).setCell ⟨b, 1, none⟩ rfl _⟩

end Go.Proofs.Ytdlklcdafembhaa
