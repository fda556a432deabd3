/- Layer 3: the law's own helpers that lend a slice, ask whether it was kept, spoil it. -/
import Derived.Test.YtadfgadkihlmcaaQA
namespace Go.Proofs.Ytadfgadkihlmcaa
open Go.RowKit Zo Zp

theorem IntRow.take {w : World} {a : Option Addr} {l m : List Int} (h : IntRow w a (l ++ m)) : IntRow w a l := by
  intro hl
  obtain ⟨b, o, ha, hb, hc⟩ := h (by intro e; exact hl (List.append_eq_nil_iff.1 e).1)
  refine ⟨b, o, ha, hb, fun i hi => ?_⟩
  have := hc i (by rw [List.length_append]; omega)
  rwa [List.getElem_append_left hi] at this

theorem own_cap {w : World} {base : Nat} {e : TypeId} {size : Nat} {g n cap : Nat} {xs : List Value} (h : w.ownsRow base e size (.slice (some ⟨g, 0, none⟩) n cap) n xs) : n ≤ cap ∧ cap ≤ maxLen ∧ base ≤ g ∧ g < w.heap.size := by
  rcases h.2 with ⟨hv, _⟩ | ⟨g', cap', cur, hv, hb, hg, h1, h2, _⟩
  · cases hv
  · simp only [Value.slice.injEq, Option.some.injEq, Addr.mk.injEq] at hv
    obtain ⟨⟨rfl, _⟩, _, rfl⟩ := hv
    exact ⟨h1, h2, hb, row_lt hg⟩

def LentPost (w : World) (l : List Int) (e : Ending) (w' : World) : Prop :=
  ∃ g cap, e = .returned (.slice (some ⟨g, 0, none⟩) l.length cap) ∧ l.length + 2 ≤ cap ∧ cap ≤ maxLen ∧ w.heap.size ≤ g ∧ IntRow w' (some ⟨g, 0, none⟩) (l ++ [-7777, -8888]) ∧ Below w.heap.size w w'

set_option maxRecDepth 100000 in
set_option maxHeartbeats 1000000 in
theorem lendInts_any (w : World) (a : Option Addr) (cap : Nat) (l : List Int) (h : IntRow w a l) (hl : l.length ≤ 1000000000) (ha : a = none → l = [] ∧ cap = 0) :
    Calls Try.prog 10 #[.slice a l.length cap] w (LentPost w l) := by
  obtain ⟨i0, hi, hz0, hz1, hz2⟩ := info_parts info3
  go_enter Try.func10, Try.ntmps10
  go_wp2_with fail
  refine (copyInts_any _ a cap l h hl ha).mono ?_
  rintro e w1 ⟨v', rfl, hown, b1⟩
  have z1 := b1.size
  have HB := Lib.hid b1
  have hown1 : (w1.alloc (.cells #[.int .i64 (-7777), .int .i64 (-8888)] 3)).ownsRow w.heap.size 3 1 v' l.length (iv l) := hown.alloc _
  have hr : Row (w1.alloc (.cells #[.int .i64 (-7777), .int .i64 (-8888)] 3)) w1.heap.size 3 [.int .i64 (-7777), .int .i64 (-8888)] := heap_alloc_last _ _
  have hnews := hr.news
  have HN := Lib.hid hnews
  clear hown b1 hnews hr ha h
  go_wp2_with (refine wpList_append_lies _ rfl (.tmp 5) (.tmp 6) 22 rfl w.heap.size 3 i0 (.int .i64 0) 1 8 Try.underlying22 hi hz0 hz1 hz2 ?_ ?_ v' l.length (iv l) ?_ hown1 ⟨w1.heap.size, 0, none⟩ 2 2 [.int .i64 (-7777), .int .i64 (-8888)] ?_ ?_ HN.out ?_ ?_ ?_ ?_ ?_ _ rfl ?_; rfl; decide; rfl; rfl; rfl; (simp [Value.oneCell']); decide; (unfold maxLen; omega); omega; (simp; omega); intro g cap w3 hown3 hgrow3 hat3 hlt3; obtain ⟨hc1, hc2, hc3, hc4⟩ := own_cap hown3; have hcc : l.length ≤ cap := Nat.le_trans (Nat.le_add_right _ 2) hc1)
  have H3 := Lib.hid hown3
  have hlt1 := World.ownsRow.lt hown1
  clear hown3 hown1
  go_ret
  refine ⟨g, cap, rfl, hc1, hc2, hc3, ?_, (HB.out.alloc z1 _).grown hgrow3 (by simp; omega) (fun k e => ?_)⟩
  · have := H3.out
    rw [show iv l ++ [.int .i64 (-7777), .int .i64 (-8888)] = iv (l ++ [-7777, -8888]) from by simp [iv]] at this
    exact IntRow.of_own this
  · exact (hlt1 k e).1

theorem keptInts_yes (w : World) (g : Nat) (a' : Option Addr) (cap cap' : Nat) (l : List Int) (h : IntRow w (some ⟨g, 0, none⟩) (l ++ [-7777, -8888])) (h' : IntRow w a' l) (hl : l.length ≤ 1000000000) (hc : l.length + 2 ≤ cap) :
    Calls Try.prog 18 #[.slice (some ⟨g, 0, none⟩) l.length cap, .slice a' l.length cap'] w fun e w' => e = .returned (.bool true) ∧ ∃ n, w' = w.drewN n := by
  have hs := Lib.hid (sameInts_yes w _ a' cap cap' l h.take h' hl)
  obtain ⟨b, o, ha, hb, hcell⟩ := h (by simp)
  simp only [Option.some.injEq, Addr.mk.injEq] at ha
  obtain ⟨rfl, rfl, _⟩ := ha
  have c1 := hcell l.length (by simp)
  have c2 := hcell (l.length + 1) (by simp)
  simp at c1 c2
  have C2 : ∀ n, (w.drewN n).cell? ⟨g, l.length, none⟩ = some (.int .i64 (-7777)) ∧ (w.drewN n).cell? ⟨g, l.length + 1, none⟩ = some (.int .i64 (-8888)) := fun n => ⟨c1, c2⟩
  have CC := Lib.hid C2
  clear hcell h h' c1 c2 C2
  have hcc : (l.length : Int) + 2 ≤ (cap : Int) := by omega
  go_enter Try.func18, Try.ntmps18
  go_wp2_with fail
  refine hs.out.mono ?_
  rintro e w1 ⟨rfl, n, rfl⟩
  obtain ⟨c1, c2⟩ := CC.out n
  go_wp2_with fail
  go_ret
  exact ⟨rfl, n, rfl⟩

/-- What SpoilInts leaves: only cells of that block are turned. -/
def SpoilPost (w : World) (a : Option Addr) (e : Ending) (w' : World) : Prop := e = .returned (.tuple #[]) ∧ Fr (fun k => ∃ x, a = some x ∧ x.block = k) w w'

theorem spoilInts_any (w : World) (a : Option Addr) (cap : Nat) (l : List Int) (h : IntRow w a l) (hl : l.length ≤ 1000000000) (hx : ∀ x ∈ l, -1000000 ≤ x ∧ x ≤ 1000000) (hf : ∀ x, a = some x → ∃ cs t, w.heap[x.block]? = some (.cells cs t (0, 0))) :
    Calls Try.prog 20 #[.slice a l.length cap] w (SpoilPost w a) := by
  have H := Lib.hid h
  have HX := Lib.hid hx
  have HF := Lib.hid hf
  clear h hx hf
  go_enter Try.func20, Try.ntmps20
  go_wp2
  go_loopg [2] l.length (fun q i wr => ∃ j : Nat, j + q = l.length ∧ i = .int .i64 (j : Int) ∧ Fr (fun k => ∃ x, a = some x ∧ x.block = k) w wr ∧ Aside ((∀ b o, a = some ⟨b, o, none⟩ → ∀ i (h : i < l.length), j ≤ i → wr.cell? ⟨b, o + i, none⟩ = some (.int .i64 l[i])) ∧ ∀ x, a = some x → ∃ cs t, wr.heap[x.block]? = some (.cells cs t (0, 0))))
  case atStart =>
    refine ⟨0, by omega, rfl, Fr.refl _ _, fun b o ha i hi _ => ?_, HF.out⟩
    obtain ⟨b', o', ha', _, hc⟩ := H.out.at hi
    rw [ha] at ha'
    simp only [Option.some.injEq, Addr.mk.injEq, and_true] at ha'
    obtain ⟨rfl, rfl⟩ := ha'
    exact hc
  case round =>
    obtain ⟨j, hq, rfl, f, A⟩ := hrel
    by_cases hlt : j < l.length
    · obtain ⟨b, o, ha, hb, _⟩ := H.out.at hlt
      subst ha
      have hc := A.1 b o rfl j hlt (Nat.le_refl _)
      obtain ⟨cs, t, hrow⟩ := A.2 _ rfl
      have hfree := free_row hrow (o + j)
      have hxj := HX.out l[j] (List.getElem_mem hlt)
      have hx1 := hxj.1
      have hx2 := hxj.2
      have HR := Lib.hid hrow
      clear hrow hxj
      generalize l[j] = x at *
      go_wp2
      go_roundg (gk - 1)
      case measure => omega
      case rel =>
        refine ⟨j + 1, by omega, by go_num, f.setCell (p := ⟨b, o + j, none⟩) (fun _ => ⟨_, rfl, rfl⟩) _, fun b' o' ha' i hi hij => ?_, fun y hy => ?_⟩
        · simp only [Option.some.injEq, Addr.mk.injEq, and_true] at ha'
          obtain ⟨rfl, rfl⟩ := ha'
          rw [World.cell?_setCell_other _ _ _ _ (by intro e; simp only [Addr.mk.injEq] at e; omega)]
          exact A.1 b o rfl i hi (by omega)
        · simp only [Option.some.injEq] at hy
          subst hy
          exact ⟨_, _, heap_setCell_row HR.out _ _⟩
    · go_wp2
      go_end0
      exact ⟨rfl, f⟩
end Go.Proofs.Ytadfgadkihlmcaa
