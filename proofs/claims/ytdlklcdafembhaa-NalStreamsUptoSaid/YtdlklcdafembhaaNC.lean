/- strings.Builder as a list of bytes, call by call. -/
import Derived.Test.YtdlklcdafembhaaNB
import Derived.Test.YtdlklcdafembhaaW
import Derived.Deep.QuietTactic
import Derived.BigQuiet
namespace Go.Proofs.Ytdlklcdafembhaa
open Go.RowKit Zn Zo

/-- Block b is a builder of the call's own (from block B on) that holds these bytes. -/
def Bd (w : World) (B b : Nat) (l : List UInt8) : Prop := Lib.IsBuilderF 56 5 B b (Lib.byteCells l) w

theorem Bd.block {w : World} {B b : Nat} {l : List UInt8} (h : Bd w B b l) : B ≤ b ∧ ∃ p v, w.heap[b]? = some (.cells #[p, v] 56 (0, 0)) := by
  rcases h with h | h
  · obtain ⟨hB, v, hb, _⟩ := h; exact ⟨hB, _, v, hb⟩
  · obtain ⟨hB, v, hb, _⟩ := h; exact ⟨hB, _, v, hb⟩

theorem Bd.lt {w : World} {B b : Nat} {l : List UInt8} (h : Bd w B b l) : b < w.heap.size := by
  obtain ⟨_, p, v, hb⟩ := h.block
  exact row_lt hb

theorem Bd.ge {w : World} {B b : Nat} {l : List UInt8} (h : Bd w B b l) : B ≤ b := h.block.1

theorem ownsRowF_below {w w' : World} {B : Nat} {e : TypeId} {size : Nat} {v : Value} {n : Nat} {xs : List Value} (h : w.ownsRowF B e size v n xs) (b : Below w.heap.size w w') : w'.ownsRowF B e size v n xs := by
  refine ⟨h.1, ?_⟩
  rcases h.2 with hn | ⟨g, cap, cur, fz, h1, h2, h3, rest⟩
  · exact .inl hn
  · exact .inr ⟨g, cap, cur, fz, h1, h2, (b.block g (row_lt h3)).trans h3, rest⟩

theorem builderAtF_below {T e : TypeId} {B b : Nat} {p : Value} {bs : List Value} {w w' : World} (h : Lib.BuilderAtF T e B b p bs w) (f : Below w.heap.size w w') : Lib.BuilderAtF T e B b p bs w' := by
  obtain ⟨hB, v, hb, hown, hne⟩ := h
  exact ⟨hB, v, (f.block b (row_lt hb)).trans hb, ownsRowF_below hown f, hne⟩

theorem Bd.below {w w' : World} {B b : Nat} {l : List UInt8} (h : Bd w B b l) (f : Below w.heap.size w w') : Bd w' B b l := by
  rcases h with h | h
  · exact .inl (builderAtF_below h f)
  · exact .inr (builderAtF_below h f)

theorem Bd.alloc {w : World} {B b : Nat} {l : List UInt8} (h : Bd w B b l) (o : Obj) : Bd (w.alloc o) B b l := h.below ((Below.refl _ _).alloc (Nat.le_refl _) _)

theorem bd_new (w : World) (B : Nat) (hB : B ≤ w.heap.size) : Bd (w.alloc (.cells #[.pointer none, .slice none 0 0] 56)) B w.heap.size [] :=
  .of (.inl ⟨hB, .slice none 0 0, heap_alloc_new w _, World.ownsRow_nil _ _ _ _, by simp [Value.ownBlock]⟩)

/-- What a call on the builder b turns: nothing below B, and no block but b and rows of bytes. -/
def Kept (B b : Nat) (w w' : World) : Prop := Below B w w' ∧ Lib.OthersKept 5 (some b) w w'

theorem Kept.refl (B b : Nat) (w : World) : Kept B b w w := ⟨Below.refl _ _, Lib.OthersKept.refl _ _ _⟩
theorem Kept.trans {B b : Nat} {u v w : World} (h : Kept B b u v) (k : Kept B b v w) : Kept B b u w := ⟨h.1.trans k.1, h.2.trans k.2⟩
theorem Kept.of_below {B b : Nat} {w w' : World} (h : Below w.heap.size w w') (hB : B ≤ w.heap.size) : Kept B b w w' := ⟨h.mono hB, others_of_below h⟩
theorem Kept.size {B b : Nat} {w w' : World} (h : Kept B b w w') : w.heap.size ≤ w'.heap.size := h.1.size
theorem Kept.row {B b k : Nat} {w w' : World} {cs : Array Value} {t : TypeId} {fz : Nat × Nat} (h : Kept B b w w') (hk : w.heap[k]? = some (.cells cs t fz)) (hb : k ≠ b) (ht : t ≠ 5) : w'.heap[k]? = some (.cells cs t fz) :=
  h.2 k _ hk (by simpa using hb) (fun c f e => by cases e; exact ht rfl)

theorem byteCells_oneCell (l : List UInt8) : ∀ v ∈ Lib.byteCells l, v.oneCell' = true := by
  intro v hv
  simp only [Lib.byteCells, List.mem_map] at hv
  obtain ⟨x, _, rfl⟩ := hv
  rfl

theorem grow_any (w : World) (B b : Nat) (l : List UInt8) (n : Int) (h : Bd w B b l) (hBw : B ≤ w.heap.size) (hn0 : 0 ≤ n) (hn : n ≤ 1000000000) (hl : l.length ≤ 1000000000) :
    Calls Try.prog 25 #[.pointer (some ⟨b, 0, none⟩), .int .i64 n] w fun e w' => e = .returned (.tuple #[]) ∧ Bd w' B b l ∧ Kept B b w w' := by
  obtain ⟨n, rfl⟩ := Int.eq_ofNat_of_zero_le hn0
  have hlen := Lib.byteCells_length l
  have hone := Lib.hid (byteCells_oneCell l)
  obtain ⟨bs, hbs⟩ : ∃ bs, Lib.byteCells l = bs := ⟨_, rfl⟩
  unfold Bd at h ⊢
  rw [hbs] at h hlen hone ⊢
  have hl2 : bs.length ≤ 1000000000 := by omega
  clear hbs hlen hl
  go_enter Try.func25, Try.ntmps25
  go_wp2_with fail
  refine (Try.Builder_copyCheck B b bs w h).mono ?_
  rintro e w1 ⟨rfl, ⟨hB, v, hb, hown, hne⟩, bl, ok⟩
  have hB1 : B ≤ w1.heap.size := by have := bl.size; omega
  have hat : Hid (Lib.BuilderAtF 56 5 B b (.pointer (some ⟨b, 0, none⟩)) bs w1) := ⟨hB, v, hb, hown, hne⟩
  obtain ⟨a, cap, rfl, hlc, hcm, HS⟩ : ∃ a cap, v = .slice a bs.length cap ∧ bs.length ≤ cap ∧ cap ≤ 9223372036854775807 ∧ Hid (0 < bs.length → ∃ g, a = some ⟨g, 0, none⟩ ∧ g < w1.heap.size ∧ ∀ j v, bs[j]? = some v → w1.cell? ((⟨g, 0, none⟩ : Addr).add j) = some v) := by
    rcases hown.2 with ⟨rfl, h0⟩ | ⟨g, cap, cur, fz, rfl, hg, h3, _, h4, h5, _⟩
    · exact ⟨none, 0, by rw [h0], by omega, by omega, fun h => by omega⟩
    · exact ⟨_, cap, rfl, h4, h5, fun _ => ⟨g, rfl, row_lt h3, hown.cells rfl⟩⟩
  have c1 := Lib.cell_of_heap hb 1
  simp at c1
  have HB := Lib.hid hb
  clear hb hown hne h
  have hk : Hid (Kept B b w w1) := ⟨bl, ok⟩
  by_cases hc : (cap : Int) - (bs.length : Int) < (n : Int)
  · go_wp2_with fail
    go_quiet (fail)
    go_wp2_with fail
    refine (grow_at (w1.drewN _) B b cap n a bs _ hB HB.out hlc HS hB1 (by omega) hone.out).mono ?_
    rintro e w2 ⟨rfl, h2, b2, o2⟩
    go_wp2_with fail
    go_end0
    exact ⟨rfl, .of (.inr h2), hk.out.trans ⟨⟨b2.os, b2.tape, b2.output, b2.size, b2.block⟩, o2⟩⟩
  · go_wp2_with fail
    go_quiet (fail)
    go_wp2_with fail
    go_end0
    exact ⟨rfl, .inr hat.out, hk.out.trans ⟨⟨rfl, rfl, rfl, Nat.le_refl _, fun _ _ => rfl⟩, fun _ _ h _ _ => h⟩⟩

theorem byte_any (w : World) (B b : Nat) (l : List UInt8) (c : UInt8) (z : Int) (hz : z = (c.toNat : Int)) (h : Bd w B b l) (hBw : B ≤ w.heap.size) (hl : l.length ≤ 1000000000) :
    Calls Try.prog 36 #[.pointer (some ⟨b, 0, none⟩), .int .u8 z] w fun e w' => e = .returned .nilIface ∧ Bd w' B b (l ++ [c]) ∧ Kept B b w w' := by
  refine (Try.Builder_WriteByte B b _ z w h (by rw [Lib.byteCells_length]; omega) hBw).mono ?_
  rintro e w' ⟨rfl, h1, b1⟩
  refine ⟨rfl, .inr ?_, b1⟩
  rw [Lib.byteCells_append, show Lib.byteCells [c] = [.int .u8 z] from by rw [hz]; rfl]
  exact h1

theorem str_any (w : World) (B b : Nat) (l : List UInt8) (s : ByteArray) (h : Bd w B b l) (hBw : B ≤ w.heap.size) (hl : l.length + s.size ≤ 1000000000) :
    Calls Try.prog 26 #[.pointer (some ⟨b, 0, none⟩), .string s] w fun e w' => e = .returned (.tuple #[.int .i64 s.size, .nilIface]) ∧ Bd w' B b (l ++ s.data.toList) ∧ Kept B b w w' := by
  refine (Try.Builder_WriteString B b _ s w h (by rw [Lib.byteCells_length]; omega) hBw).mono ?_
  rintro e w' ⟨rfl, h1, b1⟩
  refine ⟨rfl, .inr ?_, b1⟩
  rw [Lib.byteCells_append, ← Lib.strCells_eq]
  exact h1

theorem string_any (w : World) (B b : Nat) (l : List UInt8) (h : Bd w B b l) (hBw : B ≤ w.heap.size) :
    Calls Try.prog 28 #[.pointer (some ⟨b, 0, none⟩)] w fun e w' => e = .returned (.string ⟨l.toArray⟩) ∧ Kept B b w w' := by
  refine (Try.Builder_StringK B b l w h hBw).mono ?_
  rintro e w' ⟨rfl, _, h1, h2⟩
  exact ⟨rfl, h1, h2⟩

end Go.Proofs.Ytdlklcdafembhaa
