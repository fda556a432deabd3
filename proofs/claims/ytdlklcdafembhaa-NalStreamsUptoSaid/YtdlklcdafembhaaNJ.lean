/- nal's Split. -/
import Derived.Test.YtdlklcdafembhaaNH
import Derived.Lib.SlBytesRow
import Derived.Maps.AppendAt
import Derived.Deep.AppendLies
namespace Go.Proofs.Ytdlklcdafembhaa
open Go.RowKit Zn Zo

/-- A number of the library's is there. -/
def ML (w : World) : Prop := ∃ m, w.cell? ⟨0, 0, none⟩ = some (.int .i64 m)

theorem ML.lt {w : World} (h : ML w) : 0 < w.heap.size := by
  obtain ⟨m, hm⟩ := h
  exact World.block_lt_of_cell? w _ hm

theorem ML.below {w w' : World} (h : ML w) (b : Below w.heap.size w w') : ML w' := by
  have hl := h.lt
  obtain ⟨m, hm⟩ := h
  exact ⟨m, (b.cell (p := ⟨_, 0, none⟩) hl).trans hm⟩

theorem ML.at {w w' : World} {B : Nat} (h : ML w) (b : Below B w w') (hB : B = w.heap.size) : ML w' := by
  subst hB; exact h.below b

theorem bsize (l : List UInt8) : (⟨l.toArray⟩ : ByteArray).size = l.length := by show l.toArray.size = _; simp

def txts (l : List (List UInt8)) : List Value := l.map fun p => .string ⟨p.toArray⟩

theorem txts_length (l : List (List UInt8)) : (txts l).length = l.length := by simp [txts]

/-- A slice of texts that the call owns. -/
def OwnT (w : World) (B : Nat) (v : Value) (l : List (List UInt8)) : Prop := w.ownsRow B 9 1 v l.length (txts l)

theorem OwnT.nil (w : World) (B : Nat) : OwnT w B (.slice none 0 0) [] := World.ownsRow_nil _ _ _ _

theorem ownsRow_below3 {w w' : World} {B : Nat} {e : TypeId} {size : Nat} {v : Value} {n : Nat} {xs : List Value} (h : w.ownsRow B e size v n xs) (b : Below w.heap.size w w') : w'.ownsRow B e size v n xs :=
  ownsRow_fr (S := fun k => w.heap.size ≤ k) h ⟨b.os, b.tape, b.output, b.size, fun k hk _ => b.block k hk⟩ (fun k e hk => by have := World.ownsRow.lt h k e; omega)

theorem OwnT.below {w w' : World} {B : Nat} {v : Value} {l : List (List UInt8)} (h : OwnT w B v l) (b : Below w.heap.size w w') : OwnT w' B v l := ownsRow_below3 h b

theorem info_str : (Try.prog.info? 9).map (fun i => (i.zero, i.size, i.bytes)) = some (some (.string ⟨#[]⟩), 1, 16) := by kernel_rfl

theorem append_text {w : World} {ops : Array Oper} {rest : List Oper} {o : Oper} {a : Act} {Q : Exit → Act → World → Prop} (hgd : o.guard = none) (s x : Operand)
    (ho : o.op = .call { callee := .builtin .append, args := #[s, x], argTypes := #[42, 42] })
    (B : Nat) (v : Value) (m : List (List UInt8)) (z : ByteArray) (c : List UInt8) (hz : z = ⟨c.toArray⟩) (hs : a.eval s = v) (hown : OwnT w B v m) (hx : a.eval x = .slice (some ⟨w.heap.size, 0, none⟩) 1 1)
    (hl : m.length ≤ 1000000000) (hB : B ≤ w.heap.size)
    (h : ∀ v' w', OwnT w' B v' (m ++ [c]) → Below B w w' → wpList Try.prog ops Q rest (a.put o.dst v') w') : wpList Try.prog ops Q (o :: rest) a (w.alloc (.cells #[.string z] 9)) := by
  obtain ⟨i0, hi, hz0, hz1, hz2⟩ := info_parts info_str
  refine wpList_append_lies _ hgd s x 42 ho B 9 i0 (.string ⟨#[]⟩) 1 16 Try.underlying42 hi hz0 hz1 hz2 rfl (by decide) v m.length (txts m) hs (World.ownsRow.alloc hown _) ⟨w.heap.size, 0, none⟩ 1 1 [.string z] hx rfl (cell_one_new _ _ _) (by simp [Value.oneCell']) (by decide) (by unfold maxLen; omega) (by omega) (by simp; omega) _ rfl ?_
  intro g cap w' h1 h2 h3 h4
  refine h _ _ ?_ (((Below.refl _ _).alloc hB _).grown h2 (by simp; omega) (fun k e => (World.ownsRow.lt hown k e).1))
  unfold OwnT
  rw [List.length_append, show txts (m ++ [c]) = txts m ++ [.string z] from by rw [hz]; simp [txts]]
  exact h1

theorem clone_any (s : ByteArray) (w : World) (hs : s.size ≤ 1000000000) :
    Calls Try.prog 33 #[.string s] w fun e w' => e = .returned (.string s) ∧ Below w.heap.size w w' := by
  go_enter Try.func33, Try.ntmps33
  go_wp2_with fail
  refine (Try.stringslite_Clone s w (by omega)).mono ?_
  rintro e w1 ⟨rfl, b1⟩
  go_wp2_with fail
  go_ret
  exact ⟨rfl, b1⟩

/-- What Split answers. -/
def splAns : List UInt8 → List (List UInt8) × Int
  | [] => ([], 0)
  | c :: s => if Zn.start.isPrefixOf (c :: s) then (sp (s.drop 2), 0) else ([], 201)

def SplPost (t : List (List UInt8) × Int) (w : World) (e : Ending) (w' : World) : Prop :=
  ∃ v, e = .returned (.tuple #[v, .int .i64 t.2]) ∧ OwnT w' w.heap.size v t.1 ∧ Below w.heap.size w w'

theorem split_any (s : ByteArray) (w : World) (hm : ML w) (hs : s.size ≤ 100000000) :
    Calls Try.prog 22 #[.string s] w (SplPost (splAns s.data.toList) w) := by
  by_cases h0 : s.size = 0
  · obtain rfl : s = ⟨#[]⟩ := by
      apply ByteArray.ext
      exact Array.eq_empty_of_size_eq_zero h0
    go_enter Try.func22, Try.ntmps22
    go_wp2_with fail
    go_ret2
    exact ⟨_, rfl, OwnT.nil _ _, Below.refl _ _⟩
  · have hp : 0 < s.size := by omega
    have hcons := Lib.hid (str_cons s hp)
    have hne : s.toList.isEmpty = false := by
      rw [Lib.toList_data, hcons.out]; rfl
    cases hpre : Zn.start.isPrefixOf s.data.toList with
    | false =>
      have HA : Hid (splAns s.data.toList = ([], 201)) := by
        show _ = _
        rw [hcons.out] at hpre ⊢
        rw [splAns, if_neg (by rw [hpre]; decide)]
      have HP : Lib.hasPrefix s.data.toList [0, 0, 1] = false := hpre
      clear hpre h0
      go_enter Try.func22, Try.ntmps22
      go_wp2_with fail
      refine (Try.strings_CutPrefix s _ w).mono ?_
      rintro e w1 ⟨rfl, rfl⟩
      go_wp2_with fail
      go_ret2
      exact ⟨.slice none 0 0, by rw [HA.out]; rfl, by rw [HA.out]; exact OwnT.nil _ _, Below.refl _ _⟩
    | true =>
      have HA : Hid (splAns s.data.toList = (sp (s.data.toList.drop 3), 0)) := by
        show _ = _
        rw [hcons.out] at hpre ⊢
        rw [splAns, if_pos hpre]
        rw [List.drop_succ_cons, List.drop_drop]
      have HP : Lib.hasPrefix s.data.toList [0, 0, 1] = true := hpre
      have HT : Lib.trimPrefix s.data.toList [0, 0, 1] = s.data.toList.drop 3 := by rw [Lib.trimPrefix, if_pos HP]; rfl
      have HML := Lib.hid hm
      obtain ⟨B, hB0⟩ : ∃ B, w.heap.size = B := ⟨_, rfl⟩
      have HB := Lib.hid hB0
      clear hB0
      clear hpre h0 hm
      go_enter Try.func22, Try.ntmps22
      go_wp2_with fail
      refine (Try.strings_CutPrefix s _ w).mono ?_
      rintro e w1 ⟨rfl, rfl⟩
      go_wp2_with fail
      go_loopg [4, 5, 6] (s.size + 1) (fun q rv mv ov wr => ∃ r more out v, v = ov ∧ rv = .string r ∧ mv = .bool more ∧ OwnT wr B v out ∧ r.size + (if more = true then 1 else 0) ≤ q ∧ out.length + q ≤ s.size + 1 ∧ Aside (sp (s.data.toList.drop 3) = out ++ (if more = true then sp r.data.toList else [])) ∧ Below B w1 wr)
      case atStart =>
        refine ⟨_, true, [], _, rfl, rfl, rfl, OwnT.nil _ _, ?_, by simp, by show _ = _; simp, Below.refl _ _⟩
        rw [bsize, List.length_drop, if_pos rfl, show s.data.toList.length = s.size from by simp]; omega
      case round =>
        clear HP HT
        obtain ⟨r, more, out, v, rfl, rfl, rfl, hown, hrq, hol, A, bl⟩ := hrel
        have hBr : B ≤ wr.heap.size := by have := bl.size; rw [HB.out] at this; exact this
        have hml : ML wr := HML.out.at bl HB.out.symm
        cases more with
        | false =>
          have HF : Hid (splAns s.data.toList = (out, 0)) := by
            show _ = _
            rw [HA.out, A]; simp
          go_wp2_with fail
          go_ret2
          exact ⟨v, by rw [HF.out]; rfl, by rw [HF.out, HB.out]; exact hown, by rw [HB.out]; exact bl⟩
        | true =>
          obtain ⟨mm, hmm⟩ := hml
          have hc := cut_true_length r.data.toList
          have hcl := cut_length r.data.toList
          have hcs := sp_cut r.data.toList
          have hrl : r.data.toList.length = r.size := by simp
          rw [hrl] at hc hcl
          simp only [if_true] at hrq A
          have hc2 : (Lib.cut r.data.toList Zn.start).2.2 = false → (Lib.cut r.data.toList Zn.start).2.1 = [] := by
            intro h
            unfold Lib.cut at h ⊢
            split
            · rename_i h0; rw [if_pos h0] at h; cases h
            · rfl
          obtain ⟨c1, c2, c3, hcc⟩ : ∃ c1 c2 c3, Lib.cut r.data.toList [0, 0, 1] = (c1, c2, c3) := ⟨_, _, _, rfl⟩
          have hcc' : Lib.cut r.data.toList Zn.start = (c1, c2, c3) := hcc
          rw [hcc'] at hc hcl hcs hc2
          simp only at hc hcl hcs hc2
          have HCS := Lib.hid hcs
          have HC := Lib.hid hc
          have HC2 := Lib.hid hc2
          have HCut : Calls Try.prog 32 #[.string r, .string ⟨#[0, 0, 1]⟩] wr fun e w' => e = .returned (.tuple #[.string ⟨c1.toArray⟩, .string ⟨c2.toArray⟩, .bool c3]) ∧ ∃ n, w' = wr.drewN n := by
            refine (Try.strings_Cut r ⟨#[0, 0, 1]⟩ mm wr (by omega) hmm).mono ?_
            rintro e w' ⟨rfl, h⟩
            refine ⟨?_, h⟩
            rw [show (⟨#[0, 0, 1]⟩ : ByteArray).data.toList = [0, 0, 1] from rfl, hcc]
          have HCU := Lib.hid HCut
          clear hc hcs hc2 hcc hcc' HCut hmm hrl
          go_wp2_with fail
          refine HCU.out.mono ?_
          rintro e w2 ⟨rfl, n, rfl⟩
          go_wp2_with fail
          refine (clone_any _ _ (by rw [bsize]; omega)).mono ?_
          rintro e w3 ⟨rfl, b3⟩
          have hown3 : OwnT w3 B v out := OwnT.below (w := wr.drewN n) hown b3
          have hB3 : B ≤ w3.heap.size := by have := b3.size; exact Nat.le_trans hBr this
          have HB3 := Lib.hid b3
          clear b3
          go_wp2_with (at_builtin; (refine append_text rfl (.tmp 24) (.tmp 27) rfl B v out _ c1 rfl rfl hown3 rfl ?_ hB3 ?_; omega; intro v4 w4 hown4 b4))
          go_roundg (gk - 1)
          case measure => omega
          case rel =>
            refine ⟨⟨c2.toArray⟩, c3, out ++ [c1], v4, rfl, rfl, rfl, hown4, ?_, by simp; omega, ?_, ((below_drewN bl n).trans (HB3.out.mono hBr)).trans b4⟩
            · cases c3 with
              | true => have := HC.out rfl; rw [bsize, if_pos rfl]; omega
              | false => have := HC2.out rfl; rw [bsize, this, if_neg (by simp)]; simp
            · show _ = _
              rw [A, HCS.out]
              cases c3 <;> simp

end Go.Proofs.Ytdlklcdafembhaa
