/- The law's own test that a program answers at all; how a Writer and a Reader lie beside each other. -/
import Derived.Test.YtadfgadkihlmcaaF
namespace Go.Proofs.Ytadfgadkihlmcaa
open Go.RowKit Zo

theorem Wr.row {w : World} {base b : Nat} {o : Option Nat} {bits : List Bool} (h : Wr w base b o bits) : (∃ cs, w.heap[b]? = some (.cells cs 109 (0,0))) ∧ base ≤ b ∧ (∀ k, o = some k → base ≤ k ∧ ∃ cs, w.heap[k]? = some (.cells cs 5 (0,0))) := by
  obtain ⟨bytes, k, r, ⟨c, v, hrow, hbb, hv, hown, h256⟩, hk⟩ := h
  refine ⟨⟨_, hrow⟩, hbb, fun k e => ?_⟩
  rcases hown.2 with ⟨rfl, _⟩ | ⟨g, cap, cur, rfl, hbg, hg, _⟩
  · rw [← hv] at e; simp [Value.ownBlock] at e
  · rw [← hv] at e
    simp [Value.ownBlock] at e
    subst e
    exact ⟨hbg, _, hg⟩

theorem Wr.lt {w : World} {base b : Nat} {o : Option Nat} {bits : List Bool} (h : Wr w base b o bits) : base < w.heap.size := by
  obtain ⟨⟨_, h1⟩, h2, _⟩ := h.row
  have := row_lt h1; omega

theorem WPost.below {w w' : World} {base b : Nat} {o : Option Nat} {bits bits' : List Bool} (h : Wr w base b o bits) (p : WPost w base b o bits' w') : Below base w w' := by
  have hb := h.lt
  obtain ⟨_, _, f, _⟩ := p
  obtain ⟨_, h1, h2⟩ := h.row
  refine f.below (by omega) (fun k hk => ?_)
  rcases hk with rfl | e
  · exact h1
  · exact (h2 k e).1

theorem Rd.row {w : World} {base b : Nat} {s : ByteArray} {p : Nat} (h : Rd w base b s p) : (∃ cs, w.heap[b]? = some (.cells cs 116 (0,0))) ∧ base ≤ b := by
  obtain ⟨c, ones, h, hb, _⟩ := h
  exact ⟨⟨_, h⟩, hb⟩

theorem RPost.below {w w' : World} {base b : Nat} {s : ByteArray} {p q : Nat} (h : Rd w base b s p) (r : RPost w base b s q w') : Below base w w' := by
  obtain ⟨⟨_, h1⟩, h2⟩ := h.row
  have := row_lt h1
  exact r.2.below (by omega) (fun k hk => by subst hk; exact h2)

theorem Rd.beside {w w' : World} {base b b' : Nat} {o : Option Nat} {bits bits' : List Bool} {s : ByteArray} {p : Nat} (h : Rd w base b' s p) (hw : Wr w base b o bits) (r : WPost w base b o bits' w') : Rd w' base b' s p := by
  obtain ⟨_, _, f, _⟩ := r
  obtain ⟨⟨cs, h1⟩, _⟩ := h.row
  obtain ⟨⟨cs2, h2⟩, _, h3⟩ := hw.row
  refine h.fr f (fun hk => ?_)
  rcases hk with rfl | e
  · rw [h1] at h2; simp at h2
  · obtain ⟨_, cs3, h3⟩ := h3 _ e
    rw [h1] at h3; simp at h3

theorem Wr.beside {w w' : World} {base b b' : Nat} {o : Option Nat} {bits : List Bool} {s : ByteArray} {p q : Nat} (hw : Wr w base b o bits) (h : Rd w base b' s p) (r : RPost w base b' s q w') : Wr w' base b o bits := by
  obtain ⟨⟨cs, h1⟩, _⟩ := h.row
  obtain ⟨⟨cs2, h2⟩, _, h3⟩ := hw.row
  refine hw.fr r.2 (fun k hk e => ?_)
  subst e
  rcases hk with rfl | e
  · rw [h1] at h2; simp at h2
  · obtain ⟨_, cs3, h3⟩ := h3 _ e
    rw [h1] at h3; simp at h3

/-- A Writer, wherever its bytes lie. -/
def WrE (w : World) (B b : Nat) (bits : List Bool) : Prop := ∃ o, Wr w B b o bits

/-- Behind a call of the Writer in block b: its bits; what was made before B is as it was, and so is every Reader. -/
def WNext (w : World) (B b : Nat) (bits : List Bool) (w' : World) : Prop := WrE w' B b bits ∧ Below B w w' ∧ ∀ b' s p, Rd w B b' s p → Rd w' B b' s p

def RNext (w : World) (B b : Nat) (s : ByteArray) (p : Nat) (w' : World) : Prop := Rd w' B b s p ∧ Below B w w' ∧ ∀ b' bits, WrE w B b' bits → WrE w' B b' bits

theorem wnext {w w' : World} {B b : Nat} {o : Option Nat} {bits bits' : List Bool} (h : Wr w B b o bits) (p : WPost w B b o bits' w') : WNext w B b bits' w' :=
  ⟨p.imp fun _ h => h.1, p.below h, fun _ _ _ hr => hr.beside h p⟩

theorem rnext {w w' : World} {B b : Nat} {s : ByteArray} {p q : Nat} (h : Rd w B b s p) (r : RPost w B b s q w') : RNext w B b s q w' :=
  ⟨r.1, r.below h, fun _ _ hw => hw.imp fun _ hw => hw.beside h r⟩

section
variable {w : World} {B b : Nat} {bits : List Bool}

theorem new_e (hb : B ≤ w.heap.size) : Calls Try.prog 29 #[] w fun e w' => ∃ b, e = .returned (.pointer (some ⟨b, 0, none⟩)) ∧ WNext w B b [] w' := by
  refine (new_any w B hb).mono ?_
  rintro e w' ⟨he, h1, f, _⟩
  exact ⟨_, he, ⟨none, h1⟩, f.below hb (fun _ h => h.elim), fun _ _ _ hr => hr.fr f (fun h => h)⟩

theorem ue_e (x : Int) (h : WrE w B b bits) (hb : bits.length ≤ 100000000000) :
    Calls Try.prog 30 #[.pointer (some ⟨b, 0, none⟩), .int .i64 x] w fun e w' => e = .returned (.int .i64 (ueAns x).1) ∧ WNext w B b (bits ++ (ueAns x).2) w' := by
  obtain ⟨o, h⟩ := h
  exact (ue_any w B b o bits x h hb).mono fun _ _ ⟨he, p⟩ => ⟨he, wnext h p⟩

theorem se_e (x : Int) (h : WrE w B b bits) (hb : bits.length ≤ 100000000000) :
    Calls Try.prog 53 #[.pointer (some ⟨b, 0, none⟩), .int .i64 x] w fun e w' => e = .returned (.int .i64 (seAns x).1) ∧ WNext w B b (bits ++ (seAns x).2) w' := by
  obtain ⟨o, h⟩ := h
  exact (se_any w B b o bits x h hb).mono fun _ _ ⟨he, p⟩ => ⟨he, wnext h p⟩

theorem bitsW_e (x n : Int) (h : WrE w B b bits) (hb : bits.length ≤ 100000000000) :
    Calls Try.prog 52 #[.pointer (some ⟨b, 0, none⟩), .int .i64 x, .int .i64 n] w fun e w' => e = .returned (.int .i64 (bitsAns x n).1) ∧ WNext w B b (bits ++ (bitsAns x n).2) w' := by
  obtain ⟨o, h⟩ := h
  exact (bitsW_any w B b o bits x n h hb).mono fun _ _ ⟨he, p⟩ => ⟨he, wnext h p⟩

theorem trailW_e (h : WrE w B b bits) (hb : bits.length ≤ 100000000000) :
    Calls Try.prog 32 #[.pointer (some ⟨b, 0, none⟩)] w fun e w' => e = .returned (.tuple #[]) ∧ WNext w B b (bits ++ trailB bits.length) w' := by
  obtain ⟨o, h⟩ := h
  exact (trailW_any w B b o bits h hb).mono fun _ _ ⟨he, p⟩ => ⟨he, wnext h p⟩

theorem bytes_e (h : WrE w B b bits) (hb : bits.length ≤ 100000000000) :
    Calls Try.prog 33 #[.pointer (some ⟨b, 0, none⟩)] w fun e w' => e = .returned (.string (bstr (packB bits))) ∧ WNext w B b bits w' := by
  obtain ⟨o, h⟩ := h
  exact (bytes_any w B b o bits h hb).mono fun _ _ ⟨he, p⟩ => ⟨he, wnext h p⟩

variable {s : ByteArray} {p : Nat}

theorem open_e (s : ByteArray) (hb : B ≤ w.heap.size) (hs : s.size ≤ 140737488355328) :
    Calls Try.prog 38 #[.string s] w fun e w' => ∃ b, e = .returned (.pointer (some ⟨b, 0, none⟩)) ∧ RNext w B b s 0 w' := by
  refine (open_any s w B hb hs).mono ?_
  rintro e w' ⟨he, h1, f, _⟩
  exact ⟨_, he, h1, f.below hb (fun _ h => h.elim), fun _ _ hw => hw.imp fun _ hw => hw.fr f (fun _ _ h => h)⟩

theorem rBits_e (n : Int) (h : Rd w B b s p) (hs : s.size ≤ 140737488355328) :
    Calls Try.prog 75 #[.pointer (some ⟨b, 0, none⟩), .int .i64 n] w fun e w' =>
      e = .returned (.tuple #[.int .i64 ((rdBits (bitAt s) (8 * s.size) p n).1 : Int), .int .i64 (rdBits (bitAt s) (8 * s.size) p n).2.1]) ∧ RNext w B b s (rdBits (bitAt s) (8 * s.size) p n).2.2 w' :=
  (rBits_any w B b s p n h hs).mono fun _ _ ⟨he, r⟩ => ⟨he, rnext h r⟩

theorem rUe_e (h : Rd w B b s p) (hs : s.size ≤ 140737488355328) :
    Calls Try.prog 65 #[.pointer (some ⟨b, 0, none⟩)] w fun e w' =>
      e = .returned (.tuple #[.int .i64 ((rdUe (bitAt s) (8 * s.size) p 2147483646).1 : Int), .int .i64 (rdUe (bitAt s) (8 * s.size) p 2147483646).2.1]) ∧ RNext w B b s (rdUe (bitAt s) (8 * s.size) p 2147483646).2.2 w' :=
  (rUe_any w B b s p h hs).mono fun _ _ ⟨he, r⟩ => ⟨he, rnext h r⟩

theorem rSe_e (h : Rd w B b s p) (hs : s.size ≤ 140737488355328) :
    Calls Try.prog 66 #[.pointer (some ⟨b, 0, none⟩)] w fun e w' =>
      e = .returned (.tuple #[.int .i64 (unfoldedZ (rdUe (bitAt s) (8 * s.size) p 2147483646).1), .int .i64 (rdUe (bitAt s) (8 * s.size) p 2147483646).2.1]) ∧ RNext w B b s (rdUe (bitAt s) (8 * s.size) p 2147483646).2.2 w' :=
  (rSe_any w B b s p h hs).mono fun _ _ ⟨he, r⟩ => ⟨he, rnext h r⟩

theorem trailR_e {q : Nat} (h : Rd w B b s p) (hq : IsPast (bitAt s) (8 * s.size) q) (hs : s.size ≤ 140737488355328) :
    Calls Try.prog 69 #[.pointer (some ⟨b, 0, none⟩)] w fun e w' =>
      e = .returned (.int .i64 (if p + 1 = q ∧ 8 * s.size - p ≤ 8 then 0 else 101)) ∧ RNext w B b s (if p + 1 = q ∧ 8 * s.size - p ≤ 8 then 8 * s.size else p) w' :=
  (trailR_any w B b s p q h hq hs).mono fun _ _ ⟨he, r⟩ => ⟨he, rnext h r⟩
end

theorem num_any (x : Int) (w : World) : Calls Try.prog 17 #[.int .i64 x] w fun e w' => e = .returned (.int .i64 x) ∧ w = w' := by
  go_enter Try.func17, Try.ntmps17
  go_wp2
  go_ret
  exact ⟨rfl, rfl⟩

end Go.Proofs.Ytadfgadkihlmcaa
