/- What these laws need besides. -/
import Derived.Test.YthcbgijmnonckaaGreatKF


namespace Go.Proofs.YthcbgijmnonckaaGreat
open Go.RowKit Zo

theorem len_any (w : World) (base b : Nat) (o : Option Nat) (bits : List Bool) (h : Wr w base b o bits) (hb : bits.length ≤ 100000000000) :
    Calls Tryz.prog 19 #[.pointer (some ⟨b, 0, none⟩)] w fun e w' => e = .returned (.int .i64 (bits.length : Int)) ∧ WPost w base b o bits w' := by
  go_enter Tryz.func19, Tryz.ntmps19
  go_wp2_with fail
  refine (count_wr _ base b o bits h).mono ?_
  rintro e w1 ⟨rfl, h1, f1⟩
  have P := Lib.hid (count_post h1 f1)
  obtain ⟨bytes, k, r, ⟨c, v, hrow, _, _, hown, _⟩, hk, hr, hh⟩ := h1
  have hlen : 8 * bytes.length + k = bits.length := by rw [← held_length bytes k r, hh]
  have HL := Lib.hid hlen
  have hbl : bytes.length ≤ 100000000000 := by omega
  have hv : ∃ a cap, v = .slice a bytes.length cap := by
    rcases hown.2 with ⟨rfl, h0⟩ | ⟨g, cap, cur, rfl, _⟩
    · exact ⟨none, 0, by rw [h0]⟩
    · exact ⟨_, _, rfl⟩
  obtain ⟨a, cap, rfl⟩ := hv
  have c1 := cell_of_row w1 b 1 _ _ _ hrow
  have c3 := cell_of_row w1 b 3 _ _ _ hrow
  simp at c1 c3
  clear hrow hlen hh hown
  go_wp2_with fail
  go_quiet (fail)
  go_wp2
  go_ret
  exact ⟨ret_int (by have := HL.out; omega), P.out.drewN _⟩

end Go.Proofs.YthcbgijmnonckaaGreat

namespace Go.Proofs.YthcbgijmnonckaaGreat
open Go.RowKit Zo

theorem at_any (w : World) (base b : Nat) (s : ByteArray) (p : Nat) (h : Rd w base b s p) :
    Calls Tryz.prog 31 #[.pointer (some ⟨b, 0, none⟩)] w fun e w' => e = .returned (.int .i64 (p : Int)) ∧ RPost w base b s p w' := by
  go_enter Tryz.func31, Tryz.ntmps31
  go_wp2_with fail
  refine (count_rd _ base b s p h).mono ?_
  rintro e w1 ⟨rfl, p1⟩
  obtain ⟨c3, f3, hp⟩ := rd_row p1.1
  go_wp2_with fail
  go_ret
  exact ⟨rfl, p1⟩

end Go.Proofs.YthcbgijmnonckaaGreat

namespace Go.Proofs.YthcbgijmnonckaaGreat
open Go.RowKit Zo

def RNext (w : World) (B b : Nat) (s : ByteArray) (p : Nat) (w' : World) : Prop := Rd w' B b s p ∧ Below B w w' ∧ ∀ b' bits, WrE w B b' bits → WrE w' B b' bits

theorem wnext {w w' : World} {B b : Nat} {o : Option Nat} {bits bits' : List Bool} (h : Wr w B b o bits) (p : WPost w B b o bits' w') : WNext w B b bits' w' :=
  ⟨p.imp fun _ h => h.1, p.below h, fun _ _ _ hr => hr.beside h p⟩

theorem rnext {w w' : World} {B b : Nat} {s : ByteArray} {p q : Nat} (h : Rd w B b s p) (r : RPost w B b s q w') : RNext w B b s q w' :=
  ⟨r.1, r.below h, fun _ _ hw => hw.imp fun _ hw => hw.beside h r⟩

section
variable {w : World} {B b : Nat} {bits : List Bool}

theorem len_e (h : WrE w B b bits) (hb : bits.length ≤ 100000000000) :
    Calls Tryz.prog 19 #[.pointer (some ⟨b, 0, none⟩)] w fun e w' => e = .returned (.int .i64 (bits.length : Int)) ∧ WNext w B b bits w' := by
  obtain ⟨o, h⟩ := h
  exact (len_any w B b o bits h hb).mono fun _ _ ⟨he, p⟩ => ⟨he, wnext h p⟩

theorem bytes_e (h : WrE w B b bits) (hb : bits.length ≤ 100000000000) :
    Calls Tryz.prog 20 #[.pointer (some ⟨b, 0, none⟩)] w fun e w' => e = .returned (.string (bstr (packB bits))) ∧ WNext w B b bits w' := by
  obtain ⟨o, h⟩ := h
  exact (bytes_any w B b o bits h hb).mono fun _ _ ⟨he, p⟩ => ⟨he, wnext h p⟩

variable {s : ByteArray} {p : Nat}

theorem open_e (s : ByteArray) (hb : B ≤ w.heap.size) (hs : s.size ≤ 140737488355328) :
    Calls Tryz.prog 24 #[.string s] w fun e w' => ∃ b, e = .returned (.pointer (some ⟨b, 0, none⟩)) ∧ RNext w B b s 0 w' := by
  refine (open_any s w B hb hs).mono ?_
  rintro e w' ⟨he, h1, f, _⟩
  exact ⟨_, he, h1, f.below hb (fun _ h => h.elim), fun _ _ hw => hw.imp fun _ hw => hw.fr f (fun _ _ h => h)⟩

theorem at_e (h : Rd w B b s p) :
    Calls Tryz.prog 31 #[.pointer (some ⟨b, 0, none⟩)] w fun e w' => e = .returned (.int .i64 (p : Int)) ∧ RNext w B b s p w' :=
  (at_any w B b s p h).mono fun _ _ ⟨he, r⟩ => ⟨he, rnext h r⟩

end

end Go.Proofs.YthcbgijmnonckaaGreat
