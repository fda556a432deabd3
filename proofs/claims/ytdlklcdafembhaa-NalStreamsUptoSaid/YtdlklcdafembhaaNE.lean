/- nal's Unescape. -/
import Derived.Test.YtdlklcdafembhaaND
namespace Go.Proofs.Ytdlklcdafembhaa
open Go.RowKit Zn Zo

theorem byte_lt3 {c : UInt8} : c < 3 ↔ c.toNat < 3 := UInt8.lt_iff_toNat_lt
theorem byte_gt3 {c : UInt8} : 3 < c ↔ 3 < c.toNat := UInt8.lt_iff_toNat_lt
theorem byte_is3 {c : UInt8} : c = 3 ↔ c.toNat = 3 := by rw [← UInt8.toNat_inj]; rfl

theorem dec_bad (z : Nat) (g : Bool) (c : UInt8) (r : List UInt8) (h : (g = true ∧ 3 < c.toNat) ∨ (z = 2 ∧ c.toNat < 3)) : dec z g (c :: r) = none := by
  rw [dec, if_pos]
  rwa [byte_lt3, byte_gt3]

theorem dec_guard (c : UInt8) (r : List UInt8) (h : c.toNat = 3) : dec 2 false (c :: r) = dec 0 true r := by
  rw [dec, if_neg, if_pos ⟨rfl, byte_is3.2 h⟩]
  rw [byte_lt3, byte_gt3]
  omega

theorem dec_plain (z : Nat) (g : Bool) (c : UInt8) (r : List UInt8) (h1 : ¬ (g = true ∧ 3 < c.toNat)) (h2 : z = 2 → 3 < c.toNat) : dec z g (c :: r) = (dec (nb z c) false r).map (c :: ·) := by
  rw [dec, if_neg, if_neg]
  · rw [byte_is3]; omega
  · rw [byte_lt3, byte_gt3]
    rintro (h | h)
    · exact h1 h
    · have := h2 h.1; omega

theorem unAns_none {s : List UInt8} (h : dec 0 false s = none) : unAns s = ([], 200) := by rw [unAns, h]
theorem unAns_some {s t : List UInt8} (h : dec 0 false s = some t) : unAns s = (t, 0) := by rw [unAns, h]

def UnPost (s : List UInt8) (w : World) (e : Ending) (w' : World) : Prop :=
  e = .returned (.tuple #[.string ⟨(unAns s).1.toArray⟩, .int .i64 (unAns s).2]) ∧ Below w.heap.size w w'

theorem UnPost.none {s : List UInt8} {w w' : World} (h : dec 0 false s = Option.none) (b : Below w.heap.size w w') : UnPost s w (.returned (.tuple #[.string ⟨#[]⟩, .int .i64 200])) w' := by
  refine ⟨?_, b⟩; rw [unAns_none h]

theorem UnPost.some {s t : List UInt8} {w w' : World} (h : dec 0 false s = Option.some t) (b : Below w.heap.size w w') : UnPost s w (.returned (.tuple #[.string ⟨t.toArray⟩, .int .i64 0])) w' := by
  refine ⟨?_, b⟩; rw [unAns_some h]

set_option maxHeartbeats 1000000 in
theorem unescape_any (s : ByteArray) (w : World) (hs : s.size ≤ 100000000) :
    Calls Try.prog 11 #[.string s] w (UnPost s.data.toList w) := by
  have hb0 := bd_new w w.heap.size (Nat.le_refl _)
  go_enter Try.func11, Try.ntmps11
  go_wp2_with fail
  refine (grow_any _ w.heap.size w.heap.size [] _ hb0 (by simp) (by omega) (by omega) (by simp)).mono ?_
  rintro e w1 ⟨rfl, h1, b1⟩
  have z1 := b1.size
  have z0 : w.heap.size ≤ w1.heap.size := by simp at z1; omega
  have b0 : Below w.heap.size w w1 := ((Below.refl _ _).alloc (Nat.le_refl _) _).trans b1.1
  clear hb0 b1 z1 z0
  go_wp2_with fail
  go_loopg [5, 6, 7, 15] s.size (fun q zv fv gv iv wr => ∃ z f k : Nat, ∃ g : Bool, k + q = s.size ∧ f ≤ k ∧ z ≤ 2 ∧ (g = true → z = 0) ∧ zv = .int .i64 (z : Int) ∧ fv = .int .i64 (f : Int) ∧ gv = .bool g ∧ iv = .int .i64 (k : Int) ∧ ∃ m, Bd wr w.heap.size w.heap.size m ∧ m.length + (k - f) ≤ k ∧ Aside (dec 0 false s.data.toList = (dec z g (s.data.toList.drop k)).map (m ++ seg s f k ++ ·)) ∧ Below w.heap.size w wr)
  case atStart =>
    exact ⟨0, 0, 0, false, by omega, by omega, by omega, fun h => (by cases h), rfl, rfl, rfl, rfl, [], h1, by simp, by show _ = _; simp [seg], b0⟩
  case round =>
    clear h1 b0
    obtain ⟨z, f, k, g, hq, hf, hz, hg, rfl, rfl, rfl, rfl, m, hm, hml, A, bl⟩ := hrel
    have HG := Lib.hid hg
    clear hg
    have hBr : w.heap.size ≤ wr.heap.size := bl.size
    by_cases hlt : k < s.size
    · have hd := Lib.hid (drop_cons s k hlt)
      have hsn := Lib.hid (seg_snoc s f k hlt hf)
      have hk1 : (k + 1) + (gk - 1) = s.size := by omega
      by_cases hbad : (g = true ∧ 3 < s[k].toNat) ∨ (z = 2 ∧ s[k].toNat < 3)
      · have HD := Lib.hid (show dec 0 false s.data.toList = none by rw [A, hd.out, dec_bad z g _ _ hbad]; rfl)
        by_cases hb1 : g = true ∧ 3 < s[k].toNat
        · obtain ⟨rfl, h3⟩ := hb1
          have h3i : 3 < (s[k].toNat : Int) := by omega
          clear hbad h3
          go_wp2_with fail
          go_ret2
          exact UnPost.none HD.out bl
        · obtain ⟨rfl, h3⟩ : z = 2 ∧ s[k].toNat < 3 := by rcases hbad with h | h; exact absurd h hb1; exact h
          obtain rfl : g = false := by cases g; rfl; have := HG.out rfl; omega
          have h3i : (s[k].toNat : Int) ≤ 3 := by omega
          have h3n : ((s[k].toNat : Int) != 3) = true := by simp; omega
          clear hbad hb1 h3
          go_wp2_with fail
          go_ret2
          exact UnPost.none HD.out bl
      · by_cases hgd : z = 2 ∧ s[k].toNat = 3
        · obtain ⟨rfl, h3⟩ := hgd
          obtain rfl : g = false := by cases g; rfl; have := HG.out rfl; omega
          have h3i : (s[k].toNat : Int) ≤ 3 := by omega
          have h3n : ((s[k].toNat : Int) != 3) = false := by simp [h3]
          have h3e : ((s[k].toNat : Int) == 3) = true := by simp [h3]
          have HC := Lib.hid h3
          have hsl := slice_at s f k hf (by omega)
          have hsz : (s.extract f k).size = k - f := by simp; omega
          have HSZ := Lib.hid hsz
          clear hbad h3 hsz
          go_wp2_with fail
          refine (str_any wr w.heap.size w.heap.size m (s.extract f k) hm hBr (by rw [HSZ.out]; omega)).mono ?_
          rintro e w2 ⟨rfl, h2, b2⟩
          rw [extract_seg] at h2
          go_wp2_with fail
          refine (noughts_any 2 s[k] w2 (by omega)).mono ?_
          rintro e w3 ⟨rfl, rfl⟩
          go_wp2_with fail
          have hnb : nb 2 s[k] = 0 := nb_pos 2 _ (fun e => by rw [byte_zero] at e; have := HC.out; omega)
          go_roundg (gk - 1)
          case measure => omega
          case rel =>
            refine ⟨nb 2 s[k], k + 1, k + 1, true, hk1, by omega, by omega, fun _ => hnb, rfl, by go_num, rfl, by go_num, _, h2, by rw [List.length_append, seg_length s f k (by omega)]; omega, ?_, bl.trans b2.1⟩
            show _ = _
            rw [A, hd.out, dec_guard _ _ HC.out, seg_self, hnb]
            simp
        · have h1 : ¬ (g = true ∧ 3 < s[k].toNat) := fun h => hbad (.inl h)
          have h2 : z = 2 → 3 < s[k].toNat := by omega
          have HD := Lib.hid (dec_plain z g s[k] (s.data.toList.drop (k + 1)) h1 h2)
          have hz1 : nb z s[k] ≤ 2 := by
            by_cases h : z = 2
            · rw [nb_pos]
              · omega
              · intro e; rw [byte_zero] at e; have := h2 h; omega
            · exact Nat.le_trans (nb_le z _) (by omega)
          have hcases : (g = true ∧ ¬ 3 < (s[k].toNat : Int) ∧ ((z : Int) == 2) = false) ∨ (g = false ∧ ((z : Int) == 2) = true ∧ ¬ (s[k].toNat : Int) ≤ 3 ∧ ((s[k].toNat : Int) == 3) = false) ∨ (g = false ∧ ((z : Int) == 2) = false) := by
            cases g
            · by_cases h : z = 2
              · exact .inr (.inl ⟨rfl, by simp [h], by have := h2 h; omega, by have := h2 h; simp; omega⟩)
              · exact .inr (.inr ⟨rfl, by simp; omega⟩)
            · exact .inl ⟨rfl, fun h => h1 ⟨rfl, by omega⟩, by have := HG.out rfl; simp [this]⟩
          have H2 := Lib.hid h2
          clear hbad hgd h1 h2
          rcases hcases with ⟨rfl, c1, c2⟩ | ⟨rfl, c1, c2, c3⟩ | ⟨rfl, c1⟩
          all_goals
            go_wp2_with fail
            refine (noughts_any z s[k] wr (by omega)).mono ?_
            rintro e w3 ⟨rfl, rfl⟩
            go_wp2_with fail
            go_roundg (gk - 1)
            case measure => omega
            case rel =>
              refine ⟨nb z s[k], f, k + 1, false, hk1, by omega, hz1, fun h => (by cases h), rfl, rfl, rfl, by go_num, m, hm, by omega, ?_, bl⟩
              show _ = _
              rw [A, hd.out, HD.out, hsn.out, Option.map_map]
              congr 1
              funext x
              simp
    · obtain rfl : k = s.size := by omega
      have hsl := slice_from s f (by omega)
      have hsz : (s.extract f s.size).size = s.size - f := by simp
      have HSZ := Lib.hid hsz
      have hdr := Lib.hid (drop_all s)
      clear hsz
      cases g with
      | true =>
        have HD := Lib.hid (show dec 0 false s.data.toList = none by rw [A, hdr.out]; rfl)
        go_wp2_with fail
        go_ret2
        exact UnPost.none HD.out bl
      | false =>
        have HD := Lib.hid (show dec 0 false s.data.toList = some (m ++ seg s f s.size) by rw [A, hdr.out]; simp [dec])
        go_wp2_with fail
        refine (str_any wr w.heap.size w.heap.size m (s.extract f s.size) hm hBr (by rw [HSZ.out]; omega)).mono ?_
        rintro e w2 ⟨rfl, h2, b2⟩
        rw [extract_seg] at h2
        go_wp2_with fail
        refine (string_any w2 w.heap.size w.heap.size _ h2 (by have := b2.size; omega)).mono ?_
        rintro e w3 ⟨rfl, b3⟩
        go_wp2_with fail
        go_ret2
        exact UnPost.some HD.out ((bl.trans b2.1).trans b3.1)

end Go.Proofs.Ytdlklcdafembhaa
