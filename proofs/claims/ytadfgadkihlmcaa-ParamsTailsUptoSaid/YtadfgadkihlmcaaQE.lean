/- Plain mathematics of layer 3: readings in a row by a reader that tells 0 behind its first fault. No program is named here. -/
import Derived.Test.YtadfgadkihlmcaaPC
namespace Zp
open Zo

/-- A reader that stands at a place, or has met a fault (none): the number that it tells, and how it stands then. -/
def sUe (f : Nat → Bool) (T : Nat) : Option Nat → Nat × Option Nat
  | none => (0, none)
  | some p => match pUe f T p with
    | none => (0, none)
    | some (x, q) => (x, some q)

def sSe (f : Nat → Bool) (T : Nat) : Option Nat → Int × Option Nat
  | none => (0, none)
  | some p => match pSe f T p with
    | none => (0, none)
    | some (x, q) => (x, some q)

def sBits (f : Nat → Bool) (T n : Nat) : Option Nat → Nat × Option Nat
  | none => (0, none)
  | some p => match pBits f T p n with
    | none => (0, none)
    | some (x, q) => (x, some q)

def sCycle (f : Nat → Bool) (T : Nat) : Nat → Option Nat → List Int × Option Nat
  | 0, st => ([], st)
  | k + 1, st => ((sCycle f T k st).1 ++ [(sSe f T (sCycle f T k st).2).1], (sSe f T (sCycle f T k st).2).2)

theorem sUe_none (f : Nat → Bool) (T : Nat) : sUe f T none = (0, none) := rfl
theorem sSe_none (f : Nat → Bool) (T : Nat) : sSe f T none = (0, none) := rfl
theorem sBits_none (f : Nat → Bool) (T n : Nat) : sBits f T n none = (0, none) := rfl
theorem sUe_bad {f : Nat → Bool} {T p : Nat} (h : pUe f T p = none) : sUe f T (some p) = (0, none) := by simp only [sUe, h]
theorem sUe_good {f : Nat → Bool} {T p x q : Nat} (h : pUe f T p = some (x, q)) : sUe f T (some p) = (x, some q) := by simp only [sUe, h]
theorem sSe_bad {f : Nat → Bool} {T p : Nat} (h : pSe f T p = none) : sSe f T (some p) = (0, none) := by simp only [sSe, h]
theorem sSe_good {f : Nat → Bool} {T p q : Nat} {x : Int} (h : pSe f T p = some (x, q)) : sSe f T (some p) = (x, some q) := by simp only [sSe, h]
theorem sBits_bad {f : Nat → Bool} {T p n : Nat} (h : pBits f T p n = none) : sBits f T n (some p) = (0, none) := by simp only [sBits, h]
theorem sBits_good {f : Nat → Bool} {T p n x q : Nat} (h : pBits f T p n = some (x, q)) : sBits f T n (some p) = (x, some q) := by simp only [sBits, h]

theorem sUe_le (f : Nat → Bool) (T : Nat) (st : Option Nat) : (sUe f T st).1 ≤ 2147483646 := by
  cases st with
  | none => rw [sUe_none]; omega
  | some p => cases h : pUe f T p with
    | none => rw [sUe_bad h]; omega
    | some x => rw [sUe_good h]; exact (pUe_forth h).2

theorem sSe_le (f : Nat → Bool) (T : Nat) (st : Option Nat) : -1073741823 ≤ (sSe f T st).1 ∧ (sSe f T st).1 ≤ 1073741823 := by
  cases st with
  | none => rw [sSe_none]; omega
  | some p => cases h : pSe f T p with
    | none => rw [sSe_bad h]; simp only; omega
    | some x => rw [sSe_good h]; exact (pSe_forth h).2

theorem sBits_lt (f : Nat → Bool) (T n : Nat) (st : Option Nat) (hn : ∀ p, st = some p → p ≤ T) : (sBits f T n st).1 < 2 ^ n := by
  have := Nat.two_pow_pos n
  cases st with
  | none => rw [sBits_none]; exact this
  | some p => cases h : pBits f T p n with
    | none => rw [sBits_bad h]; exact this
    | some x => rw [sBits_good h]; exact (pBits_forth (hn p rfl) h).2

theorem sCycle_none (f : Nat → Bool) (T : Nat) : ∀ k, (sCycle f T k none).2 = none
  | 0 => rfl
  | k + 1 => by rw [sCycle, sCycle_none f T k]; rfl

theorem sCycle_length (f : Nat → Bool) (T : Nat) (st : Option Nat) : ∀ k, (sCycle f T k st).1.length = k
  | 0 => rfl
  | k + 1 => by rw [sCycle, List.length_append, sCycle_length f T st k]; rfl

theorem pCycle_snoc (f : Nat → Bool) (T : Nat) : ∀ k p, pCycle f T (k + 1) p = (pCycle f T k p).bind fun c => (pSe f T c.2).map fun x => (c.1 ++ [x.1], x.2)
  | 0, p => by
    rw [pCycle]
    cases h : pSe f T p <;> simp [pCycle, h]
  | k + 1, p => by
    rw [pCycle]
    cases h : pSe f T p with
    | none => rw [pCycle, h]; rfl
    | some x =>
      rw [Option.bind_some, pCycle_snoc f T k x.2, pCycle, h, Option.bind_some]
      cases pCycle f T k x.2 with
      | none => rfl
      | some c => cases h2 : pSe f T c.2 <;> simp [h2]

theorem sCycle_run (f : Nat → Bool) (T p : Nat) : ∀ k, match pCycle f T k p with
    | none => (sCycle f T k (some p)).2 = none
    | some (c, q) => sCycle f T k (some p) = (c, some q)
  | 0 => rfl
  | k + 1 => by
    have ih := sCycle_run f T p k
    rw [pCycle_snoc]
    cases h : pCycle f T k p with
    | none =>
      rw [h] at ih
      simp only at ih
      simp only [Option.bind_none]
      rw [sCycle, ih, sSe_none]
    | some c =>
      rw [h] at ih
      simp only at ih
      rw [Option.bind_some]
      cases h2 : pSe f T c.2 with
      | none => simp only [Option.map_none]; rw [sCycle, ih, sSe_bad h2]
      | some x => simp only [Option.map_some]; rw [sCycle, ih, sSe_good h2]

/-- The end: a trail, and what may be. -/
def sEnd {α : Type} (zero : α) (f : Nat → Bool) (T : Nat) (x : α) (may : Bool) : Option Nat → α × Int
  | none => (zero, 300)
  | some p => if Trails f T p then if may then (x, 0) else (zero, 301) else (zero, 300)

theorem sEnd_none {α : Type} (zero : α) (f : Nat → Bool) (T : Nat) (x : α) (may : Bool) : sEnd zero f T x may none = (zero, 300) := rfl

/-- From Refs on. -/
def sTail (f : Nat → Bool) (T : Nat) (w h fb pt pb nr : Int) (cy : List Int) (st : Option Nat) : SpsN × Int :=
  sEnd SpsN.zero f T ⟨w, h, fb, pt, pb, nr, cy, (sUe f T st).1, (sUe f T (sUe f T st).2).1⟩ (decide (SpsN.may ⟨w, h, fb, pt, pb, nr, cy, (sUe f T st).1, (sUe f T (sUe f T st).2).1⟩)) (sUe f T (sUe f T st).2).2

/-- From what the PocType asks on. -/
def sRest (f : Nat → Bool) (T : Nat) (w h fb : Int) (pt : Nat) (st : Option Nat) : SpsN × Int :=
  if pt = 0 then sTail f T w h fb 0 (((sUe f T st).1 : Int) + 4) 0 [] (sUe f T st).2
  else if pt = 1 then
    if 4 < (sUe f T (sSe f T st).2).1 then (SpsN.zero, 301)
    else sTail f T w h fb 1 4 (sSe f T st).1 (sCycle f T (sUe f T (sSe f T st).2).1 (sUe f T (sSe f T st).2).2).1 (sCycle f T (sUe f T (sSe f T st).2).1 (sUe f T (sSe f T st).2).2).2
  else sTail f T w h fb pt 4 0 [] st

def s1 (f : Nat → Bool) (T : Nat) : Nat × Option Nat := sUe f T (some 0)
def s2 (f : Nat → Bool) (T : Nat) : Nat × Option Nat := sUe f T (s1 f T).2
def s3 (f : Nat → Bool) (T : Nat) : Nat × Option Nat := sUe f T (s2 f T).2
def s4 (f : Nat → Bool) (T : Nat) : Nat × Option Nat := sUe f T (s3 f T).2

def runSps (f : Nat → Bool) (T : Nat) : SpsN × Int := sRest f T (((s1 f T).1 : Int) + 1) (((s2 f T).1 : Int) + 1) (((s3 f T).1 : Int) + 4) (s4 f T).1 (s4 f T).2

theorem sTail_none (f : Nat → Bool) (T : Nat) (w h fb pt pb nr : Int) (cy : List Int) : sTail f T w h fb pt pb nr cy none = (SpsN.zero, 300) := rfl

theorem sRest_none (f : Nat → Bool) (T : Nat) (w h fb : Int) : sRest f T w h fb 0 none = (SpsN.zero, 300) := by
  rw [sRest, if_pos rfl, sUe_none, sTail_none]

theorem sTail_run (f : Nat → Bool) (T : Nat) (w h fb pt pb nr : Int) (cy : List Int) (p : Nat) :
    sTail f T w h fb pt pb nr cy (some p) = match (pUe f T p).bind fun r => (pUe f T r.2).map fun l => ((⟨w, h, fb, pt, pb, nr, cy, r.1, l.1⟩ : SpsN), l.2) with
      | none => (SpsN.zero, 300)
      | some (s, q) => if Trails f T q then if s.may then (s, 0) else (.zero, 301) else (.zero, 300) := by
  rw [sTail]
  cases h1 : pUe f T p with
  | none => rw [sUe_bad h1]; rfl
  | some r =>
    obtain ⟨r, p1⟩ := r
    rw [sUe_good h1]
    simp only [Option.bind_some]
    cases h2 : pUe f T p1 with
    | none => rw [sUe_bad h2]; rfl
    | some l =>
      rw [sUe_good h2]
      simp only [Option.map_some, sEnd]
      by_cases hm : SpsN.may ⟨w, h, fb, pt, pb, nr, cy, r, l.1⟩ <;> simp [hm]

theorem gotSps_run (f : Nat → Bool) (T : Nat) : gotSps f T = runSps f T := by
  unfold gotSps runSps pSps s4 s3 s2 s1
  cases h1 : pUe f T 0 with
  | none => rw [sUe_bad h1]; simp only [sUe_none]; rw [sRest_none]; rfl
  | some a =>
    obtain ⟨a, p1⟩ := a
    rw [sUe_good h1]
    simp only [Option.bind_some]
    cases h2 : pUe f T p1 with
    | none => rw [sUe_bad h2]; simp only [sUe_none]; rw [sRest_none]; rfl
    | some b =>
      obtain ⟨b, p2⟩ := b
      rw [sUe_good h2]
      simp only [Option.bind_some]
      cases h3 : pUe f T p2 with
      | none => rw [sUe_bad h3]; simp only [sUe_none]; rw [sRest_none]; rfl
      | some c =>
        obtain ⟨c, p3⟩ := c
        rw [sUe_good h3]
        simp only [Option.bind_some]
        cases h4 : pUe f T p3 with
        | none => rw [sUe_bad h4]; rw [sRest_none]; rfl
        | some d =>
          obtain ⟨d, p4⟩ := d
          rw [sUe_good h4]
          simp only [Option.bind_some]
          unfold sRest pMid
          by_cases h0 : d = 0
          · subst h0
            rw [if_pos rfl, if_pos rfl]
            cases h5 : pUe f T p4 with
            | none => rw [sUe_bad h5, sTail_none]; rfl
            | some e =>
              rw [sUe_good h5, sTail_run]
              simp only [Option.map_some, Option.bind_some]
              cases h6 : pUe f T e.2 with
              | none => rfl
              | some r => simp only [Option.bind_some]; cases h7 : pUe f T r.2 <;> rfl
          · rw [if_neg h0, if_neg h0]
            by_cases h01 : d = 1
            · subst h01
              rw [if_pos rfl, if_pos rfl]
              cases h5 : pSe f T p4 with
              | none => rw [sSe_bad h5, sUe_none, if_neg (by simp)]; rfl
              | some e =>
                obtain ⟨e, p5⟩ := e
                rw [sSe_good h5]
                simp only [Option.bind_some]
                cases h6 : pUe f T p5 with
                | none => rw [sUe_bad h6, if_neg (by simp)]; rfl
                | some k =>
                  obtain ⟨k, p6⟩ := k
                  rw [sUe_good h6]
                  simp only [Option.bind_some]
                  by_cases hk : 4 < k
                  · rw [if_pos hk, if_pos hk]; rfl
                  · rw [if_neg hk, if_neg hk]
                    have hc := sCycle_run f T p6 k
                    cases h7 : pCycle f T k p6 with
                    | none =>
                      rw [h7] at hc
                      simp only at hc
                      rw [hc, sTail_none]; rfl
                    | some c =>
                      obtain ⟨cy, p7⟩ := c
                      rw [h7] at hc
                      simp only at hc
                      rw [hc, sTail_run]
                      simp only [Option.map_some, Option.bind_some]
                      cases h8 : pUe f T p7 with
                      | none => rfl
                      | some r => simp only [Option.bind_some]; cases h9 : pUe f T r.2 <;> rfl
            · rw [if_neg h01, if_neg h01, sTail_run]
              simp only [Option.bind_some]
              cases h6 : pUe f T p4 with
              | none => rfl
              | some r => simp only [Option.bind_some]; cases h7 : pUe f T r.2 <;> rfl

/-! ### A picture's parameters -/

def q1 (f : Nat → Bool) (T : Nat) := sBits f T 1 (some 0)
def q2 (f : Nat → Bool) (T : Nat) := sBits f T 1 (q1 f T).2
def q3 (f : Nat → Bool) (T : Nat) := sBits f T 2 (q2 f T).2
def q4 (f : Nat → Bool) (T : Nat) := sUe f T (q3 f T).2
def q5 (f : Nat → Bool) (T : Nat) := sSe f T (q4 f T).2
def q6 (f : Nat → Bool) (T : Nat) := sBits f T 1 (q5 f T).2
def q7 (f : Nat → Bool) (T : Nat) := sBits f T 1 (q6 f T).2
def q8 (f : Nat → Bool) (T : Nat) := sUe f T (q7 f T).2
def q9 (f : Nat → Bool) (T : Nat) := sUe f T (q8 f T).2

def runP (f : Nat → Bool) (T : Nat) : PpsN :=
  ⟨decide ((q1 f T).1 = 1), decide ((q2 f T).1 = 1), (q3 f T).1, (q4 f T).1, (q5 f T).1, decide ((q6 f T).1 = 1), decide ((q7 f T).1 = 1), ((q8 f T).1 : Int) + 1, ((q9 f T).1 : Int) + 1⟩

def runPps (f : Nat → Bool) (T : Nat) : PpsN × Int := sEnd PpsN.zero f T (runP f T) (decide (runP f T).may) (q9 f T).2

theorem gotPps_run (f : Nat → Bool) (T : Nat) : gotPps f T = runPps f T := by
  unfold gotPps runPps pPps runP q9 q8 q7 q6 q5 q4 q3 q2 q1
  cases h1 : pBits f T 0 1 with
  | none => simp only [sBits_bad h1, sBits_none, sUe_none, sSe_none, sEnd_none, Option.bind_none]
  | some a =>
    simp only [sBits_good h1, Option.bind_some]
    cases h2 : pBits f T a.2 1 with
    | none => simp only [sBits_bad h2, sBits_none, sUe_none, sSe_none, sEnd_none, Option.bind_none]
    | some b =>
      simp only [sBits_good h2, Option.bind_some]
      cases h3 : pBits f T b.2 2 with
      | none => simp only [sBits_bad h3, sBits_none, sUe_none, sSe_none, sEnd_none, Option.bind_none]
      | some c =>
        simp only [sBits_good h3, Option.bind_some]
        cases h4 : pUe f T c.2 with
        | none => simp only [sUe_bad h4, sBits_none, sUe_none, sSe_none, sEnd_none, Option.bind_none]
        | some d =>
          simp only [sUe_good h4, Option.bind_some]
          cases h5 : pSe f T d.2 with
          | none => simp only [sSe_bad h5, sBits_none, sUe_none, sEnd_none, Option.bind_none]
          | some e =>
            simp only [sSe_good h5, Option.bind_some]
            cases h6 : pBits f T e.2 1 with
            | none => simp only [sBits_bad h6, sBits_none, sUe_none, sEnd_none, Option.bind_none]
            | some g =>
              simp only [sBits_good h6, Option.bind_some]
              cases h7 : pBits f T g.2 1 with
              | none => simp only [sBits_bad h7, sUe_none, sEnd_none, Option.bind_none]
              | some i =>
                simp only [sBits_good h7, Option.bind_some]
                cases h8 : pUe f T i.2 with
                | none => simp only [sUe_bad h8, sUe_none, sEnd_none, Option.bind_none]
                | some j =>
                  simp only [sUe_good h8, Option.bind_some]
                  cases h9 : pUe f T j.2 with
                  | none => simp only [sUe_bad h9, sEnd_none, Option.map_none]
                  | some k =>
                    simp only [sUe_good h9, Option.map_some, sEnd]
                    by_cases hm : PpsN.may ⟨decide (a.1 = 1), decide (b.1 = 1), c.1, d.1, e.1, decide (g.1 = 1), decide (i.1 = 1), (j.1 : Int) + 1, (k.1 : Int) + 1⟩ <;> simp [hm]
end Zp
