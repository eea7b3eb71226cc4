/-
  Plain facts on addresses: what may be in an atom, what is dotted, how a list of addresses is read. No program is named here.
-/
import Derived.WalkKit
import Derived.Test.YtjcffjokhjechaaDoorPure
import Derived.Test.YtjcffjokhjechaaDoorLetPure
namespace Go.Proofs.YtjcffjokhjechaaDoor
open Go.RowKit

def marksL : List UInt8 := [33, 35, 36, 37, 38, 39, 42, 43, 45, 47, 61, 63, 94, 95, 96, 123, 124, 125, 126]
/-- P3.1: a byte of an atom. -/
def atomB (c : UInt8) : Bool := (decide (97 ≤ c.toNat) && decide (c.toNat ≤ 122)) || (decide (65 ≤ c.toNat) && decide (c.toNat ≤ 90)) || (decide (48 ≤ c.toNat) && decide (c.toNat ≤ 57)) || marksL.contains c
def runB (c : UInt8) : Bool := c == 46 || atomB c

/-- Whether a text is dotted, the byte ahead of it being a dot (or none) or not. -/
def dotS : Bool → List UInt8 → Bool
  | b, [] => !b
  | b, c :: t => if c = 46 then !b && dotS true t else atomB c && dotS false t
def dottedB (l : List UInt8) : Bool := dotS true l
def atomL (l : List UInt8) : Bool := !l.isEmpty && l.all atomB

theorem dotS_plain {p : List UInt8} (h : 46 ∉ p) (b : Bool) : dotS b p = if p.isEmpty then !b else p.all atomB := by
  induction p generalizing b with
  | nil => simp [dotS]
  | cons c t ih =>
    simp only [List.mem_cons, not_or] at h
    have hc : ¬ c = 46 := fun e => h.1 e.symm
    simp only [dotS, if_neg hc, ih h.2, List.isEmpty_cons, List.all_cons]
    cases t <;> simp
theorem dotS_cut {p : List UInt8} (h : 46 ∉ p) (b : Bool) (t : List UInt8) : dotS b (p ++ 46 :: t) = ((if p.isEmpty then !b else p.all atomB) && dotS true t) := by
  induction p generalizing b with
  | nil => simp [dotS]
  | cons c u ih =>
    simp only [List.mem_cons, not_or] at h
    have hc : ¬ c = 46 := fun e => h.1 e.symm
    simp only [List.cons_append, dotS, if_neg hc, ih h.2, List.isEmpty_cons, List.all_cons]
    cases u <;> simp [Bool.and_assoc]
theorem dotted_plain {p : List UInt8} (h : 46 ∉ p) : dottedB p = atomL p := by
  unfold dottedB atomL
  rw [dotS_plain h]
  cases p <;> simp
theorem dotted_cut {p : List UInt8} (h : 46 ∉ p) (t : List UInt8) : dottedB (p ++ 46 :: t) = (atomL p && dottedB t) := by
  unfold dottedB atomL
  rw [dotS_cut h]
  cases p <;> simp

/-- P3.2. -/
def checkA (l d : List UInt8) : Int := if (dottedB l && dottedB d) = false then 3 else if 100 < l.length + 1 + d.length then 1 else 0

/- P3.4. -/
def wblanks (s : List UInt8) : List UInt8 := s.dropWhile blankB
def wrun (s : List UInt8) : List UInt8 := s.takeWhile runB
def wrest (s : List UInt8) : List UInt8 := s.dropWhile runB
theorem wrun_rest (s : List UInt8) : wrun s ++ wrest s = s := List.takeWhile_append_dropWhile
theorem wblanks_len (s : List UInt8) : (wblanks s).length ≤ s.length := (List.dropWhile_suffix _).length_le
theorem wrest_len (s : List UInt8) : (wrest s).length ≤ s.length := (List.dropWhile_suffix _).length_le

abbrev Adr := List UInt8 × List UInt8
def takeP (c : UInt8) : List UInt8 → Option (List UInt8)
  | [] => none
  | x :: t => if x = c then some t else none
theorem takeP_some {c : UInt8} {s r : List UInt8} (h : takeP c s = some r) : s = c :: r := by
  cases s with
  | nil => cases h
  | cons x t =>
    by_cases e : x = c
    · simp only [takeP, if_pos e, Option.some.injEq] at h; rw [e, h]
    · simp only [takeP, if_neg e] at h; cases h
/-- Something quoted, behind its first sign; behind a backslash, or not. -/
def quoteS : Bool → List UInt8 → Option (List UInt8)
  | _, [] => none
  | true, c :: t => if c = 34 ∨ c = 92 then quoteS false t else none
  | false, c :: t => if c = 34 then some t else if c = 92 then quoteS true t else quoteS false t
theorem quoteS_len {b : Bool} {s r : List UInt8} (h : quoteS b s = some r) : r.length < s.length := by
  induction s generalizing b with
  | nil => cases b <;> cases h
  | cons c t ih =>
    cases b with
    | true =>
      unfold quoteS at h
      split at h
      · have := ih h; simp; omega
      · cases h
    | false =>
      unfold quoteS at h
      split at h
      · cases h; simp
      · split at h <;> (have := ih h; simp; omega)

def plainP (s : List UInt8) : Option (Adr × List UInt8) :=
  match takeP 64 (wrest s) with
  | none => none
  | some r => if checkA (wrun s) (wrun r) = 0 then some ((wrun s, wrun r), wrest r) else none
theorem plainP_len {s r : List UInt8} {a : Adr} (h : plainP s = some (a, r)) : r.length ≤ s.length := by
  unfold plainP at h
  split at h
  · cases h
  · rename_i r' hr
    split at h
    · cases h
      have h1 := takeP_some hr
      have h2 := wrest_len s
      rw [h1] at h2
      have h3 := wrest_len r'
      simp at h2; omega
    · cases h
/-- Words, and the blanks between and behind them. -/
def wordsP (s : List UInt8) : Option (List UInt8) :=
  match s with
  | [] => some []
  | c :: t =>
    if c = 34 then
      match _h : quoteS false t with
      | none => none
      | some r => wordsP (wblanks r)
    else if runB c then wordsP (wblanks (wrest t)) else some (c :: t)
termination_by s.length
decreasing_by
  · have h1 := quoteS_len _h
    have h2 := wblanks_len r
    simp; omega
  · have h1 := wrest_len t
    have h2 := wblanks_len (wrest t)
    simp; omega
theorem wordsP_nil : wordsP [] = some [] := by rw [wordsP]
theorem wordsP_quote (t : List UInt8) : wordsP (34 :: t) = (quoteS false t).bind fun r => wordsP (wblanks r) := by
  rw [wordsP]
  simp only [if_true]
  split <;> (rename_i h; rw [h]; rfl)
theorem wordsP_run {c : UInt8} {t : List UInt8} (h : c ≠ 34) (hr : runB c = true) : wordsP (c :: t) = wordsP (wblanks (wrest (c :: t))) := by
  rw [wordsP]
  simp only [if_neg h, if_pos hr]
  unfold wrest
  rw [List.dropWhile_cons, if_pos hr]
theorem wordsP_stop {c : UInt8} {t : List UInt8} (h : c ≠ 34) (hr : runB c = false) : wordsP (c :: t) = some (c :: t) := by
  rw [wordsP]
  simp [if_neg h, hr]
theorem wordsP_len (n : Nat) : ∀ (s r : List UInt8), s.length ≤ n → wordsP s = some r → r.length ≤ s.length := by
  induction n with
  | zero =>
    intro s r hn h
    cases s with
    | nil => rw [wordsP_nil] at h; cases h; simp
    | cons c t => simp at hn
  | succ n ih =>
    intro s r hn h
    cases s with
    | nil => rw [wordsP_nil] at h; cases h; simp
    | cons c t =>
      simp only [List.length_cons] at hn
      by_cases hc : c = 34
      · subst hc
        rw [wordsP_quote] at h
        cases hq : quoteS false t with
        | none => rw [hq] at h; cases h
        | some q =>
          rw [hq] at h
          have h1 := quoteS_len hq
          have h2 := wblanks_len q
          have h3 := ih _ _ (by omega) h
          simp; omega
      · cases hr : runB c with
        | true =>
          rw [wordsP_run hc hr] at h
          have e : wrest (c :: t) = wrest t := by unfold wrest; rw [List.dropWhile_cons, if_pos hr]
          rw [e] at h
          have h1 := wrest_len t
          have h2 := wblanks_len (wrest t)
          have h3 := ih _ _ (by omega) h
          simp; omega
        | false =>
          rw [wordsP_stop hc hr] at h
          cases h; simp
def namedP (s : List UInt8) : Option (Adr × List UInt8) :=
  (wordsP s).bind fun r => (takeP 60 r).bind fun r => (plainP r).bind fun x => (takeP 62 x.2).map fun r => (x.1, r)
theorem namedP_len {s r : List UInt8} {a : Adr} (h : namedP s = some (a, r)) : r.length ≤ s.length := by
  unfold namedP at h
  simp only [Option.bind_eq_some_iff, Option.map_eq_some_iff] at h
  obtain ⟨r1, h1, r2, h2, ⟨a3, r3⟩, h3, r4, h4, h5⟩ := h
  cases h5
  have k1 := wordsP_len _ _ _ (Nat.le_refl _) h1
  have k2 := congrArg List.length (takeP_some h2)
  have k3 := plainP_len h3
  have k4 := congrArg List.length (takeP_some h4)
  simp at k2 k4 k3; omega
def addressP (s : List UInt8) : Option (Adr × List UInt8) :=
  (if (takeP 64 (wrest (wblanks s))).isSome then plainP (wblanks s) else namedP (wblanks s)).map fun x => (x.1, wblanks x.2)
theorem addressP_len {s r : List UInt8} {a : Adr} (h : addressP s = some (a, r)) : r.length ≤ s.length := by
  unfold addressP at h
  rw [Option.map_eq_some_iff] at h
  obtain ⟨⟨a1, r1⟩, h1, h2⟩ := h
  cases h2
  have k1 := wblanks_len s
  have k2 := wblanks_len r1
  split at h1
  · have := plainP_len h1; simp only at *; omega
  · have := namedP_len h1; simp only at *; omega
def listP (s : List UInt8) : Option (List Adr) :=
  match _h : addressP s with
  | none => none
  | some (a, r) =>
    if r = [] then some [a] else
      match _h2 : takeP 44 r with
      | none => none
      | some r' => (listP r').map (a :: ·)
termination_by s.length
decreasing_by
  have h1 := addressP_len _h
  have h3 := congrArg List.length (takeP_some _h2)
  simp at h3; omega
theorem listP_none {s : List UInt8} (h : addressP s = none) : listP s = none := by
  rw [listP]; split
  · rfl
  · rename_i h2; rw [h] at h2; cases h2
theorem listP_one {s : List UInt8} {a : Adr} (h : addressP s = some (a, [])) : listP s = some [a] := by
  rw [listP]; split
  · rename_i h2; rw [h] at h2; cases h2
  · rename_i h2; rw [h] at h2; cases h2; simp
theorem listP_odd {s r : List UInt8} {a : Adr} (h : addressP s = some (a, r)) (hr : r ≠ []) (h3 : takeP 44 r = none) : listP s = none := by
  rw [listP]; split
  · rfl
  · rename_i h2; rw [h] at h2; cases h2
    rw [if_neg hr]; split
    · rfl
    · rename_i h4; rw [h3] at h4; cases h4
theorem listP_more {s r : List UInt8} {a : Adr} (h : addressP s = some (a, 44 :: r)) : listP s = (listP r).map (a :: ·) := by
  rw [listP]; split
  · rename_i h2; rw [h] at h2; cases h2
  · rename_i h2; rw [h] at h2; cases h2
    rw [if_neg (by simp)]; split
    · rename_i h4; simp [takeP] at h4
    · rename_i h4; simp only [takeP, if_true] at h4; cases h4; rfl
def listM (s : List UInt8) : List Adr × Int :=
  if 2000 < s.length then ([], 1) else match listP s with
    | none => ([], 3)
    | some l => if 20 < l.length then ([], 5) else (l, 0)
end Go.Proofs.YtjcffjokhjechaaDoor
