/-
  Plain facts on addresses: what may be in an atom, what is dotted, how a list of addresses is read. No program is named here.
  Plain facts on lists of addresses that the keeping laws lean on. No program is named here.
  Plain facts on addresses: what is read of a list may be. No program is named here.
-/
import Derived.WalkKit
import Derived.Test.YtmnlaijggoojkaaGreatDoorPure
namespace Go.Proofs.YtmnlaijggoojkaaGreatDoor
open Go.RowKit

def marksL : List UInt8 := [33, 35, 36, 37, 38, 39, 42, 43, 45, 47, 61, 63, 94, 95, 96, 123, 124, 125, 126]
/-- P3.1: a byte of an atom. -/
def atomB (c : UInt8) : Bool := (decide (97 ≤ c.toNat) && decide (c.toNat ≤ 122)) || (decide (65 ≤ c.toNat) && decide (c.toNat ≤ 90)) || (decide (48 ≤ c.toNat) && decide (c.toNat ≤ 57)) || marksL.contains c
def runB (c : UInt8) : Bool := c == 46 || atomB c

/-- Whether a text is dotted, the byte ahead of it being a dot (or none) or not. -/
def dotS : Bool → List UInt8 → Bool
  | b, [] => !b
  | b, c :: t => if c = 46 then !b && dotS true t else atomB c && dotS false t
def dottedB (l : List UInt8) : Bool := dotS true l
def atomL (l : List UInt8) : Bool := !l.isEmpty && l.all atomB

theorem dotS_plain {p : List UInt8} (h : 46 ∉ p) (b : Bool) : dotS b p = if p.isEmpty then !b else p.all atomB := by
  induction p generalizing b with
  | nil => simp [dotS]
  | cons c t ih =>
    simp only [List.mem_cons, not_or] at h
    have hc : ¬ c = 46 := fun e => h.1 e.symm
    simp only [dotS, if_neg hc, ih h.2, List.isEmpty_cons, List.all_cons]
    cases t <;> simp
theorem dotS_cut {p : List UInt8} (h : 46 ∉ p) (b : Bool) (t : List UInt8) : dotS b (p ++ 46 :: t) = ((if p.isEmpty then !b else p.all atomB) && dotS true t) := by
  induction p generalizing b with
  | nil => simp [dotS]
  | cons c u ih =>
    simp only [List.mem_cons, not_or] at h
    have hc : ¬ c = 46 := fun e => h.1 e.symm
    simp only [List.cons_append, dotS, if_neg hc, ih h.2, List.isEmpty_cons, List.all_cons]
    cases u <;> simp [Bool.and_assoc]
theorem dotted_plain {p : List UInt8} (h : 46 ∉ p) : dottedB p = atomL p := by
  unfold dottedB atomL
  rw [dotS_plain h]
  cases p <;> simp
theorem dotted_cut {p : List UInt8} (h : 46 ∉ p) (t : List UInt8) : dottedB (p ++ 46 :: t) = (atomL p && dottedB t) := by
  unfold dottedB atomL
  rw [dotS_cut h]
  cases p <;> simp

/-- P3.2. -/
def checkA (l d : List UInt8) : Int := if (dottedB l && dottedB d) = false then 3 else if 100 < l.length + 1 + d.length then 1 else 0

/- P3.4. -/
def wblanks (s : List UInt8) : List UInt8 := s.dropWhile blankB
def wrun (s : List UInt8) : List UInt8 := s.takeWhile runB
def wrest (s : List UInt8) : List UInt8 := s.dropWhile runB
theorem wrun_rest (s : List UInt8) : wrun s ++ wrest s = s := List.takeWhile_append_dropWhile
theorem wblanks_len (s : List UInt8) : (wblanks s).length ≤ s.length := (List.dropWhile_suffix _).length_le
theorem wrest_len (s : List UInt8) : (wrest s).length ≤ s.length := (List.dropWhile_suffix _).length_le

abbrev Adr := List UInt8 × List UInt8
def takeP (c : UInt8) : List UInt8 → Option (List UInt8)
  | [] => none
  | x :: t => if x = c then some t else none
theorem takeP_some {c : UInt8} {s r : List UInt8} (h : takeP c s = some r) : s = c :: r := by
  cases s with
  | nil => cases h
  | cons x t =>
    by_cases e : x = c
    · simp only [takeP, if_pos e, Option.some.injEq] at h; rw [e, h]
    · simp only [takeP, if_neg e] at h; cases h
/-- Something quoted, behind its first sign; behind a backslash, or not. -/
def quoteS : Bool → List UInt8 → Option (List UInt8)
  | _, [] => none
  | true, c :: t => if c = 34 ∨ c = 92 then quoteS false t else none
  | false, c :: t => if c = 34 then some t else if c = 92 then quoteS true t else quoteS false t
theorem quoteS_len {b : Bool} {s r : List UInt8} (h : quoteS b s = some r) : r.length < s.length := by
  induction s generalizing b with
  | nil => cases b <;> cases h
  | cons c t ih =>
    cases b with
    | true =>
      unfold quoteS at h
      split at h
      · have := ih h; simp; omega
      · cases h
    | false =>
      unfold quoteS at h
      split at h
      · cases h; simp
      · split at h <;> (have := ih h; simp; omega)

def plainP (s : List UInt8) : Option (Adr × List UInt8) :=
  match takeP 64 (wrest s) with
  | none => none
  | some r => if checkA (wrun s) (wrun r) = 0 then some ((wrun s, wrun r), wrest r) else none
theorem plainP_len {s r : List UInt8} {a : Adr} (h : plainP s = some (a, r)) : r.length ≤ s.length := by
  unfold plainP at h
  split at h
  · cases h
  · rename_i r' hr
    split at h
    · cases h
      have h1 := takeP_some hr
      have h2 := wrest_len s
      rw [h1] at h2
      have h3 := wrest_len r'
      simp at h2; omega
    · cases h
/-- Words, and the blanks between and behind them. -/
def wordsF : Nat → List UInt8 → Option (List UInt8)
  | 0, s => some s
  | _ + 1, [] => some []
  | n + 1, c :: t =>
    if c = 34 then (quoteS false t).bind fun r => wordsF n (wblanks r)
    else if runB c then wordsF n (wblanks (wrest t)) else some (c :: t)
theorem wordsF_more : ∀ (n m : Nat) (s : List UInt8), s.length ≤ n → s.length ≤ m → wordsF n s = wordsF m s := by
  intro n
  induction n with
  | zero =>
    intro m s h1 _
    have e : s = [] := List.length_eq_zero_iff.1 (by omega)
    subst e
    cases m <;> rfl
  | succ n ih =>
    intro m s h1 h2
    cases s with
    | nil => cases m <;> rfl
    | cons c t =>
      cases m with
      | zero => simp at h2
      | succ m =>
        simp only [List.length_cons] at h1 h2
        have h3 := wrest_len t
        have h4 := wblanks_len (wrest t)
        simp only [wordsF]
        rw [ih m (wblanks (wrest t)) (by omega) (by omega)]
        cases hq : quoteS false t with
        | none => rfl
        | some q =>
          have k1 := quoteS_len hq
          have k2 := wblanks_len q
          simp only [Option.bind_some]
          rw [ih m (wblanks q) (by omega) (by omega)]
def wordsP (s : List UInt8) : Option (List UInt8) := wordsF s.length s
theorem wordsP_nil : wordsP [] = some [] := rfl
theorem wordsP_quote (t : List UInt8) : wordsP (34 :: t) = (quoteS false t).bind fun r => wordsP (wblanks r) := by
  show wordsF (t.length + 1) (34 :: t) = _
  simp only [wordsF, if_true]
  cases hq : quoteS false t with
  | none => rfl
  | some q =>
    have k1 := quoteS_len hq
    have k2 := wblanks_len q
    exact wordsF_more _ _ _ (by omega) (Nat.le_refl _)
theorem wordsP_run {c : UInt8} {t : List UInt8} (h : c ≠ 34) (hr : runB c = true) : wordsP (c :: t) = wordsP (wblanks (wrest (c :: t))) := by
  have e : wrest (c :: t) = wrest t := by unfold wrest; rw [List.dropWhile_cons, if_pos hr]
  have h3 := wrest_len t
  have h4 := wblanks_len (wrest t)
  rw [e]
  show wordsF (t.length + 1) (c :: t) = _
  simp only [wordsF, if_neg h, if_pos hr]
  exact wordsF_more _ _ _ (by omega) (Nat.le_refl _)
theorem wordsP_stop {c : UInt8} {t : List UInt8} (h : c ≠ 34) (hr : runB c = false) : wordsP (c :: t) = some (c :: t) := by
  show wordsF (t.length + 1) (c :: t) = _
  simp [wordsF, if_neg h, hr]
theorem wordsP_len (n : Nat) : ∀ (s r : List UInt8), s.length ≤ n → wordsP s = some r → r.length ≤ s.length := by
  induction n with
  | zero =>
    intro s r hn h
    cases s with
    | nil => rw [wordsP_nil] at h; cases h; simp
    | cons c t => simp at hn
  | succ n ih =>
    intro s r hn h
    cases s with
    | nil => rw [wordsP_nil] at h; cases h; simp
    | cons c t =>
      simp only [List.length_cons] at hn
      by_cases hc : c = 34
      · subst hc
        rw [wordsP_quote] at h
        cases hq : quoteS false t with
        | none => rw [hq] at h; cases h
        | some q =>
          rw [hq] at h
          have h1 := quoteS_len hq
          have h2 := wblanks_len q
          have h3 := ih _ _ (by omega) h
          simp; omega
      · cases hr : runB c with
        | true =>
          rw [wordsP_run hc hr] at h
          have e : wrest (c :: t) = wrest t := by unfold wrest; rw [List.dropWhile_cons, if_pos hr]
          rw [e] at h
          have h1 := wrest_len t
          have h2 := wblanks_len (wrest t)
          have h3 := ih _ _ (by omega) h
          simp; omega
        | false =>
          rw [wordsP_stop hc hr] at h
          cases h; simp
def namedP (s : List UInt8) : Option (Adr × List UInt8) :=
  (wordsP s).bind fun r => (takeP 60 r).bind fun r => (plainP r).bind fun x => (takeP 62 x.2).map fun r => (x.1, r)
theorem namedP_len {s r : List UInt8} {a : Adr} (h : namedP s = some (a, r)) : r.length ≤ s.length := by
  unfold namedP at h
  simp only [Option.bind_eq_some_iff, Option.map_eq_some_iff] at h
  obtain ⟨r1, h1, r2, h2, ⟨a3, r3⟩, h3, r4, h4, h5⟩ := h
  cases h5
  have k1 := wordsP_len _ _ _ (Nat.le_refl _) h1
  have k2 := congrArg List.length (takeP_some h2)
  have k3 := plainP_len h3
  have k4 := congrArg List.length (takeP_some h4)
  simp at k2 k4 k3; omega
def addressP (s : List UInt8) : Option (Adr × List UInt8) :=
  (if (takeP 64 (wrest (wblanks s))).isSome then plainP (wblanks s) else namedP (wblanks s)).map fun x => (x.1, wblanks x.2)
theorem addressP_len {s r : List UInt8} {a : Adr} (h : addressP s = some (a, r)) : r.length ≤ s.length := by
  unfold addressP at h
  rw [Option.map_eq_some_iff] at h
  obtain ⟨⟨a1, r1⟩, h1, h2⟩ := h
  cases h2
  have k1 := wblanks_len s
  have k2 := wblanks_len r1
  split at h1
  · have := plainP_len h1; simp only at *; omega
  · have := namedP_len h1; simp only at *; omega
def listF : Nat → List UInt8 → Option (List Adr)
  | 0, _ => none
  | n + 1, s => (addressP s).bind fun x => if x.2 = [] then some [x.1] else (takeP 44 x.2).bind fun r => (listF n r).map (x.1 :: ·)
theorem listF_more : ∀ (n m : Nat) (s : List UInt8), s.length < n → s.length < m → listF n s = listF m s := by
  intro n
  induction n with
  | zero => intro m s h1; omega
  | succ n ih =>
    intro m s h1 h2
    cases m with
    | zero => omega
    | succ m =>
      simp only [listF]
      cases ha : addressP s with
      | none => rfl
      | some x =>
        have k1 := addressP_len (a := x.1) (r := x.2) ha
        simp only [Option.bind_some]
        split
        · rfl
        · cases ht : takeP 44 x.2 with
          | none => rfl
          | some r =>
            have k2 := congrArg List.length (takeP_some ht)
            simp only [List.length_cons] at k2
            simp only [Option.bind_some]
            rw [ih m r (by omega) (by omega)]
def listP (s : List UInt8) : Option (List Adr) := listF (s.length + 1) s
theorem listP_none {s : List UInt8} (h : addressP s = none) : listP s = none := by
  unfold listP; simp only [listF, h]; rfl
theorem listP_one {s : List UInt8} {a : Adr} (h : addressP s = some (a, [])) : listP s = some [a] := by
  unfold listP; simp only [listF, h]; rfl
theorem listP_odd {s r : List UInt8} {a : Adr} (h : addressP s = some (a, r)) (hr : r ≠ []) (h3 : takeP 44 r = none) : listP s = none := by
  unfold listP; simp only [listF, h, Option.bind_some, if_neg hr, h3]; rfl
theorem listP_more {s r : List UInt8} {a : Adr} (h : addressP s = some (a, 44 :: r)) : listP s = (listP r).map (a :: ·) := by
  have k1 := addressP_len h
  simp only [List.length_cons] at k1
  show listF (s.length + 1) s = (listF (r.length + 1) r).map _
  have e : takeP 44 (44 :: r) = some r := by simp [takeP]
  rw [listF, h, Option.bind_some, if_neg (by simp), e, Option.bind_some, listF_more s.length (r.length + 1) r (by omega) (by omega)]
def listM (s : List UInt8) : List Adr × Int :=
  if 2000 < s.length then ([], 1) else match listP s with
    | none => ([], 3)
    | some l => if 20 < l.length then ([], 5) else (l, 0)
end Go.Proofs.YtmnlaijggoojkaaGreatDoor

namespace Go.Proofs.YtmnlaijggoojkaaGreatDoor
open Go.RowKit

/-- A word of the laws: one to eight small letters. -/
def wordy (l : List UInt8) : Prop := l ≠ [] ∧ l.length ≤ 8 ∧ ∀ c ∈ l, 97 ≤ c.toNat ∧ c.toNat ≤ 122
theorem letter_atom {c : UInt8} (h : 97 ≤ c.toNat ∧ c.toNat ≤ 122) : atomB c = true := by unfold atomB; simp [h.1, h.2]
theorem letter_run {c : UInt8} (h : 97 ≤ c.toNat ∧ c.toNat ≤ 122) : runB c = true := by unfold runB; rw [letter_atom h]; simp
theorem letter_ne {c : UInt8} (h : 97 ≤ c.toNat ∧ c.toNat ≤ 122) (d : UInt8) (hd : d.toNat < 97) : c ≠ d := fun e => by rw [e] at h; omega
def orgL : List UInt8 := [46, 111, 114, 103]
/-- Letters and dots: what a Local and a Domain of the laws are made of. -/
def letters (l : List UInt8) : Prop := ∀ c ∈ l, (97 ≤ c.toNat ∧ c.toNat ≤ 122) ∨ c = 46
theorem wordy.letters {l : List UInt8} (h : wordy l) : letters l := fun c hc => Or.inl (h.2.2 c hc)
theorem wordy.org {l : List UInt8} (h : wordy l) : Go.Proofs.YtmnlaijggoojkaaGreatDoor.letters (l ++ orgL) := by
  intro c hc
  rcases List.mem_append.1 hc with hc | hc
  · exact Or.inl (h.2.2 c hc)
  · simp [orgL] at hc
    rcases hc with rfl | rfl | rfl | rfl <;> decide
theorem letters_run {l : List UInt8} (h : letters l) : ∀ c ∈ l, runB c = true := by
  intro c hc
  rcases h c hc with h | rfl
  · exact letter_run h
  · decide
theorem letters_ne {l : List UInt8} (h : letters l) (d : UInt8) (hd : d.toNat < 97) (hd2 : d ≠ 46) : d ∉ l := by
  intro hc
  rcases h d hc with h | h
  · omega
  · exact hd2 h
theorem wordy_dotted {l : List UInt8} (h : wordy l) : dottedB l = true := by
  rw [dotted_plain (fun hc => by have := h.2.2 46 hc; simp at this)]
  unfold atomL
  obtain ⟨h1, _, h2⟩ := h
  have e : l.isEmpty = false := by cases l <;> simp_all
  rw [e]
  simp only [Bool.not_false, Bool.true_and, List.all_eq_true]
  exact fun c hc => letter_atom (h2 c hc)
theorem wordy_org {l : List UInt8} (h : wordy l) : dottedB (l ++ orgL) = true := by
  have e := wordy_dotted h
  have h0 : 46 ∉ l := fun hc => by have := h.2.2 46 hc; simp at this
  rw [dotted_plain h0] at e
  show dottedB (l ++ 46 :: [111, 114, 103]) = true
  rw [dotted_cut h0, e]
  decide
/-- An address of the laws. -/
def lawful (a : Adr) : Prop := wordy a.1 ∧ ∃ d, wordy d ∧ a.2 = d ++ orgL
theorem lawful.check {a : Adr} (h : lawful a) : checkA a.1 a.2 = 0 := by
  obtain ⟨h1, d, h2, h3⟩ := h
  unfold checkA
  rw [h3, wordy_dotted h1, wordy_org h2]
  have l1 := h1.2.1
  have l2 := h2.2.1
  simp [orgL]
  omega
theorem lawful.len {a : Adr} (h : lawful a) : a.1.length ≤ 8 ∧ a.2.length ≤ 12 := by
  obtain ⟨h1, d, h2, h3⟩ := h
  have l1 := h1.2.1
  have l2 := h2.2.1
  rw [h3]; simp [orgL]; omega
theorem lawful.letters {a : Adr} (h : lawful a) : letters a.1 ∧ Go.Proofs.YtmnlaijggoojkaaGreatDoor.letters a.2 := by
  obtain ⟨h1, d, h2, h3⟩ := h
  rw [h3]; exact ⟨h1.letters, h2.org⟩
/-- What an address is put together of. -/
def textA (a : Adr) : List UInt8 := a.1 ++ 64 :: a.2
theorem lawful.size {a : Adr} (h : lawful a) : (textA a).length ≤ 21 := by
  have := h.len
  simp [textA]; omega

/-- A text that goes on with no byte of a run, or ends. -/
def stops (t : List UInt8) : Prop := ∀ c u, t = c :: u → runB c = false
theorem stops_nil : stops [] := fun c u h => by cases h
theorem stops_cons {c : UInt8} {u : List UInt8} (h : runB c = false) : stops (c :: u) := fun c' u' e => by cases e; exact h
theorem wrun_app {l t : List UInt8} (h : ∀ c ∈ l, runB c = true) (ht : stops t) : wrun (l ++ t) = l := by
  unfold wrun
  rw [List.takeWhile_append_of_pos h]
  cases t with
  | nil => simp
  | cons c u => rw [List.takeWhile_cons, ht c u rfl]; simp
theorem wrest_app {l t : List UInt8} (h : ∀ c ∈ l, runB c = true) (ht : stops t) : wrest (l ++ t) = t := by
  unfold wrest
  rw [List.dropWhile_append_of_pos h]
  cases t with
  | nil => simp
  | cons c u => rw [List.dropWhile_cons, ht c u rfl]; simp
theorem plainP_text {a : Adr} (h : lawful a) {t : List UInt8} (ht : stops t) : plainP (textA a ++ t) = some (a, t) := by
  obtain ⟨k1, k2⟩ := h.letters
  have e : textA a ++ t = a.1 ++ 64 :: (a.2 ++ t) := by simp [textA]
  unfold plainP
  rw [e, wrest_app (letters_run k1) (stops_cons (by decide)), wrun_app (letters_run k1) (stops_cons (by decide))]
  simp only [takeP, if_true]
  rw [wrun_app (letters_run k2) ht, wrest_app (letters_run k2) ht, if_pos h.check]
/-- A text that opens with no blank. -/
theorem wblanks_keep {c : UInt8} {t : List UInt8} (h : blankB c = false) : wblanks (c :: t) = c :: t := by
  unfold wblanks; rw [List.dropWhile_cons, h]; simp
theorem wblanks_twice (s : List UInt8) : wblanks (wblanks s) = wblanks s := by
  induction s with
  | nil => rfl
  | cons c t ih =>
    cases h : blankB c with
    | true => unfold wblanks at *; rw [List.dropWhile_cons, h]; simpa using ih
    | false => rw [wblanks_keep h, wblanks_keep h]
theorem addressP_blanks (s : List UInt8) : addressP (wblanks s) = addressP s := by
  unfold addressP; rw [wblanks_twice]
theorem listP_same {s s' : List UInt8} (h : addressP s = addressP s') : listP s = listP s' := by
  cases e : addressP s with
  | none => rw [listP_none e, listP_none (h ▸ e)]
  | some x =>
    obtain ⟨a, r⟩ := x
    by_cases hr : r = []
    · subst hr; rw [listP_one e, listP_one (h ▸ e)]
    · cases e2 : takeP 44 r with
      | none => rw [listP_odd e hr e2, listP_odd (h ▸ e) hr e2]
      | some r' =>
        have := takeP_some e2
        subst this
        have e' := h ▸ e
        exact (listP_more e).trans (listP_more e').symm
theorem listP_blanks (s : List UInt8) : listP (wblanks s) = listP s := listP_same (addressP_blanks s)
theorem text_blanks {a : Adr} (h : lawful a) (t : List UInt8) : wblanks (textA a ++ t) = textA a ++ t := by
  obtain ⟨⟨h1, _, h2⟩, _⟩ := h
  unfold textA
  cases e : a.1 with
  | nil => exact absurd e h1
  | cons c u =>
    rw [e] at h2
    refine wblanks_keep ?_
    have := h2 c (by simp)
    unfold blankB
    simp only [Bool.or_eq_false_iff, beq_eq_false_iff_ne]
    exact ⟨letter_ne this _ (by decide), letter_ne this _ (by decide)⟩
theorem addressP_text {a : Adr} (h : lawful a) {t : List UInt8} (ht : stops t) : addressP (textA a ++ t) = some (a, wblanks t) := by
  obtain ⟨k1, k2⟩ := h.letters
  unfold addressP
  rw [text_blanks h]
  have e : wrest (textA a ++ t) = 64 :: (a.2 ++ t) := by
    have e : textA a ++ t = a.1 ++ 64 :: (a.2 ++ t) := by simp [textA]
    rw [e, wrest_app (letters_run k1) (stops_cons (by decide))]
  rw [e]
  simp only [takeP, if_true, Option.isSome_some]
  rw [plainP_text h ht]; rfl

/-- P3: an address is a list of one. -/
theorem listP_text {a : Adr} (h : lawful a) : listP (textA a) = some [a] := by
  have e := addressP_text h stops_nil
  rw [List.append_nil] at e
  exact listP_one e
theorem listP_text_more {a : Adr} (h : lawful a) (s : List UInt8) : listP (textA a ++ 44 :: s) = (listP s).map (a :: ·) := by
  have e := addressP_text h (stops_cons (c := 44) (u := s) (by decide))
  rw [wblanks_keep (by decide)] at e
  exact listP_more e

theorem wordsP_cons (c : UInt8) (t : List UInt8) : wordsP (c :: t) = if c = 34 then (quoteS false t).bind (fun r => wordsP (wblanks r)) else if runB c then wordsP (wblanks (wrest t)) else some (c :: t) := by
  by_cases h : c = 34
  · subst h; rw [wordsP_quote]; simp
  · rw [if_neg h]
    cases hr : runB c with
    | true =>
      rw [wordsP_run h hr]
      have e : wrest (c :: t) = wrest t := by unfold wrest; rw [List.dropWhile_cons, if_pos hr]
      rw [e]; simp
    | false => rw [wordsP_stop h hr]; simp
theorem wordsP_word {l t : List UInt8} (h : wordy l) (ht : stops t) : wordsP (l ++ t) = wordsP (wblanks t) := by
  have h0 := h
  obtain ⟨h1, _, h2⟩ := h
  cases l with
  | nil => exact absurd rfl h1
  | cons c u =>
    have hc := h2 c (by simp)
    have e := wrest_app (letters_run h0.letters) ht
    rw [List.cons_append] at e ⊢
    rw [wordsP_run (letter_ne hc _ (by decide)) (letter_run hc), e]
/-- The address in brackets, behind words. -/
theorem namedP_of {s : List UInt8} {a : Adr} (h : lawful a) {t : List UInt8} (hs : wordsP s = some (60 :: (textA a ++ 62 :: t))) : namedP s = some (a, t) := by
  unfold namedP
  rw [hs]
  simp only [Option.bind_some, takeP, if_true]
  rw [plainP_text h (stops_cons (by decide))]
  simp
theorem addressP_named {s : List UInt8} {a : Adr} (h : lawful a) {t : List UInt8} (hb : wblanks s = s) (h64 : takeP 64 (wrest s) = none) (hs : wordsP s = some (60 :: (textA a ++ 62 :: t))) : addressP s = some (a, wblanks t) := by
  unfold addressP
  rw [hb, h64]
  simp only [Option.isSome_none, Bool.false_eq_true, if_false]
  rw [namedP_of h hs]; rfl

/- WhoMany. -/
structure Man where
  adr : Adr
  word : List UInt8
  kind : Nat
  sep : Nat
def Man.ok (x : Man) : Prop := lawful x.adr ∧ wordy x.word
def sepL : Nat → List UInt8
  | 0 => [44]
  | 1 => [44, 32]
  | _ => [32, 44, 9]
def itemL (x : Man) : List UInt8 := match x.kind with
  | 0 => textA x.adr
  | 1 => [60] ++ textA x.adr ++ [62]
  | 2 => x.word ++ [32, 98, 46, 32, 60] ++ textA x.adr ++ [62, 32]
  | _ => [34, 120, 44, 32, 92, 34, 32] ++ x.word ++ [64, 34, 60] ++ textA x.adr ++ [62]
theorem itemL_len {x : Man} (h : x.ok) : (itemL x).length ≤ 40 := by
  have h1 := h.1.size
  have h2 := h.2.2.1
  unfold itemL
  split <;> simp <;> omega
theorem sepL_len (n : Nat) : (sepL n).length ≤ 3 := by unfold sepL; split <;> simp
theorem quoteS_word {l t : List UInt8} (h : wordy l) : quoteS false (l ++ t) = quoteS false t := by
  have key : ∀ l : List UInt8, (∀ c ∈ l, 97 ≤ c.toNat ∧ c.toNat ≤ 122) → quoteS false (l ++ t) = quoteS false t := by
    intro l
    induction l with
    | nil => intro _; rfl
    | cons c u ih =>
      intro h2
      have hc := h2 c (by simp)
      rw [List.cons_append]
      simp only [quoteS]
      rw [if_neg (letter_ne hc _ (by decide)), if_neg (letter_ne hc _ (by decide))]
      exact ih fun d hd => h2 d (by simp [hd])
  exact key l h.2.2
theorem item_address {x : Man} (h : x.ok) {t : List UInt8} (ht : stops t) : addressP (itemL x ++ t) = some (x.adr, wblanks t) := by
  obtain ⟨ha, hw⟩ := h
  unfold itemL
  split
  · exact addressP_text ha ht
  · refine addressP_named ha (wblanks_keep (by decide)) (by simp [wrest, takeP, runB, atomB, marksL]) ?_
    have e : [60] ++ textA x.adr ++ [62] ++ t = 60 :: (textA x.adr ++ 62 :: t) := by simp
    rw [e, wordsP_stop (by decide) (by decide)]
  · have e : x.word ++ [32, 98, 46, 32, 60] ++ textA x.adr ++ [62, 32] ++ t = x.word ++ (32 :: 98 :: 46 :: 32 :: 60 :: (textA x.adr ++ 62 :: 32 :: t)) := by simp
    have st : stops (32 :: 98 :: 46 :: 32 :: 60 :: (textA x.adr ++ 62 :: 32 :: t)) := stops_cons (by decide)
    rw [e]
    have wt : wblanks (32 :: t) = wblanks t := by unfold wblanks; rw [List.dropWhile_cons]; simp [blankB]
    rw [← wt]
    refine addressP_named ha ?_ ?_ ?_
    · obtain ⟨h1, _, h2⟩ := hw
      cases e : x.word with
      | nil => exact absurd e h1
      | cons c u =>
        rw [e] at h2
        refine wblanks_keep ?_
        have := h2 c (by simp)
        unfold blankB
        simp only [Bool.or_eq_false_iff, beq_eq_false_iff_ne]
        exact ⟨letter_ne this _ (by decide), letter_ne this _ (by decide)⟩
    · rw [wrest_app (letters_run hw.letters) st]; rfl
    · rw [wordsP_word hw st]
      have e2 : wblanks (32 :: 98 :: 46 :: 32 :: 60 :: (textA x.adr ++ 62 :: 32 :: t)) = 98 :: 46 :: 32 :: 60 :: (textA x.adr ++ 62 :: 32 :: t) := by simp [wblanks, blankB]
      have e3 : wrest (46 :: 32 :: 60 :: (textA x.adr ++ 62 :: 32 :: t)) = 32 :: 60 :: (textA x.adr ++ 62 :: 32 :: t) := by simp [wrest, runB, atomB, marksL]
      have e4 : wblanks (32 :: 60 :: (textA x.adr ++ 62 :: 32 :: t)) = 60 :: (textA x.adr ++ 62 :: 32 :: t) := by simp [wblanks, blankB]
      rw [e2, wordsP_cons, if_neg (by decide), if_pos (by decide), e3, e4, wordsP_stop (by decide) (by decide)]
  · have e : [34, 120, 44, 32, 92, 34, 32] ++ x.word ++ [64, 34, 60] ++ textA x.adr ++ [62] ++ t = 34 :: 120 :: 44 :: 32 :: 92 :: 34 :: 32 :: (x.word ++ 64 :: 34 :: 60 :: (textA x.adr ++ 62 :: t)) := by simp
    rw [e]
    refine addressP_named ha (wblanks_keep (by decide)) (by simp [wrest, takeP, runB, atomB, marksL]) ?_
    rw [wordsP_quote]
    have q : quoteS false (120 :: 44 :: 32 :: 92 :: 34 :: 32 :: (x.word ++ 64 :: 34 :: 60 :: (textA x.adr ++ 62 :: t))) = some (60 :: (textA x.adr ++ 62 :: t)) := by
      simp [quoteS, quoteS_word hw]
    rw [q]
    simp only [Option.bind_some]
    rw [wblanks_keep (by decide), wordsP_stop (by decide) (by decide)]
def tailL (xs : List Man) : List UInt8 := (xs.map fun x => sepL x.sep ++ itemL x).flatten
def joinL : List Man → List UInt8
  | [] => []
  | x :: xs => itemL x ++ tailL xs
theorem tail_stops (xs : List Man) : stops (tailL xs) := by
  cases xs with
  | nil => exact stops_nil
  | cons x xs =>
    show stops (sepL x.sep ++ itemL x ++ tailL xs)
    unfold sepL
    split <;> exact stops_cons (by decide)
theorem sep_list (n : Nat) (s : List UInt8) : ∃ r, wblanks (sepL n ++ s) = 44 :: r ∧ listP r = listP s := by
  unfold sepL
  split
  · exact ⟨s, by simp [wblanks, blankB], rfl⟩
  · refine ⟨32 :: s, by simp [wblanks, blankB], ?_⟩
    rw [← listP_blanks (32 :: s), ← listP_blanks s]
    congr 1
  · refine ⟨9 :: s, by simp [wblanks, blankB], ?_⟩
    rw [← listP_blanks (9 :: s), ← listP_blanks s]
    congr 1
theorem join_list (xs : List Man) : ∀ x : Man, x.ok → (∀ y ∈ xs, y.ok) → listP (joinL (x :: xs)) = some (x.adr :: xs.map Man.adr) := by
  induction xs with
  | nil =>
    intro x hx _
    have e := item_address hx stops_nil
    exact listP_one e
  | cons y ys ih =>
    intro x hx hys
    have e := item_address hx (tail_stops (y :: ys))
    have et : tailL (y :: ys) = sepL y.sep ++ joinL (y :: ys) := by simp [tailL, joinL]
    obtain ⟨r, hr, hl⟩ := sep_list y.sep (joinL (y :: ys))
    rw [et, hr] at e
    have e2 : joinL (x :: y :: ys) = itemL x ++ (sepL y.sep ++ joinL (y :: ys)) := by rw [← et]; rfl
    rw [e2, listP_more e, hl, ih y (hys y (by simp)) (fun z hz => hys z (by simp [hz]))]
    rfl
theorem join_snoc {xs : List Man} (x : Man) (h : xs ≠ []) : joinL (xs ++ [x]) = joinL xs ++ sepL x.sep ++ itemL x := by
  cases xs with
  | nil => exact absurd rfl h
  | cons y ys => simp [joinL, tailL]
theorem join_len {xs : List Man} (h : ∀ y ∈ xs, y.ok) : (joinL xs).length ≤ 43 * xs.length := by
  have key : ∀ ys : List Man, (∀ y ∈ ys, y.ok) → (tailL ys).length ≤ 43 * ys.length := by
    intro ys
    induction ys with
    | nil => intro _; simp [tailL]
    | cons y ys ih =>
      intro hys
      have h1 := itemL_len (hys y (by simp))
      have h2 := sepL_len y.sep
      have h3 := ih fun z hz => hys z (by simp [hz])
      have e : tailL (y :: ys) = sepL y.sep ++ itemL y ++ tailL ys := by simp [tailL]
      rw [e]; simp; omega
  cases xs with
  | nil => simp [joinL]
  | cons x xs =>
    have h1 := itemL_len (h x (by simp))
    have h2 := key xs fun z hz => h z (by simp [hz])
    simp [joinL]; omega

/- WhoFull. -/
def fullS : Nat → List UInt8
  | 0 => []
  | k + 1 => fullS k ++ (if k = 0 then [] else [44]) ++ [97, 64, 98]
def abM : Adr := ([97], [98])
theorem full_eq (k : Nat) : fullS (k + 1) = [97, 64, 98] ++ (List.replicate k [44, 97, 64, 98]).flatten := by
  induction k with
  | zero => rfl
  | succ k ih =>
    rw [fullS, ih, if_neg (by omega), List.replicate_succ']
    simp
theorem full_len (k : Nat) : (fullS k).length ≤ 4 * k := by
  induction k with
  | zero => simp [fullS]
  | succ k ih => rw [fullS]; split <;> simp <;> omega
theorem ab_address {t : List UInt8} (ht : stops t) : addressP ([97, 64, 98] ++ t) = some (abM, wblanks t) := by
  have h1 : ∀ c ∈ ([98] : List UInt8), runB c = true := by decide
  have e1 := wrun_app h1 ht
  have e2 := wrest_app h1 ht
  have e0 : wblanks ([97, 64, 98] ++ t) = 97 :: 64 :: ([98] ++ t) := wblanks_keep (by decide)
  have e3 : wrest (97 :: 64 :: ([98] ++ t)) = 64 :: ([98] ++ t) := by unfold wrest; rw [List.dropWhile_cons, if_pos (by decide), List.dropWhile_cons, if_neg (by decide)]
  have e4 : wrun (97 :: 64 :: ([98] ++ t)) = [97] := by unfold wrun; rw [List.takeWhile_cons, if_pos (by decide), List.takeWhile_cons, if_neg (by decide)]
  unfold addressP plainP
  rw [e0, e3, e4]
  simp only [takeP, if_true, Option.isSome_some]
  rw [e1, e2, if_pos (by decide)]
  rfl
theorem full_list (k : Nat) : listP (fullS (k + 1)) = some (List.replicate (k + 1) abM) := by
  rw [full_eq]
  induction k with
  | zero => exact listP_one (ab_address stops_nil)
  | succ k ih =>
    have e := ab_address (t := (List.replicate (k + 1) [44, 97, 64, 98]).flatten) (by rw [List.replicate_succ]; exact stops_cons (by decide))
    have e2 : (List.replicate (k + 1) [44, 97, 64, 98]).flatten = 44 :: ([97, 64, 98] ++ (List.replicate k ([44, 97, 64, 98] : List UInt8)).flatten) := by rw [List.replicate_succ]; rfl
    rw [e2] at e ⊢
    rw [wblanks_keep (by decide)] at e
    rw [listP_more e, ih]
    rfl
end Go.Proofs.YtmnlaijggoojkaaGreatDoor

namespace Go.Proofs.YtmnlaijggoojkaaGreatDoor
open Go.RowKit Go.Proofs

theorem plain_may {s r : List UInt8} {a : Adr} (h : plainP s = some (a, r)) : checkA a.1 a.2 = 0 := by
  unfold plainP at h
  split at h
  · cases h
  · split at h
    · next hc => cases h; exact hc
    · cases h
theorem address_may {s r : List UInt8} {a : Adr} (h : addressP s = some (a, r)) : checkA a.1 a.2 = 0 := by
  unfold addressP at h
  rw [Option.map_eq_some_iff] at h
  obtain ⟨⟨a1, r1⟩, h1, h2⟩ := h
  cases h2
  split at h1
  · exact plain_may h1
  · unfold namedP at h1
    simp only [Option.bind_eq_some_iff, Option.map_eq_some_iff] at h1
    obtain ⟨r1, _, r2, _, ⟨a3, r3⟩, h3, r4, _, h5⟩ := h1
    cases h5
    exact plain_may h3
theorem listF_may : ∀ (n : Nat) (s : List UInt8) (l : List Adr), listF n s = some l → ∀ x ∈ l, checkA x.1 x.2 = 0 := by
  intro n
  induction n with
  | zero => intro s l h; cases h
  | succ n ih =>
    intro s l h x hx
    simp only [listF, Option.bind_eq_some_iff] at h
    obtain ⟨⟨a, r⟩, h1, h2⟩ := h
    split at h2
    · cases h2
      rw [List.mem_singleton.1 hx]
      exact address_may h1
    · simp only [Option.bind_eq_some_iff, Option.map_eq_some_iff] at h2
      obtain ⟨r', _, l', h3, h4⟩ := h2
      cases h4
      rcases List.mem_cons.1 hx with e | e
      · rw [e]; exact address_may h1
      · exact ih r' l' h3 x e
theorem may_short {l d : List UInt8} (h : checkA l d = 0) : l.length ≤ 100 ∧ d.length ≤ 100 := by
  unfold checkA at h
  split at h
  · cases h
  · split at h
    · cases h
    · omega
theorem listM_may {s : List UInt8} {x : Adr} (h : x ∈ (listM s).1) : checkA x.1 x.2 = 0 := by
  unfold listM at h
  split at h
  · cases h
  · split at h
    · cases h
    · next l hl =>
      split at h
      · cases h
      · exact listF_may _ _ _ hl x h
end Go.Proofs.YtmnlaijggoojkaaGreatDoor
