
/-
  Plain facts on addresses: what may be in an atom, what is dotted, how a list of addresses is read. No program is named here.
  Plain facts on lists of addresses that the keeping laws lean on. No program is named here.
  Plain facts on addresses: what is read of a list may be. No program is named here.
-/
import Derived.WalkKit
import Derived.Test.YtkciflocpelhiaaGreatDoorPure
namespace Go.Proofs.YtkciflocpelhiaaGreatDoor
open Go.RowKit

def marksL : List UInt8 := [33, 35, 36, 37, 38, 39, 42, 43, 45, 47, 61, 63, 94, 95, 96, 123, 124, 125, 126]
/-- P3.1: a byte of an atom. -/
def atomB (c : UInt8) : Bool := (decide (97 ≤ c.toNat) && decide (c.toNat ≤ 122)) || (decide (65 ≤ c.toNat) && decide (c.toNat ≤ 90)) || (decide (48 ≤ c.toNat) && decide (c.toNat ≤ 57)) || marksL.contains c
def runB (c : UInt8) : Bool := c == 46 || atomB c

/-- Whether a text is dotted, the byte ahead of it being a dot (or none) or not. -/
def dotS : Bool → List UInt8 → Bool
  | b, [] => !b
  | b, c :: t => if c = 46 then !b && dotS true t else atomB c && dotS false t
def dottedB (l : List UInt8) : Bool := dotS true l
def atomL (l : List UInt8) : Bool := !l.isEmpty && l.all atomB

theorem dotS_plain {p : List UInt8} (h : 46 ∉ p) (b : Bool) : dotS b p = if p.isEmpty then !b else p.all atomB := by
  induction p generalizing b with
  | nil => simp [dotS]
  | cons c t ih =>
    simp only [List.mem_cons, not_or] at h
    have hc : ¬ c = 46 := fun e => h.1 e.symm
    simp only [dotS, if_neg hc, ih h.2, List.isEmpty_cons, List.all_cons]
    cases t <;> simp
theorem dotS_cut {p : List UInt8} (h : 46 ∉ p) (b : Bool) (t : List UInt8) : dotS b (p ++ 46 :: t) = ((if p.isEmpty then !b else p.all atomB) && dotS true t) := by
  induction p generalizing b with
  | nil => simp [dotS]
  | cons c u ih =>
    simp only [List.mem_cons, not_or] at h
    have hc : ¬ c = 46 := fun e => h.1 e.symm
    simp only [List.cons_append, dotS, if_neg hc, ih h.2, List.isEmpty_cons, List.all_cons]
    cases u <;> simp [Bool.and_assoc]
theorem dotted_plain {p : List UInt8} (h : 46 ∉ p) : dottedB p = atomL p := by
  unfold dottedB atomL
  rw [dotS_plain h]
  cases p <;> simp
theorem dotted_cut {p : List UInt8} (h : 46 ∉ p) (t : List UInt8) : dottedB (p ++ 46 :: t) = (atomL p && dottedB t) := by
  unfold dottedB atomL
  rw [dotS_cut h]
  cases p <;> simp

/-- P3.2. -/
def checkA (l d : List UInt8) : Int := if (dottedB l && dottedB d) = false then 3 else if 100 < l.length + 1 + d.length then 1 else 0

/- P3.4. -/
def wblanks (s : List UInt8) : List UInt8 := s.dropWhile blankB
def wrun (s : List UInt8) : List UInt8 := s.takeWhile runB
def wrest (s : List UInt8) : List UInt8 := s.dropWhile runB
theorem wrun_rest (s : List UInt8) : wrun s ++ wrest s = s := List.takeWhile_append_dropWhile
theorem wblanks_len (s : List UInt8) : (wblanks s).length ≤ s.length := (List.dropWhile_suffix _).length_le
theorem wrest_len (s : List UInt8) : (wrest s).length ≤ s.length := (List.dropWhile_suffix _).length_le

abbrev Adr := List UInt8 × List UInt8
def takeP (c : UInt8) : List UInt8 → Option (List UInt8)
  | [] => none
  | x :: t => if x = c then some t else none
theorem takeP_some {c : UInt8} {s r : List UInt8} (h : takeP c s = some r) : s = c :: r := by
  cases s with
  | nil => cases h
  | cons x t =>
    by_cases e : x = c
    · simp only [takeP, if_pos e, Option.some.injEq] at h; rw [e, h]
    · simp only [takeP, if_neg e] at h; cases h
/-- Something quoted, behind its first sign; behind a backslash, or not. -/
def quoteS : Bool → List UInt8 → Option (List UInt8)
  | _, [] => none
  | true, c :: t => if c = 34 ∨ c = 92 then quoteS false t else none
  | false, c :: t => if c = 34 then some t else if c = 92 then quoteS true t else quoteS false t
theorem quoteS_len {b : Bool} {s r : List UInt8} (h : quoteS b s = some r) : r.length < s.length := by
  induction s generalizing b with
  | nil => cases b <;> cases h
  | cons c t ih =>
    cases b with
    | true =>
      unfold quoteS at h
      split at h
      · have := ih h; simp; omega
      · cases h
    | false =>
      unfold quoteS at h
      split at h
      · cases h; simp
      · split at h <;> (have := ih h; simp; omega)

def plainP (s : List UInt8) : Option (Adr × List UInt8) :=
  match takeP 64 (wrest s) with
  | none => none
  | some r => if checkA (wrun s) (wrun r) = 0 then some ((wrun s, wrun r), wrest r) else none
theorem plainP_len {s r : List UInt8} {a : Adr} (h : plainP s = some (a, r)) : r.length ≤ s.length := by
  unfold plainP at h
  split at h
  · cases h
  · rename_i r' hr
    split at h
    · cases h
      have h1 := takeP_some hr
      have h2 := wrest_len s
      rw [h1] at h2
      have h3 := wrest_len r'
      simp at h2; omega
    · cases h
/-- Words, and the blanks between and behind them. -/
def wordsF : Nat → List UInt8 → Option (List UInt8)
  | 0, s => some s
  | _ + 1, [] => some []
  | n + 1, c :: t =>
    if c = 34 then (quoteS false t).bind fun r => wordsF n (wblanks r)
    else if runB c then wordsF n (wblanks (wrest t)) else some (c :: t)
theorem wordsF_more : ∀ (n m : Nat) (s : List UInt8), s.length ≤ n → s.length ≤ m → wordsF n s = wordsF m s := by
  intro n
  induction n with
  | zero =>
    intro m s h1 _
    have e : s = [] := List.length_eq_zero_iff.1 (by omega)
    subst e
    cases m <;> rfl
  | succ n ih =>
    intro m s h1 h2
    cases s with
    | nil => cases m <;> rfl
    | cons c t =>
      cases m with
      | zero => simp at h2
      | succ m =>
        simp only [List.length_cons] at h1 h2
        have h3 := wrest_len t
        have h4 := wblanks_len (wrest t)
        simp only [wordsF]
        rw [ih m (wblanks (wrest t)) (by omega) (by omega)]
        cases hq : quoteS false t with
        | none => rfl
        | some q =>
          have k1 := quoteS_len hq
          have k2 := wblanks_len q
          simp only [Option.bind_some]
          rw [ih m (wblanks q) (by omega) (by omega)]
def wordsP (s : List UInt8) : Option (List UInt8) := wordsF s.length s
theorem wordsP_nil : wordsP [] = some [] := rfl
theorem wordsP_quote (t : List UInt8) : wordsP (34 :: t) = (quoteS false t).bind fun r => wordsP (wblanks r) := by
  show wordsF (t.length + 1) (34 :: t) = _
  simp only [wordsF, if_true]
  cases hq : quoteS false t with
  | none => rfl
  | some q =>
    have k1 := quoteS_len hq
    have k2 := wblanks_len q
    exact wordsF_more _ _ _ (by omega) (Nat.le_refl _)
theorem wordsP_run {c : UInt8} {t : List UInt8} (h : c ≠ 34) (hr : runB c = true) : wordsP (c :: t) = wordsP (wblanks (wrest (c :: t))) := by
  have e : wrest (c :: t) = wrest t := by unfold wrest; rw [List.dropWhile_cons, if_pos hr]
  have h3 := wrest_len t
  have h4 := wblanks_len (wrest t)
  rw [e]
  show wordsF (t.length + 1) (c :: t) = _
  simp only [wordsF, if_neg h, if_pos hr]
  exact wordsF_more _ _ _ (by omega) (Nat.le_refl _)
theorem wordsP_stop {c : UInt8} {t : List UInt8} (h : c ≠ 34) (hr : runB c = false) : wordsP (c :: t) = some (c :: t) := by
  show wordsF (t.length + 1) (c :: t) = _
  simp [wordsF, if_neg h, hr]
theorem wordsP_len (n : Nat) : ∀ (s r : List UInt8), s.length ≤ n → wordsP s = some r → r.length ≤ s.length := by
  induction n with
  | zero =>
    intro s r hn h
    cases s with
    | nil => rw [wordsP_nil] at h; cases h; simp
    | cons c t => simp at hn
  | succ n ih =>
    intro s r hn h
    cases s with
    | nil => rw [wordsP_nil] at h; cases h; simp
    | cons c t =>
      simp only [List.length_cons] at hn
      by_cases hc : c = 34
      · subst hc
        rw [wordsP_quote] at h
        cases hq : quoteS false t with
        | none => rw [hq] at h; cases h
        | some q =>
          rw [hq] at h
          have h1 := quoteS_len hq
          have h2 := wblanks_len q
          have h3 := ih _ _ (by omega) h
          simp; omega
      · cases hr : runB c with
        | true =>
          rw [wordsP_run hc hr] at h
          have e : wrest (c :: t) = wrest t := by unfold wrest; rw [List.dropWhile_cons, if_pos hr]
          rw [e] at h
          have h1 := wrest_len t
          have h2 := wblanks_len (wrest t)
          have h3 := ih _ _ (by omega) h
          simp; omega
        | false =>
          rw [wordsP_stop hc hr] at h
          cases h; simp
def namedP (s : List UInt8) : Option (Adr × List UInt8) :=
  (wordsP s).bind fun r => (takeP 60 r).bind fun r => (plainP r).bind fun x => (takeP 62 x.2).map fun r => (x.1, r)
theorem namedP_len {s r : List UInt8} {a : Adr} (h : namedP s = some (a, r)) : r.length ≤ s.length := by
  unfold namedP at h
  simp only [Option.bind_eq_some_iff, Option.map_eq_some_iff] at h
  obtain ⟨r1, h1, r2, h2, ⟨a3, r3⟩, h3, r4, h4, h5⟩ := h
  cases h5
  have k1 := wordsP_len _ _ _ (Nat.le_refl _) h1
  have k2 := congrArg List.length (takeP_some h2)
  have k3 := plainP_len h3
  have k4 := congrArg List.length (takeP_some h4)
  simp at k2 k4 k3; omega
def addressP (s : List UInt8) : Option (Adr × List UInt8) :=
  (if (takeP 64 (wrest (wblanks s))).isSome then plainP (wblanks s) else namedP (wblanks s)).map fun x => (x.1, wblanks x.2)
theorem addressP_len {s r : List UInt8} {a : Adr} (h : addressP s = some (a, r)) : r.length ≤ s.length := by
  unfold addressP at h
  rw [Option.map_eq_some_iff] at h
  obtain ⟨⟨a1, r1⟩, h1, h2⟩ := h
  cases h2
  have k1 := wblanks_len s
  have k2 := wblanks_len r1
  split at h1
  · have := plainP_len h1; simp only at *; omega
  · have := namedP_len h1; simp only at *; omega
def listF : Nat → List UInt8 → Option (List Adr)
  | 0, _ => none
  | n + 1, s => (addressP s).bind fun x => if x.2 = [] then some [x.1] else (takeP 44 x.2).bind fun r => (listF n r).map (x.1 :: ·)
theorem listF_more : ∀ (n m : Nat) (s : List UInt8), s.length < n → s.length < m → listF n s = listF m s := by
  intro n
  induction n with
  | zero => intro m s h1; omega
  | succ n ih =>
    intro m s h1 h2
    cases m with
    | zero => omega
    | succ m =>
      simp only [listF]
      cases ha : addressP s with
      | none => rfl
      | some x =>
        have k1 := addressP_len (a := x.1) (r := x.2) ha
        simp only [Option.bind_some]
        split
        · rfl
        · cases ht : takeP 44 x.2 with
          | none => rfl
          | some r =>
            have k2 := congrArg List.length (takeP_some ht)
            simp only [List.length_cons] at k2
            simp only [Option.bind_some]
            rw [ih m r (by omega) (by omega)]
def listP (s : List UInt8) : Option (List Adr) := listF (s.length + 1) s
theorem listP_none {s : List UInt8} (h : addressP s = none) : listP s = none := by
  unfold listP; simp only [listF, h]; rfl
theorem listP_one {s : List UInt8} {a : Adr} (h : addressP s = some (a, [])) : listP s = some [a] := by
  unfold listP; simp only [listF, h]; rfl
theorem listP_odd {s r : List UInt8} {a : Adr} (h : addressP s = some (a, r)) (hr : r ≠ []) (h3 : takeP 44 r = none) : listP s = none := by
  unfold listP; simp only [listF, h, Option.bind_some, if_neg hr, h3]; rfl
theorem listP_more {s r : List UInt8} {a : Adr} (h : addressP s = some (a, 44 :: r)) : listP s = (listP r).map (a :: ·) := by
  have k1 := addressP_len h
  simp only [List.length_cons] at k1
  show listF (s.length + 1) s = (listF (r.length + 1) r).map _
  have e : takeP 44 (44 :: r) = some r := by simp [takeP]
  rw [listF, h, Option.bind_some, if_neg (by simp), e, Option.bind_some, listF_more s.length (r.length + 1) r (by omega) (by omega)]
def listM (s : List UInt8) : List Adr × Int :=
  if 2000 < s.length then ([], 1) else match listP s with
    | none => ([], 3)
    | some l => if 20 < l.length then ([], 5) else (l, 0)
end Go.Proofs.YtkciflocpelhiaaGreatDoor

namespace Go.Proofs.YtkciflocpelhiaaGreatDoor
open Go.RowKit

/-- A word of the laws: one to eight small letters. -/
def wordy (l : List UInt8) : Prop := l ≠ [] ∧ l.length ≤ 8 ∧ ∀ c ∈ l, 97 ≤ c.toNat ∧ c.toNat ≤ 122
theorem letter_atom {c : UInt8} (h : 97 ≤ c.toNat ∧ c.toNat ≤ 122) : atomB c = true := by unfold atomB; simp [h.1, h.2]
def orgL : List UInt8 := [46, 111, 114, 103]
/-- Letters and dots: what a Local and a Domain of the laws are made of. -/
def letters (l : List UInt8) : Prop := ∀ c ∈ l, (97 ≤ c.toNat ∧ c.toNat ≤ 122) ∨ c = 46
theorem wordy.letters {l : List UInt8} (h : wordy l) : letters l := fun c hc => Or.inl (h.2.2 c hc)
theorem wordy.org {l : List UInt8} (h : wordy l) : Go.Proofs.YtkciflocpelhiaaGreatDoor.letters (l ++ orgL) := by
  intro c hc
  rcases List.mem_append.1 hc with hc | hc
  · exact Or.inl (h.2.2 c hc)
  · simp [orgL] at hc
    rcases hc with rfl | rfl | rfl | rfl <;> decide
theorem wordy_dotted {l : List UInt8} (h : wordy l) : dottedB l = true := by
  rw [dotted_plain (fun hc => by have := h.2.2 46 hc; simp at this)]
  unfold atomL
  obtain ⟨h1, _, h2⟩ := h
  have e : l.isEmpty = false := by cases l <;> simp_all
  rw [e]
  simp only [Bool.not_false, Bool.true_and, List.all_eq_true]
  exact fun c hc => letter_atom (h2 c hc)
theorem wordy_org {l : List UInt8} (h : wordy l) : dottedB (l ++ orgL) = true := by
  have e := wordy_dotted h
  have h0 : 46 ∉ l := fun hc => by have := h.2.2 46 hc; simp at this
  rw [dotted_plain h0] at e
  show dottedB (l ++ 46 :: [111, 114, 103]) = true
  rw [dotted_cut h0, e]
  decide
/-- An address of the laws. -/
def lawful (a : Adr) : Prop := wordy a.1 ∧ ∃ d, wordy d ∧ a.2 = d ++ orgL
theorem lawful.check {a : Adr} (h : lawful a) : checkA a.1 a.2 = 0 := by
  obtain ⟨h1, d, h2, h3⟩ := h
  unfold checkA
  rw [h3, wordy_dotted h1, wordy_org h2]
  have l1 := h1.2.1
  have l2 := h2.2.1
  simp [orgL]
  omega
theorem lawful.len {a : Adr} (h : lawful a) : a.1.length ≤ 8 ∧ a.2.length ≤ 12 := by
  obtain ⟨h1, d, h2, h3⟩ := h
  have l1 := h1.2.1
  have l2 := h2.2.1
  rw [h3]; simp [orgL]; omega
theorem lawful.letters {a : Adr} (h : lawful a) : letters a.1 ∧ Go.Proofs.YtkciflocpelhiaaGreatDoor.letters a.2 := by
  obtain ⟨h1, d, h2, h3⟩ := h
  rw [h3]; exact ⟨h1.letters, h2.org⟩
/-- What an address is put together of. -/
def textA (a : Adr) : List UInt8 := a.1 ++ 64 :: a.2
theorem lawful.size {a : Adr} (h : lawful a) : (textA a).length ≤ 21 := by
  have := h.len
  simp [textA]; omega

/- WhoMany. -/
structure Man where
  adr : Adr
  word : List UInt8
  kind : Nat
  sep : Nat
def Man.ok (x : Man) : Prop := lawful x.adr ∧ wordy x.word
/- WhoFull. -/
end Go.Proofs.YtkciflocpelhiaaGreatDoor

namespace Go.Proofs.YtkciflocpelhiaaGreatDoor
open Go.RowKit Go.Proofs

theorem plain_may {s r : List UInt8} {a : Adr} (h : plainP s = some (a, r)) : checkA a.1 a.2 = 0 := by
  unfold plainP at h
  split at h
  · cases h
  · split at h
    · next hc => cases h; exact hc
    · cases h
theorem address_may {s r : List UInt8} {a : Adr} (h : addressP s = some (a, r)) : checkA a.1 a.2 = 0 := by
  unfold addressP at h
  rw [Option.map_eq_some_iff] at h
  obtain ⟨⟨a1, r1⟩, h1, h2⟩ := h
  cases h2
  split at h1
  · exact plain_may h1
  · unfold namedP at h1
    simp only [Option.bind_eq_some_iff, Option.map_eq_some_iff] at h1
    obtain ⟨r1, _, r2, _, ⟨a3, r3⟩, h3, r4, _, h5⟩ := h1
    cases h5
    exact plain_may h3
theorem listF_may : ∀ (n : Nat) (s : List UInt8) (l : List Adr), listF n s = some l → ∀ x ∈ l, checkA x.1 x.2 = 0 := by
  intro n
  induction n with
  | zero => intro s l h; cases h
  | succ n ih =>
    intro s l h x hx
    simp only [listF, Option.bind_eq_some_iff] at h
    obtain ⟨⟨a, r⟩, h1, h2⟩ := h
    split at h2
    · cases h2
      rw [List.mem_singleton.1 hx]
      exact address_may h1
    · simp only [Option.bind_eq_some_iff, Option.map_eq_some_iff] at h2
      obtain ⟨r', _, l', h3, h4⟩ := h2
      cases h4
      rcases List.mem_cons.1 hx with e | e
      · rw [e]; exact address_may h1
      · exact ih r' l' h3 x e
theorem may_short {l d : List UInt8} (h : checkA l d = 0) : l.length ≤ 100 ∧ d.length ≤ 100 := by
  unfold checkA at h
  split at h
  · cases h
  · split at h
    · cases h
    · omega
theorem listM_may {s : List UInt8} {x : Adr} (h : x ∈ (listM s).1) : checkA x.1 x.2 = 0 := by
  unfold listM at h
  split at h
  · cases h
  · split at h
    · cases h
    · next l hl =>
      split at h
      · cases h
      · exact listF_may _ _ _ hl x h
end Go.Proofs.YtkciflocpelhiaaGreatDoor
