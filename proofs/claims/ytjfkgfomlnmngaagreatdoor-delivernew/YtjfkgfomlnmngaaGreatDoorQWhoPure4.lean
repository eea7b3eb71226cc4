/-
  Plain facts on addresses: what may be in an atom, what is dotted, how a list of addresses is read. No program is named here.
  Plain facts on lists of addresses that the keeping laws lean on. No program is named here.
  Plain facts on addresses: what is read of a list may be. No program is named here.
  Plain facts on scripts that are allowed: flags, names of boxes, what is required. No program is named here.
  Plain facts on the tests and commands that the laws make: they may be, and are short.
  Plain facts on texts of lists of bytes (empty or not, their pieces) and on worlds. No program is named here.
  What rule.Name does: the walk.
-/
import Derived.WalkKit
import Derived.Test.YtjfkgfomlnmngaaGreatDoorQPure2
import Derived.Lib.Strings
import Derived.Below
import Derived.Deep.Draws
import Derived.Test.YtjfkgfomlnmngaaGreatDoorRows
namespace Go.Proofs.YtjfkgfomlnmngaaGreatDoor
open Go.RowKit

def marksL : List UInt8 := [33, 35, 36, 37, 38, 39, 42, 43, 45, 47, 61, 63, 94, 95, 96, 123, 124, 125, 126]
/-- P3.1: a byte of an atom. -/
def atomB (c : UInt8) : Bool := (decide (97 ≤ c.toNat) && decide (c.toNat ≤ 122)) || (decide (65 ≤ c.toNat) && decide (c.toNat ≤ 90)) || (decide (48 ≤ c.toNat) && decide (c.toNat ≤ 57)) || marksL.contains c
def runB (c : UInt8) : Bool := c == 46 || atomB c

/-- Whether a text is dotted, the byte ahead of it being a dot (or none) or not. -/
def dotS : Bool → List UInt8 → Bool
  | b, [] => !b
  | b, c :: t => if c = 46 then !b && dotS true t else atomB c && dotS false t
def dottedB (l : List UInt8) : Bool := dotS true l
def atomL (l : List UInt8) : Bool := !l.isEmpty && l.all atomB

theorem dotS_plain {p : List UInt8} (h : 46 ∉ p) (b : Bool) : dotS b p = if p.isEmpty then !b else p.all atomB := by
  induction p generalizing b with
  | nil => simp [dotS]
  | cons c t ih =>
    simp only [List.mem_cons, not_or] at h
    have hc : ¬ c = 46 := fun e => h.1 e.symm
    simp only [dotS, if_neg hc, ih h.2, List.isEmpty_cons, List.all_cons]
    cases t <;> simp
theorem dotS_cut {p : List UInt8} (h : 46 ∉ p) (b : Bool) (t : List UInt8) : dotS b (p ++ 46 :: t) = ((if p.isEmpty then !b else p.all atomB) && dotS true t) := by
  induction p generalizing b with
  | nil => simp [dotS]
  | cons c u ih =>
    simp only [List.mem_cons, not_or] at h
    have hc : ¬ c = 46 := fun e => h.1 e.symm
    simp only [List.cons_append, dotS, if_neg hc, ih h.2, List.isEmpty_cons, List.all_cons]
    cases u <;> simp [Bool.and_assoc]
theorem dotted_plain {p : List UInt8} (h : 46 ∉ p) : dottedB p = atomL p := by
  unfold dottedB atomL
  rw [dotS_plain h]
  cases p <;> simp
theorem dotted_cut {p : List UInt8} (h : 46 ∉ p) (t : List UInt8) : dottedB (p ++ 46 :: t) = (atomL p && dottedB t) := by
  unfold dottedB atomL
  rw [dotS_cut h]
  cases p <;> simp

/-- P3.2. -/
def checkA (l d : List UInt8) : Int := if (dottedB l && dottedB d) = false then 3 else if 100 < l.length + 1 + d.length then 1 else 0

/- P3.4. -/
def wblanks (s : List UInt8) : List UInt8 := s.dropWhile blankB
def wrun (s : List UInt8) : List UInt8 := s.takeWhile runB
def wrest (s : List UInt8) : List UInt8 := s.dropWhile runB
theorem wrun_rest (s : List UInt8) : wrun s ++ wrest s = s := List.takeWhile_append_dropWhile
theorem wblanks_len (s : List UInt8) : (wblanks s).length ≤ s.length := (List.dropWhile_suffix _).length_le
theorem wrest_len (s : List UInt8) : (wrest s).length ≤ s.length := (List.dropWhile_suffix _).length_le

abbrev Adr := List UInt8 × List UInt8
def takeP (c : UInt8) : List UInt8 → Option (List UInt8)
  | [] => none
  | x :: t => if x = c then some t else none
theorem takeP_some {c : UInt8} {s r : List UInt8} (h : takeP c s = some r) : s = c :: r := by
  cases s with
  | nil => cases h
  | cons x t =>
    by_cases e : x = c
    · simp only [takeP, if_pos e, Option.some.injEq] at h; rw [e, h]
    · simp only [takeP, if_neg e] at h; cases h
/-- Something quoted, behind its first sign; behind a backslash, or not. -/
def quoteS : Bool → List UInt8 → Option (List UInt8)
  | _, [] => none
  | true, c :: t => if c = 34 ∨ c = 92 then quoteS false t else none
  | false, c :: t => if c = 34 then some t else if c = 92 then quoteS true t else quoteS false t
theorem quoteS_len {b : Bool} {s r : List UInt8} (h : quoteS b s = some r) : r.length < s.length := by
  induction s generalizing b with
  | nil => cases b <;> cases h
  | cons c t ih =>
    cases b with
    | true =>
      unfold quoteS at h
      split at h
      · have := ih h; simp; omega
      · cases h
    | false =>
      unfold quoteS at h
      split at h
      · cases h; simp
      · split at h <;> (have := ih h; simp; omega)

def plainP (s : List UInt8) : Option (Adr × List UInt8) :=
  match takeP 64 (wrest s) with
  | none => none
  | some r => if checkA (wrun s) (wrun r) = 0 then some ((wrun s, wrun r), wrest r) else none
theorem plainP_len {s r : List UInt8} {a : Adr} (h : plainP s = some (a, r)) : r.length ≤ s.length := by
  unfold plainP at h
  split at h
  · cases h
  · rename_i r' hr
    split at h
    · cases h
      have h1 := takeP_some hr
      have h2 := wrest_len s
      rw [h1] at h2
      have h3 := wrest_len r'
      simp at h2; omega
    · cases h
/-- Words, and the blanks between and behind them. -/
def wordsF : Nat → List UInt8 → Option (List UInt8)
  | 0, s => some s
  | _ + 1, [] => some []
  | n + 1, c :: t =>
    if c = 34 then (quoteS false t).bind fun r => wordsF n (wblanks r)
    else if runB c then wordsF n (wblanks (wrest t)) else some (c :: t)
theorem wordsF_more : ∀ (n m : Nat) (s : List UInt8), s.length ≤ n → s.length ≤ m → wordsF n s = wordsF m s := by
  intro n
  induction n with
  | zero =>
    intro m s h1 _
    have e : s = [] := List.length_eq_zero_iff.1 (by omega)
    subst e
    cases m <;> rfl
  | succ n ih =>
    intro m s h1 h2
    cases s with
    | nil => cases m <;> rfl
    | cons c t =>
      cases m with
      | zero => simp at h2
      | succ m =>
        simp only [List.length_cons] at h1 h2
        have h3 := wrest_len t
        have h4 := wblanks_len (wrest t)
        simp only [wordsF]
        rw [ih m (wblanks (wrest t)) (by omega) (by omega)]
        cases hq : quoteS false t with
        | none => rfl
        | some q =>
          have k1 := quoteS_len hq
          have k2 := wblanks_len q
          simp only [Option.bind_some]
          rw [ih m (wblanks q) (by omega) (by omega)]
def wordsP (s : List UInt8) : Option (List UInt8) := wordsF s.length s
theorem wordsP_nil : wordsP [] = some [] := rfl
theorem wordsP_quote (t : List UInt8) : wordsP (34 :: t) = (quoteS false t).bind fun r => wordsP (wblanks r) := by
  show wordsF (t.length + 1) (34 :: t) = _
  simp only [wordsF, if_true]
  cases hq : quoteS false t with
  | none => rfl
  | some q =>
    have k1 := quoteS_len hq
    have k2 := wblanks_len q
    exact wordsF_more _ _ _ (by omega) (Nat.le_refl _)
theorem wordsP_run {c : UInt8} {t : List UInt8} (h : c ≠ 34) (hr : runB c = true) : wordsP (c :: t) = wordsP (wblanks (wrest (c :: t))) := by
  have e : wrest (c :: t) = wrest t := by unfold wrest; rw [List.dropWhile_cons, if_pos hr]
  have h3 := wrest_len t
  have h4 := wblanks_len (wrest t)
  rw [e]
  show wordsF (t.length + 1) (c :: t) = _
  simp only [wordsF, if_neg h, if_pos hr]
  exact wordsF_more _ _ _ (by omega) (Nat.le_refl _)
theorem wordsP_stop {c : UInt8} {t : List UInt8} (h : c ≠ 34) (hr : runB c = false) : wordsP (c :: t) = some (c :: t) := by
  show wordsF (t.length + 1) (c :: t) = _
  simp [wordsF, if_neg h, hr]
theorem wordsP_len (n : Nat) : ∀ (s r : List UInt8), s.length ≤ n → wordsP s = some r → r.length ≤ s.length := by
  induction n with
  | zero =>
    intro s r hn h
    cases s with
    | nil => rw [wordsP_nil] at h; cases h; simp
    | cons c t => simp at hn
  | succ n ih =>
    intro s r hn h
    cases s with
    | nil => rw [wordsP_nil] at h; cases h; simp
    | cons c t =>
      simp only [List.length_cons] at hn
      by_cases hc : c = 34
      · subst hc
        rw [wordsP_quote] at h
        cases hq : quoteS false t with
        | none => rw [hq] at h; cases h
        | some q =>
          rw [hq] at h
          have h1 := quoteS_len hq
          have h2 := wblanks_len q
          have h3 := ih _ _ (by omega) h
          simp; omega
      · cases hr : runB c with
        | true =>
          rw [wordsP_run hc hr] at h
          have e : wrest (c :: t) = wrest t := by unfold wrest; rw [List.dropWhile_cons, if_pos hr]
          rw [e] at h
          have h1 := wrest_len t
          have h2 := wblanks_len (wrest t)
          have h3 := ih _ _ (by omega) h
          simp; omega
        | false =>
          rw [wordsP_stop hc hr] at h
          cases h; simp
def namedP (s : List UInt8) : Option (Adr × List UInt8) :=
  (wordsP s).bind fun r => (takeP 60 r).bind fun r => (plainP r).bind fun x => (takeP 62 x.2).map fun r => (x.1, r)
theorem namedP_len {s r : List UInt8} {a : Adr} (h : namedP s = some (a, r)) : r.length ≤ s.length := by
  unfold namedP at h
  simp only [Option.bind_eq_some_iff, Option.map_eq_some_iff] at h
  obtain ⟨r1, h1, r2, h2, ⟨a3, r3⟩, h3, r4, h4, h5⟩ := h
  cases h5
  have k1 := wordsP_len _ _ _ (Nat.le_refl _) h1
  have k2 := congrArg List.length (takeP_some h2)
  have k3 := plainP_len h3
  have k4 := congrArg List.length (takeP_some h4)
  simp at k2 k4 k3; omega
def addressP (s : List UInt8) : Option (Adr × List UInt8) :=
  (if (takeP 64 (wrest (wblanks s))).isSome then plainP (wblanks s) else namedP (wblanks s)).map fun x => (x.1, wblanks x.2)
theorem addressP_len {s r : List UInt8} {a : Adr} (h : addressP s = some (a, r)) : r.length ≤ s.length := by
  unfold addressP at h
  rw [Option.map_eq_some_iff] at h
  obtain ⟨⟨a1, r1⟩, h1, h2⟩ := h
  cases h2
  have k1 := wblanks_len s
  have k2 := wblanks_len r1
  split at h1
  · have := plainP_len h1; simp only at *; omega
  · have := namedP_len h1; simp only at *; omega
def listF : Nat → List UInt8 → Option (List Adr)
  | 0, _ => none
  | n + 1, s => (addressP s).bind fun x => if x.2 = [] then some [x.1] else (takeP 44 x.2).bind fun r => (listF n r).map (x.1 :: ·)
theorem listF_more : ∀ (n m : Nat) (s : List UInt8), s.length < n → s.length < m → listF n s = listF m s := by
  intro n
  induction n with
  | zero => intro m s h1; omega
  | succ n ih =>
    intro m s h1 h2
    cases m with
    | zero => omega
    | succ m =>
      simp only [listF]
      cases ha : addressP s with
      | none => rfl
      | some x =>
        have k1 := addressP_len (a := x.1) (r := x.2) ha
        simp only [Option.bind_some]
        split
        · rfl
        · cases ht : takeP 44 x.2 with
          | none => rfl
          | some r =>
            have k2 := congrArg List.length (takeP_some ht)
            simp only [List.length_cons] at k2
            simp only [Option.bind_some]
            rw [ih m r (by omega) (by omega)]
def listP (s : List UInt8) : Option (List Adr) := listF (s.length + 1) s
theorem listP_none {s : List UInt8} (h : addressP s = none) : listP s = none := by
  unfold listP; simp only [listF, h]; rfl
theorem listP_one {s : List UInt8} {a : Adr} (h : addressP s = some (a, [])) : listP s = some [a] := by
  unfold listP; simp only [listF, h]; rfl
theorem listP_odd {s r : List UInt8} {a : Adr} (h : addressP s = some (a, r)) (hr : r ≠ []) (h3 : takeP 44 r = none) : listP s = none := by
  unfold listP; simp only [listF, h, Option.bind_some, if_neg hr, h3]; rfl
theorem listP_more {s r : List UInt8} {a : Adr} (h : addressP s = some (a, 44 :: r)) : listP s = (listP r).map (a :: ·) := by
  have k1 := addressP_len h
  simp only [List.length_cons] at k1
  show listF (s.length + 1) s = (listF (r.length + 1) r).map _
  have e : takeP 44 (44 :: r) = some r := by simp [takeP]
  rw [listF, h, Option.bind_some, if_neg (by simp), e, Option.bind_some, listF_more s.length (r.length + 1) r (by omega) (by omega)]
def listM (s : List UInt8) : List Adr × Int :=
  if 2000 < s.length then ([], 1) else match listP s with
    | none => ([], 3)
    | some l => if 20 < l.length then ([], 5) else (l, 0)
end Go.Proofs.YtjfkgfomlnmngaaGreatDoor

namespace Go.Proofs.YtjfkgfomlnmngaaGreatDoor
open Go.RowKit

/-- A word of the laws: one to eight small letters. -/
def wordy (l : List UInt8) : Prop := l ≠ [] ∧ l.length ≤ 8 ∧ ∀ c ∈ l, 97 ≤ c.toNat ∧ c.toNat ≤ 122
theorem letter_atom {c : UInt8} (h : 97 ≤ c.toNat ∧ c.toNat ≤ 122) : atomB c = true := by unfold atomB; simp [h.1, h.2]
def orgL : List UInt8 := [46, 111, 114, 103]
/-- Letters and dots: what a Local and a Domain of the laws are made of. -/
def letters (l : List UInt8) : Prop := ∀ c ∈ l, (97 ≤ c.toNat ∧ c.toNat ≤ 122) ∨ c = 46
theorem wordy.letters {l : List UInt8} (h : wordy l) : letters l := fun c hc => Or.inl (h.2.2 c hc)
theorem wordy.org {l : List UInt8} (h : wordy l) : Go.Proofs.YtjfkgfomlnmngaaGreatDoor.letters (l ++ orgL) := by
  intro c hc
  rcases List.mem_append.1 hc with hc | hc
  · exact Or.inl (h.2.2 c hc)
  · simp [orgL] at hc
    rcases hc with rfl | rfl | rfl | rfl <;> decide
theorem wordy_dotted {l : List UInt8} (h : wordy l) : dottedB l = true := by
  rw [dotted_plain (fun hc => by have := h.2.2 46 hc; simp at this)]
  unfold atomL
  obtain ⟨h1, _, h2⟩ := h
  have e : l.isEmpty = false := by cases l <;> simp_all
  rw [e]
  simp only [Bool.not_false, Bool.true_and, List.all_eq_true]
  exact fun c hc => letter_atom (h2 c hc)
theorem wordy_org {l : List UInt8} (h : wordy l) : dottedB (l ++ orgL) = true := by
  have e := wordy_dotted h
  have h0 : 46 ∉ l := fun hc => by have := h.2.2 46 hc; simp at this
  rw [dotted_plain h0] at e
  show dottedB (l ++ 46 :: [111, 114, 103]) = true
  rw [dotted_cut h0, e]
  decide
/-- An address of the laws. -/
def lawful (a : Adr) : Prop := wordy a.1 ∧ ∃ d, wordy d ∧ a.2 = d ++ orgL
theorem lawful.check {a : Adr} (h : lawful a) : checkA a.1 a.2 = 0 := by
  obtain ⟨h1, d, h2, h3⟩ := h
  unfold checkA
  rw [h3, wordy_dotted h1, wordy_org h2]
  have l1 := h1.2.1
  have l2 := h2.2.1
  simp [orgL]
  omega
theorem lawful.len {a : Adr} (h : lawful a) : a.1.length ≤ 8 ∧ a.2.length ≤ 12 := by
  obtain ⟨h1, d, h2, h3⟩ := h
  have l1 := h1.2.1
  have l2 := h2.2.1
  rw [h3]; simp [orgL]; omega
theorem lawful.letters {a : Adr} (h : lawful a) : letters a.1 ∧ Go.Proofs.YtjfkgfomlnmngaaGreatDoor.letters a.2 := by
  obtain ⟨h1, d, h2, h3⟩ := h
  rw [h3]; exact ⟨h1.letters, h2.org⟩
/-- What an address is put together of. -/
def textA (a : Adr) : List UInt8 := a.1 ++ 64 :: a.2
theorem lawful.size {a : Adr} (h : lawful a) : (textA a).length ≤ 21 := by
  have := h.len
  simp [textA]; omega

/- WhoMany. -/
structure Man where
  adr : Adr
  word : List UInt8
  kind : Nat
  sep : Nat
def Man.ok (x : Man) : Prop := lawful x.adr ∧ wordy x.word
/- WhoFull. -/
end Go.Proofs.YtjfkgfomlnmngaaGreatDoor

namespace Go.Proofs.YtjfkgfomlnmngaaGreatDoor
open Go.RowKit Go.Proofs

theorem plain_may {s r : List UInt8} {a : Adr} (h : plainP s = some (a, r)) : checkA a.1 a.2 = 0 := by
  unfold plainP at h
  split at h
  · cases h
  · split at h
    · next hc => cases h; exact hc
    · cases h
theorem address_may {s r : List UInt8} {a : Adr} (h : addressP s = some (a, r)) : checkA a.1 a.2 = 0 := by
  unfold addressP at h
  rw [Option.map_eq_some_iff] at h
  obtain ⟨⟨a1, r1⟩, h1, h2⟩ := h
  cases h2
  split at h1
  · exact plain_may h1
  · unfold namedP at h1
    simp only [Option.bind_eq_some_iff, Option.map_eq_some_iff] at h1
    obtain ⟨r1, _, r2, _, ⟨a3, r3⟩, h3, r4, _, h5⟩ := h1
    cases h5
    exact plain_may h3
theorem listF_may : ∀ (n : Nat) (s : List UInt8) (l : List Adr), listF n s = some l → ∀ x ∈ l, checkA x.1 x.2 = 0 := by
  intro n
  induction n with
  | zero => intro s l h; cases h
  | succ n ih =>
    intro s l h x hx
    simp only [listF, Option.bind_eq_some_iff] at h
    obtain ⟨⟨a, r⟩, h1, h2⟩ := h
    split at h2
    · cases h2
      rw [List.mem_singleton.1 hx]
      exact address_may h1
    · simp only [Option.bind_eq_some_iff, Option.map_eq_some_iff] at h2
      obtain ⟨r', _, l', h3, h4⟩ := h2
      cases h4
      rcases List.mem_cons.1 hx with e | e
      · rw [e]; exact address_may h1
      · exact ih r' l' h3 x e
theorem may_short {l d : List UInt8} (h : checkA l d = 0) : l.length ≤ 100 ∧ d.length ≤ 100 := by
  unfold checkA at h
  split at h
  · cases h
  · split at h
    · cases h
    · omega
theorem listM_may {s : List UInt8} {x : Adr} (h : x ∈ (listM s).1) : checkA x.1 x.2 = 0 := by
  unfold listM at h
  split at h
  · cases h
  · split at h
    · cases h
    · next l hl =>
      split at h
      · cases h
      · exact listF_may _ _ _ hl x h
end Go.Proofs.YtjfkgfomlnmngaaGreatDoor
namespace Go.Proofs.YtjfkgfomlnmngaaGreatDoor
open Go.RowKit

/- P6.1. -/
def flagTab : List (List UInt8 × Nat) := [([92, 83, 101, 101, 110], 1), ([92, 65, 110, 115, 119, 101, 114, 101, 100], 2), ([92, 70, 108, 97, 103, 103, 101, 100], 4), ([92, 68, 101, 108, 101, 116, 101, 100], 8), ([92, 68, 114, 97, 102, 116], 16)]
def flagIn : List (List UInt8 × Nat) → List UInt8 → Nat
  | [], _ => 0
  | x :: r, s => if x.1 = s then x.2 else flagIn r s
/-- The flag of a name; 0: none. -/
def flagP (s : List UInt8) : Nat := flagIn flagTab s
/-- The flags of names, some of them told already. -/
def flagsG : Nat → List (List UInt8) → Option Nat
  | n, [] => some n
  | n, s :: r => if flagP s = 0 then none else flagsG (n ||| flagP s) r
def flagsP (l : List (List UInt8)) : Option Nat := flagsG 0 l
theorem flagIn_lt : ∀ (t : List (List UInt8 × Nat)) (s : List UInt8), (∀ x ∈ t, x.2 < 32) → flagIn t s < 32 := by
  intro t
  induction t with
  | nil => intro s _; show 0 < 32; omega
  | cons x t ih =>
    intro s h
    unfold flagIn
    split
    · exact h x (by simp)
    · exact ih s fun y hy => h y (by simp [hy])
theorem flagP_lt (s : List UInt8) : flagP s < 32 := flagIn_lt _ _ (by decide)
theorem lor_lt {a b : Nat} (ha : a < 32) (hb : b < 32) : a ||| b < 32 := Nat.or_lt_two_pow (n := 5) ha hb
theorem flagsG_lt : ∀ (l : List (List UInt8)) (n m : Nat), n < 32 → flagsG n l = some m → m < 32 := by
  intro l
  induction l with
  | nil => intro n m hn h; cases h; exact hn
  | cons s l ih =>
    intro n m hn h
    unfold flagsG at h
    by_cases hf : flagP s = 0
    · rw [if_pos hf] at h; cases h
    · rw [if_neg hf] at h; exact ih _ _ (lor_lt hn (flagP_lt s)) h
/- P6.2. -/
def inName (c : UInt8) : Bool := decide (33 ≤ c.toNat) && decide (c.toNat ≤ 126)
def nameP (s : List UInt8) : Int := if s.length < 1 ∨ 12 < s.length then 1 else if s.all inName then 0 else 3

/- P6.3, P6.4. -/
def fileW : List UInt8 := [102, 105, 108, 101, 105, 110, 116, 111]
def rejW : List UInt8 := [114, 101, 106, 101, 99, 116]
def envW : List UInt8 := [101, 110, 118, 101, 108, 111, 112, 101]
def flgW : List UInt8 := [105, 109, 97, 112, 52, 102, 108, 97, 103, 115]
def fromW : List UInt8 := [102, 114, 111, 109]
def toW : List UInt8 := [116, 111]
def extP (s : List UInt8) : Bool := decide (s = fileW) || decide (s = rejW) || decide (s = envW) || decide (s = flgW)
def partP (s : List UInt8) : Bool := decide (s = fromW) || decide (s = toW)
def needP (k : Int) : List UInt8 := if k = 5 then fileW else if k = 7 then rejW else if k = 8 ∨ k = 9 then flgW else []
def hasP (H : List (List UInt8)) (s : List UInt8) : Bool := s.isEmpty || H.contains s
def longP (l : List (List UInt8)) : Bool := l.any fun s => decide (100 < s.length)
def envP (H : List (List UInt8)) (t : Tst) : Int := if hasP H envW = false then 8 else if t.names.all partP then 0 else 7
def tstA (H : List (List UInt8)) : Nat → Tst → Int
  | 0, _ => 0
  | n + 1, t => if t.kind = 8 ∧ envP H t ≠ 0 then envP H t else if longP t.names ∨ longP t.keys then 1 else firstP (tstA H n) t.tests
def goalP (s : List UInt8) : Int := if (listM s).2 = 0 ∧ (listM s).1.length = 1 then 0 else 3
def cmdA (H : List (List UInt8)) : Nat → Cmd → Int
  | 0, _ => 0
  | n + 1, c =>
    if hasP H (needP c.kind) = false then 8
    else if c.kind = 1 then 3
    else if c.kind = 5 then nameP (c.texts.getD 0 [])
    else if c.kind = 8 ∨ c.kind = 9 then (if flagsP c.texts = none then 7 else 0)
    else if c.kind = 6 then goalP (c.texts.getD 0 [])
    else if c.kind = 2 then
      (if tstA H n c.test ≠ 0 then tstA H n c.test
       else if firstP (cmdA H n) c.thn ≠ 0 then firstP (cmdA H n) c.thn
       else firstP (cmdA H n) c.els)
    else 0
/-- How many Requires stand ahead. -/
def aheadP : List Cmd → Nat
  | [] => 0
  | c :: r => if c.kind = 1 then aheadP r + 1 else 0
def reqsP (l : List Cmd) : List (List UInt8) := (l.take (aheadP l)).flatMap (·.texts)
def ruleM (n : Nat) (l : List Cmd) : Int :=
  if checkM n l ≠ 0 then checkM n l
  else if (reqsP l).all extP = false then 7
  else firstP (cmdA (reqsP l) n) (l.drop (aheadP l))

/- What the laws make. -/
def NiceT : Nat → Tst → Prop
  | 0, _ => True
  | n + 1, t => longP t.names = false ∧ longP t.keys = false ∧ (t.kind = 8 → t.names.all partP = true) ∧ ∀ u ∈ t.tests, NiceT n u
def NiceC : Nat → Cmd → Prop
  | 0, _ => True
  | n + 1, c => c.kind ≠ 1 ∧ (c.kind = 5 → nameP (c.texts.getD 0 []) = 0) ∧ (c.kind = 8 ∨ c.kind = 9 → flagsP c.texts ≠ none) ∧ (c.kind = 6 → goalP (c.texts.getD 0 []) = 0) ∧ NiceT n c.test ∧ (∀ x ∈ c.thn, NiceC n x) ∧ ∀ x ∈ c.els, NiceC n x
theorem firstP_zero {A : Type} {f : A → Int} {l : List A} (h : ∀ x ∈ l, f x = 0) : firstP f l = 0 := by
  induction l with
  | nil => rfl
  | cons x l ih =>
    unfold firstP
    rw [if_pos (h x (by simp))]
    exact ih fun y hy => h y (by simp [hy])
theorem tstA_all {H : List (List UInt8)} (hH : hasP H envW = true) : ∀ (n : Nat) (t : Tst), NiceT n t → tstA H n t = 0 := by
  intro n
  induction n with
  | zero => intro t _; rfl
  | succ n ih =>
    intro t h
    obtain ⟨h1, h2, h3, h4⟩ := h
    unfold tstA
    have e1 : ¬(t.kind = 8 ∧ envP H t ≠ 0) := by
      rintro ⟨hk, he⟩
      apply he
      unfold envP
      rw [if_neg (by rw [hH]; simp), if_pos (h3 hk)]
    rw [if_neg e1, if_neg (by rw [h1, h2]; simp)]
    exact firstP_zero fun u hu => ih u (h4 u hu)
theorem cmdA_all {H : List (List UInt8)} (h0 : hasP H envW = true) (h1 : hasP H fileW = true) (h2 : hasP H rejW = true) (h3 : hasP H flgW = true) : ∀ (n : Nat) (c : Cmd), NiceC n c → cmdA H n c = 0 := by
  intro n
  induction n with
  | zero => intro t _; rfl
  | succ n ih =>
    intro c h
    obtain ⟨k1, k2, k3, k4, k5, k6, k7⟩ := h
    unfold cmdA
    have hn : hasP H (needP c.kind) = true := by
      unfold needP
      split
      · exact h1
      · split
        · exact h2
        · split
          · exact h3
          · rfl
    rw [if_neg (by rw [hn]; simp), if_neg k1]
    by_cases c5 : c.kind = 5
    · rw [if_pos c5]; exact k2 c5
    · rw [if_neg c5]
      by_cases c8 : c.kind = 8 ∨ c.kind = 9
      · rw [if_pos c8, if_neg (k3 c8)]
      · rw [if_neg c8]
        by_cases c6 : c.kind = 6
        · rw [if_pos c6]; exact k4 c6
        · rw [if_neg c6]
          by_cases c2 : c.kind = 2
          · rw [if_pos c2, if_neg (by rw [tstA_all h0 n _ k5]; simp), if_neg (by rw [firstP_zero fun u hu => ih u (k6 u hu)]; simp)]
            exact firstP_zero fun u hu => ih u (k7 u hu)
          · rw [if_neg c2]
/- The laws' own scripts. -/
def reqT : List (List UInt8) := [[102, 105, 108, 101, 105, 110, 116, 111], [114, 101, 106, 101, 99, 116], [101, 110, 118, 101, 108, 111, 112, 101], [105, 109, 97, 112, 52, 102, 108, 97, 103, 115]]
def reqC : Cmd := ⟨1, reqT, noneT, [], []⟩
theorem fault_all {n d : Nat} {l : List Cmd} (h : faultCmds n d l = 0) : ∀ x ∈ l, faultCmd n d x = 0 := by
  intro x hx
  unfold faultCmds at h
  induction l with
  | nil => cases hx
  | cons y l ih =>
    unfold firstP at h
    by_cases hy : faultCmd n d y = 0
    · rw [if_pos hy] at h
      rcases List.mem_cons.1 hx with e | e
      · rw [e]; exact hy
      · exact ih h e
    · rw [if_neg hy] at h; exact absurd h hy
theorem fault_of {n d : Nat} {l : List Cmd} (h : ∀ x ∈ l, faultCmd n d x = 0) : faultCmds n d l = 0 := firstP_zero h
theorem checkM_of {n : Nat} {l : List Cmd} (h : ∀ x ∈ l, faultCmd n 0 x = 0) : checkM n l = if 400 < (cmdsT n l).length then 5 else 0 := by
  unfold checkM
  rw [if_neg (by rw [fault_of h]; simp)]
theorem checkM_ok {n : Nat} {l : List Cmd} (h : checkM n l = 0) : (∀ x ∈ l, faultCmd n 0 x = 0) ∧ (cmdsT n l).length ≤ 400 := by
  unfold checkM at h
  by_cases h1 : faultCmds n 0 l = 0
  · rw [if_neg (by simpa using h1)] at h
    refine ⟨fault_all h1, ?_⟩
    rcases Nat.lt_or_ge 400 (cmdsT n l).length with h2 | h2
    · rw [if_pos h2] at h; simp at h
    · exact h2
  · rw [if_pos h1] at h; exact absurd h h1
theorem fault_req (n : Nat) : faultCmd n 0 reqC = 0 := by cases n <;> rfl
theorem ahead_nice {n : Nat} {r : List Cmd} (h : ∀ x ∈ r, NiceC (n + 1) x) : aheadP r = 0 := by
  cases r with
  | nil => rfl
  | cons c r =>
    unfold aheadP
    rw [if_neg (h c (by simp)).1]
theorem rule_allowed {n : Nat} {r : List Cmd} (hc : checkM (n + 1) (reqC :: r) = 0) (hN : ∀ x ∈ r, NiceC (n + 1) x) : ruleM (n + 1) (reqC :: r) = 0 := by
  have ha : aheadP (reqC :: r) = 1 := by show aheadP r + 1 = 1; rw [ahead_nice hN]
  have hr : reqsP (reqC :: r) = reqT := by unfold reqsP; rw [ha]; rfl
  unfold ruleM
  rw [if_neg (by rw [hc]; simp), hr, if_neg (by decide), ha]
  exact firstP_zero fun x hx => cmdA_all (by decide) (by decide) (by decide) (by decide) _ _ (hN x hx)
end Go.Proofs.YtjfkgfomlnmngaaGreatDoor

namespace Go.Proofs.YtjfkgfomlnmngaaGreatDoor
open Go.RowKit

end Go.Proofs.YtjfkgfomlnmngaaGreatDoor
namespace Go.Proofs.YtjfkgfomlnmngaaGreatDoor
open Go.RowKit

theorem S_some (c : UInt8) (t : List UInt8) : (S (c :: t)).toList.isEmpty = false := by rw [Lib.toList_data, list_S]; rfl
theorem S_none : (S []).toList.isEmpty = true := by rw [Lib.toList_data, list_S]; rfl
theorem S_pos (c : UInt8) (t : List UInt8) : 0 < (S (c :: t)).size := by rw [size_S]; simp
theorem S_drop (s : List UInt8) (k : Nat) : (S s).extract k (S s).size = S (s.drop k) := by
  rw [Lib.extract_eq, list_S, size_S, List.take_of_length_le (by simp)]; rfl
theorem S_take (s : List UInt8) (k : Nat) : (S s).extract 0 k = S (s.take k) := by
  rw [Lib.extract_eq, list_S]; rfl
theorem byte_round (c : UInt8) : ((c.toNat : Int)).toNat.toUInt8 = c := by simp
theorem wcell_more {w : World} {p : Addr} {v : Value} (h : w.cell? p = some v) (o : Obj) : (w.alloc o).cell? p = some v :=
  (((Below.refl w.heap.size w).alloc (Nat.le_refl _) o).cell (World.block_lt_of_cell? w _ h)).trans h
theorem wcell_next {w w' : World} {p : Addr} {v : Value} (h : w.cell? p = some v) (hb : Below w.heap.size w w') : w'.cell? p = some v :=
  (hb.cell (World.block_lt_of_cell? w _ h)).trans h
theorem wdrew {B : Nat} {a w : World} (h : Below B a w) (n : Nat) : Below B a (w.drewN n) := h.trans ⟨rfl, rfl, rfl, Nat.le_refl _, fun _ _ => rfl⟩
theorem wnext {B : Nat} {a b c : World} (h : Below B a b) (k : Below b.heap.size b c) (hB : B ≤ a.heap.size) : Below B a c := h.trans (k.mono (Nat.le_trans hB h.size))
end Go.Proofs.YtjfkgfomlnmngaaGreatDoor
namespace Go.Proofs.YtjfkgfomlnmngaaGreatDoor
open Go.RowKit

theorem all_take_more {l : List UInt8} {k : Nat} {c : UInt8} (f : UInt8 → Bool) (h : l[k]? = some c) : (l.take (k + 1)).all f = ((l.take k).all f && f c) := by
  have hk : k < l.length := (List.getElem?_eq_some_iff.1 h).1
  have e : l[k] = c := (List.getElem?_eq_some_iff.1 h).2
  rw [List.take_succ_eq_append_getElem hk, List.all_append, e]
  simp
theorem inName_no {c : UInt8} (h : inName c = false) : c.toNat < 33 ∨ 126 < c.toNat := by
  unfold inName at h; simp at h; omega
theorem inName_yes {c : UInt8} (h : inName c = true) : 33 ≤ c.toNat ∧ c.toNat ≤ 126 := by
  unfold inName at h; simpa using h
theorem nameP_bad {s : ByteArray} {c : UInt8} (hc : c ∈ s.data.toList) (h1 : 1 ≤ s.size) (h2 : s.size ≤ 12) (h : inName c = false) : nameP s.data.toList = 3 := by
  unfold nameP
  rw [if_neg (by rw [size_list]; omega), if_neg]
  intro ha
  have := List.all_eq_true.1 ha c hc
  rw [h] at this; cases this
theorem nameP_good {s : ByteArray} (h1 : 1 ≤ s.size) (h2 : s.size ≤ 12) (h : s.data.toList.all inName = true) : nameP s.data.toList = 0 := by
  unfold nameP
  rw [if_neg (by rw [size_list]; omega), if_pos h]
theorem nameP_size {s : ByteArray} (h : s.size < 1 ∨ 12 < s.size) : nameP s.data.toList = 1 := by
  unfold nameP
  rw [if_pos (by rw [size_list]; exact h)]

set_option maxHeartbeats 2000000 in
theorem rname_any (s : ByteArray) (w : World) :
    Calls Tryz.prog 86 #[.string s] w fun e w' => e = .returned (.int .i64 (nameP s.data.toList)) ∧ w' = w := by
  by_cases h0 : s.size < 1
  · have HR : Hid _ := nameP_size (Or.inl h0)
    have i0 : (s.size : Int) < 1 := by omega
    go_enter Tryz.func86, Tryz.ntmps86
    go_wp2
    go_ret
    exact ⟨ret_int HR.out.symm, rfl⟩
  · by_cases h12 : 12 < s.size
    · have HR : Hid _ := nameP_size (Or.inr h12)
      have i0 : ¬ (s.size : Int) < 1 := by omega
      have i1 : (12 : Int) < (s.size : Int) := by omega
      go_enter Tryz.func86, Tryz.ntmps86
      go_wp2
      go_ret
      exact ⟨ret_int HR.out.symm, rfl⟩
    · have i0 : ¬ (s.size : Int) < 1 := by omega
      have i1 : ¬ (12 : Int) < (s.size : Int) := by omega
      go_enter Tryz.func86, Tryz.ntmps86
      go_wp2
      go_loopw [14] (fun i wr => ∃ k : Nat, k ≤ s.size ∧ i = .int .i64 k ∧ Hid ((s.data.toList.take k).all inName = true) ∧ wr = w) (fun i _ => s.size - (intOf i).toNat)
      case atStart => exact ⟨0, Nat.zero_le _, rfl, rfl, rfl⟩
      case round =>
        obtain ⟨k, hk, rfl, HT, rfl⟩ := hrel
        by_cases hlt : k < s.size
        · have hg := get_list s k hlt
          have HS : Hid _ := all_take_more inName hg
          have hlt' : (k : Int) < (s.size : Int) := by omega
          have hk0 : (0 : Int) ≤ (k : Int) := by omega
          cases ha : inName s[k] with
          | true =>
            have HN : Hid ((s.data.toList.take (k + 1)).all inName = true) := by unfold Hid; rw [HS.out, HT.out, ha]; rfl
            obtain ⟨b1, b2⟩ := inName_yes ha
            have c1 : ¬ ((s[k].toNat : Int) < 33) := by omega
            have c2 : ¬ ((126 : Int) < (s[k].toNat : Int)) := by omega
            clear HS hg ha
            go_wp2
            go_roundw
            case rel => first | exact ⟨k + 1, by omega, by go_num, HN, by first | rfl | trivial⟩ | ((repeat apply Exists.intro); exact ⟨⟨k + 1, by omega, by go_num, HN, by first | rfl | trivial⟩, rfl⟩) | (refine ⟨trivial, ?_⟩; (repeat apply Exists.intro); exact ⟨⟨k + 1, by omega, by go_num, HN, by first | rfl | trivial⟩, rfl⟩)
            case measure => simp [intOf]; omega
          | false =>
            have HN : Hid _ := nameP_bad (List.mem_of_getElem? hg) (by omega) (by omega) ha
            rcases inName_no ha with b | b
            · have c1 : ((s[k].toNat : Int) < 33) := by omega
              clear HS hg ha
              go_wp2
              go_ret
              exact ⟨ret_int HN.out.symm, rfl⟩
            · have c1 : ¬ ((s[k].toNat : Int) < 33) := by omega
              have c2 : ((126 : Int) < (s[k].toNat : Int)) := by omega
              clear HS hg ha
              go_wp2
              go_ret
              exact ⟨ret_int HN.out.symm, rfl⟩
        · have hk' : k = s.size := by omega
          have HN : Hid (nameP s.data.toList = 0) := nameP_good (by omega) (by omega) (by have := HT.out; rwa [List.take_of_length_le (by rw [size_list]; omega)] at this)
          have hlt' : ¬ (k : Int) < (s.size : Int) := by omega
          go_wp2
          go_ret
          exact ⟨ret_int HN.out.symm, rfl⟩
end Go.Proofs.YtjfkgfomlnmngaaGreatDoor
