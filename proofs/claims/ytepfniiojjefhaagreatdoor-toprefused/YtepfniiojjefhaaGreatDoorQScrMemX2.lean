/-
  Plain facts on tokens: what a script is cut into, what tokens are joined to. No program is named here.
  Plain facts on scripts: what commands and tests are, which may be, how they are shown and read. No program is named here.
  Worlds of which all but one block of what was there is as it was. No program is named here.
  Tests and commands in memory: rows within rows. No function of the program is named here.
  Plain facts on scripts: how tokens are read. No program is named here.
  States of boxes in memory: how they are read, and one that a call has made and may write into. No function of the program is named here.
-/
import Derived.Test.YtepfniiojjefhaaGreatDoorQPure6
import Derived.WalkKit
import Derived.Lib.ItoaNum
import Derived.Below
import Derived.Laws.AppendOwn
import Derived.Test.YtepfniiojjefhaaGreatDoorBoxPur
namespace Go.Proofs.YtepfniiojjefhaaGreatDoor
open Go.RowKit

/- P4.1. -/
def letterC (c : UInt8) : Bool := (decide (97 ≤ c.toNat) && decide (c.toNat ≤ 122)) || (decide (65 ≤ c.toNat) && decide (c.toNat ≤ 90)) || c == 95
def digitC (c : UInt8) : Bool := decide (48 ≤ c.toNat) && decide (c.toNat ≤ 57)
def wordyC (c : UInt8) : Bool := letterC c || digitC c
def markL : List UInt8 := [123, 125, 40, 41, 91, 93, 59, 44]
def markC (c : UInt8) : Bool := markL.contains c
def spaceC (c : UInt8) : Bool := c == 32 || c == 9 || c == 13 || c == 10

/- P4.2. -/
/-- What is behind the next end of a comment. -/
def comEnd : List UInt8 → Option (List UInt8)
  | [] => none
  | [_] => none
  | a :: b :: t => if a = 42 ∧ b = 47 then some t else comEnd (b :: t)
theorem comEnd_len {s r : List UInt8} (h : comEnd s = some r) : r.length < s.length := by
  induction s with
  | nil => cases h
  | cons a t ih =>
    cases t with
    | nil => cases h
    | cons b t =>
      unfold comEnd at h
      split at h
      · cases h; simp; omega
      · have := ih h; simp at this ⊢; omega
def lineEnd (s : List UInt8) : List UInt8 := s.dropWhile (· != 10)
theorem lineEnd_len (s : List UInt8) : (lineEnd s).length ≤ s.length := (List.dropWhile_suffix _).length_le
def starP (t : List UInt8) : Option (List UInt8) := match t with | [] => none | c :: u => if c = 42 then some u else none
theorem starP_some {t u : List UInt8} (h : starP t = some u) : t = 42 :: u := by
  cases t with
  | nil => cases h
  | cons c v =>
    by_cases e : c = 42
    · simp only [starP, if_pos e, Option.some.injEq] at h; rw [e, h]
    · simp only [starP, if_neg e] at h; cases h
/-- What is behind blanks and comments; or, a comment not ending, that comment on. So many steps at most. -/
def silF : Nat → List UInt8 → Bool × List UInt8
  | 0, s => (true, s)
  | _ + 1, [] => (true, [])
  | n + 1, c :: t =>
    if spaceC c then silF n t
    else if c = 35 then silF n (lineEnd t)
    else if c = 47 then
      match starP t with
      | none => (true, c :: t)
      | some u => (match comEnd u with | none => (false, c :: t) | some r => silF n r)
    else (true, c :: t)
theorem silF_more : ∀ (n m : Nat) (s : List UInt8), s.length ≤ n → s.length ≤ m → silF n s = silF m s := by
  intro n
  induction n with
  | zero =>
    intro m s h1 _
    have e : s = [] := List.length_eq_zero_iff.1 (by omega)
    subst e
    cases m <;> rfl
  | succ n ih =>
    intro m s h1 h2
    cases s with
    | nil => cases m <;> rfl
    | cons c t =>
      cases m with
      | zero => simp at h2
      | succ m =>
        simp only [List.length_cons] at h1 h2
        have hl := lineEnd_len t
        simp only [silF]
        rw [ih m t (by omega) (by omega), ih m (lineEnd t) (by omega) (by omega)]
        cases hs : starP t with
        | none => rfl
        | some u =>
          have hu := congrArg List.length (starP_some hs)
          simp only [List.length_cons] at hu
          simp only
          cases hc : comEnd u with
          | none => rfl
          | some r =>
            have hr := comEnd_len hc
            simp only
            rw [ih m r (by omega) (by omega)]
def silM (s : List UInt8) : Bool × List UInt8 := silF s.length s
theorem silM_cons (c : UInt8) (t : List UInt8) : silM (c :: t) =
    if spaceC c then silM t
    else if c = 35 then silM (lineEnd t)
    else if c = 47 then
      match starP t with
      | none => (true, c :: t)
      | some u => (match comEnd u with | none => (false, c :: t) | some r => silM r)
    else (true, c :: t) := by
  have hl := lineEnd_len t
  show silF (t.length + 1) (c :: t) = _
  simp only [silF]
  rw [silF_more t.length (lineEnd t).length (lineEnd t) (by omega) (Nat.le_refl _)]
  cases hs : starP t with
  | none => rfl
  | some u =>
    have hu := congrArg List.length (starP_some hs)
    simp only [List.length_cons] at hu
    simp only
    cases hc : comEnd u with
    | none => rfl
    | some r =>
      have hr := comEnd_len hc
      simp only
      rw [silF_more t.length r.length r (by omega) (Nat.le_refl _)]
      rfl
theorem silM_nil : silM [] = (true, []) := rfl
theorem silM_space {c : UInt8} (t : List UInt8) (h : spaceC c = true) : silM (c :: t) = silM t := by rw [silM_cons, if_pos h]
theorem silM_hash (t : List UInt8) : silM (35 :: t) = silM (lineEnd t) := by
  rw [silM_cons, if_neg (by decide), if_pos rfl]
theorem silM_stop {c : UInt8} (t : List UInt8) (h1 : spaceC c = false) (h2 : c ≠ 35) (h3 : c ≠ 47) : silM (c :: t) = (true, c :: t) := by
  rw [silM_cons, if_neg (by rw [h1]; simp), if_neg h2, if_neg h3]
theorem silM_slash {t : List UInt8} (h : starP t = none) : silM (47 :: t) = (true, 47 :: t) := by
  rw [silM_cons, if_neg (by decide), if_neg (by decide), if_pos rfl, h]
theorem silM_open {u : List UInt8} (h : comEnd u = none) : silM (47 :: 42 :: u) = (false, 47 :: 42 :: u) := by
  have h2 : starP (42 :: u) = some u := by simp [starP]
  rw [silM_cons, if_neg (by decide), if_neg (by decide), if_pos rfl, h2]
  simp only [h]
theorem silM_com {u r : List UInt8} (h : comEnd u = some r) : silM (47 :: 42 :: u) = silM r := by
  have h2 : starP (42 :: u) = some u := by simp [starP]
  rw [silM_cons, if_neg (by decide), if_neg (by decide), if_pos rfl, h2]
  simp only [h]
theorem silM_len : ∀ (n : Nat) (s : List UInt8), s.length ≤ n → (silM s).2.length ≤ s.length := by
  intro n
  induction n with
  | zero => intro s hs; cases s with
    | nil => rw [silM_nil]; simp
    | cons c t => simp at hs
  | succ n ih =>
    intro s hs
    cases s with
    | nil => rw [silM_nil]; simp
    | cons c t =>
      simp only [List.length_cons] at hs
      cases h1 : spaceC c with
      | true => rw [silM_space t h1]; have := ih t (by omega); simp; omega
      | false =>
        by_cases h2 : c = 35
        · subst h2; rw [silM_hash]; have h3 := lineEnd_len t; have := ih (lineEnd t) (by omega); simp; omega
        · by_cases h3 : c = 47
          · subst h3
            cases h4 : starP t with
            | some u =>
              have h4' := starP_some h4
              subst h4'
              cases h5 : comEnd u with
              | none => rw [silM_open h5]; simp
              | some r => rw [silM_com h5]; have := comEnd_len h5; simp only [List.length_cons] at hs ⊢; have := ih r (by omega); omega
            | none => rw [silM_slash h4]; simp
          · rw [silM_stop t h1 h2 h3]; simp

/- P4.3. -/
def decV (l : List UInt8) : Nat := l.foldl (fun n c => 10 * n + (c.toNat - 48)) 0
/-- The times, and what is behind. -/
def timesM (s : List UInt8) : Nat × List UInt8 :=
  match s with
  | [] => (1, [])
  | c :: t => if c = 75 ∨ c = 107 then (1024, t) else if c = 77 ∨ c = 109 then (1048576, t) else (1, c :: t)
theorem timesM_len (s : List UInt8) : (timesM s).2.length ≤ s.length := by
  unfold timesM
  split
  · simp
  · split
    · simp
    · split <;> simp
def headW (s : List UInt8) : Bool := match s with | [] => false | c :: _ => wordyC c
def numM (s : List UInt8) : Cutting :=
  let r := timesM (s.dropWhile digitC)
  if headW r.2 then .error 3
  else if 2147483647 < decV (s.takeWhile digitC) * r.1 then .error 6
  else .ok ({ kind := 3, text := [], num := (decV (s.takeWhile digitC) * r.1 : Nat) }, r.2)
/- P4.4. -/
/-- A text in quotes, behind the first one; behind a backslash, or not. -/
def strM : Bool → List UInt8 → Option (List UInt8 × List UInt8)
  | _, [] => none
  | true, c :: t => (strM false t).map fun x => (c :: x.1, x.2)
  | false, c :: t => if c = 34 then some ([], t) else if c = 92 then strM true t else (strM false t).map fun x => (c :: x.1, x.2)
theorem strM_len {b : Bool} {s : List UInt8} {x : List UInt8 × List UInt8} (h : strM b s = some x) : x.2.length < s.length := by
  induction s generalizing b x with
  | nil => cases b <;> cases h
  | cons c t ih =>
    cases b with
    | true =>
      unfold strM at h
      rw [Option.map_eq_some_iff] at h
      obtain ⟨y, hy, rfl⟩ := h
      have := ih hy; simp; omega
    | false =>
      unfold strM at h
      split at h
      · cases h; simp
      · split at h
        · have := ih h; simp; omega
        · rw [Option.map_eq_some_iff] at h
          obtain ⟨y, hy, rfl⟩ := h
          have := ih hy; simp; omega
/-- P4.1: the token that begins a text. -/
def tokM (s : List UInt8) : Cutting :=
  match s with
  | [] => .error 3
  | c :: t =>
    if letterC c then .ok ({ kind := 1, text := c :: t.takeWhile wordyC, num := 0 }, t.dropWhile wordyC)
    else if c = 58 ∧ (t.head?.map letterC).getD false = true then .ok ({ kind := 2, text := t.takeWhile wordyC, num := 0 }, t.dropWhile wordyC)
    else if digitC c then numM (c :: t)
    else if c = 34 then (match strM false t with | none => .error 4 | some x => .ok ({ kind := 4, text := x.1, num := 0 }, x.2))
    else if markC c then .ok ({ kind := 5, text := [c], num := 0 }, t)
    else .error 3
theorem dropW_len (p : UInt8 → Bool) (s : List UInt8) : (s.dropWhile p).length ≤ s.length := (List.dropWhile_suffix _).length_le
theorem tokM_len {s : List UInt8} {x : Tok × List UInt8} (h : tokM s = .ok x) : x.2.length < s.length := by
  cases s with
  | nil => cases h
  | cons c t =>
    simp only [tokM] at h
    split at h
    · cases h; have := dropW_len wordyC t; simp; omega
    · split at h
      · cases h; have := dropW_len wordyC t; simp; omega
      · split at h
        · rename_i hd
          unfold numM at h
          simp only at h
          split at h
          · cases h
          · split at h
            · cases h
            · cases h
              have h1 := timesM_len ((c :: t).dropWhile digitC)
              have h2 : ((c :: t).dropWhile digitC).length ≤ t.length := by rw [List.dropWhile_cons, if_pos hd]; exact dropW_len _ _
              simp; omega
        · split at h
          · split at h
            · cases h
            · rename_i x hx; cases h; have := strM_len hx; simp; omega
          · split at h
            · cases h; simp
            · cases h

/- P4.5. -/
/-- A token begins a text, right or wrong. -/
def begM (s : List UInt8) : Bool := match s with | [] => false | c :: t => letterC c || (c == 58 && (t.head?.map letterC).getD false) || digitC c || c == 34 || markC c
theorem tokM_beg {s : List UInt8} (h : begM s = false) : tokM s = .error 3 := by
  cases s with
  | nil => rfl
  | cons c t =>
    simp only [begM, Bool.or_eq_false_iff, Bool.and_eq_false_iff, beq_eq_false_iff_ne] at h
    obtain ⟨⟨⟨⟨h1, h2⟩, h3⟩, h4⟩, h5⟩ := h
    simp only [tokM, h1, h3, h5, Bool.false_eq_true, if_false, if_neg h4]
    rw [if_neg]
    rintro ⟨a, b⟩
    rcases h2 with h2 | h2
    · exact h2 a
    · rw [b] at h2; cases h2
/-- The tokens of a text, k being ahead of them; or how much there is from where something is wrong on, and the error. So many steps at most. -/
def cutF : Nat → Nat → List UInt8 → Except (Nat × Int) (List Tok)
  | 0, _, _ => .ok []
  | n + 1, k, s =>
    if (silM s).1 = false then .error ((silM s).2.length, 4)
    else if (silM s).2 = [] then .ok []
    else if k = 400 then .error ((silM s).2.length, if begM (silM s).2 then 5 else 3)
    else match tokM (silM s).2 with
      | .error e => .error ((silM s).2.length, e)
      | .ok x => (match cutF n (k + 1) x.2 with | .error e => .error e | .ok l => .ok (x.1 :: l))
theorem cutF_more : ∀ (n m k : Nat) (s : List UInt8), s.length < n → s.length < m → cutF n k s = cutF m k s := by
  intro n
  induction n with
  | zero => intro m k s h; omega
  | succ n ih =>
    intro m k s h1 h2
    cases m with
    | zero => omega
    | succ m =>
      simp only [cutF]
      cases ht : tokM (silM s).2 with
      | error e => rfl
      | ok x =>
        have l1 := tokM_len ht
        have l2 := silM_len _ s (Nat.le_refl _)
        simp only
        rw [ih m (k + 1) x.2 (by omega) (by omega)]
def cutP (k : Nat) (s : List UInt8) : Except (Nat × Int) (List Tok) := cutF (s.length + 1) k s
theorem cutP_eq (k : Nat) (s : List UInt8) : cutP k s =
    if (silM s).1 = false then .error ((silM s).2.length, 4)
    else if (silM s).2 = [] then .ok []
    else if k = 400 then .error ((silM s).2.length, if begM (silM s).2 then 5 else 3)
    else match tokM (silM s).2 with
      | .error e => .error ((silM s).2.length, e)
      | .ok x => (match cutP (k + 1) x.2 with | .error e => .error e | .ok l => .ok (x.1 :: l)) := by
  show cutF (s.length + 1) k s = _
  simp only [cutF]
  cases ht : tokM (silM s).2 with
  | error e => rfl
  | ok x =>
    have l1 := tokM_len ht
    have l2 := silM_len _ s (Nat.le_refl _)
    simp only
    rw [cutF_more s.length (x.2.length + 1) (k + 1) x.2 (by omega) (by omega)]
    rfl
def cutM (s : List UInt8) : List Tok × Int × Int :=
  if 2000 < s.length then ([], 0, 1)
  else match cutP 0 s with
    | .ok l => (l, 0, 0)
    | .error (n, e) => ([], ((s.length - n : Nat) : Int), e)

/- P4.6. -/
def wordB (l : List UInt8) : Bool := (l.head?.map letterC).getD false && l.all wordyC
def faultT (t : Tok) : Int :=
  if ¬ (1 ≤ t.kind ∧ t.kind ≤ 5) then 2
  else if t.kind = 3 then (if ¬ (0 ≤ t.num ∧ t.num ≤ 2147483647) then 6 else if t.text ≠ [] then 3 else 0)
  else if t.num ≠ 0 then 3
  else if t.kind = 5 then (if t.text.length = 1 ∧ t.text.all markC = true then 0 else 3)
  else if t.kind = 4 then 0
  else if wordB t.text then 0 else 3

/- P4.7. -/
end Go.Proofs.YtepfniiojjefhaaGreatDoor

namespace Go.Proofs.YtepfniiojjefhaaGreatDoor
open Go.RowKit

/- Words. -/
/-- The number that a word has in a table; 0: none. -/
def numberP (k : Nat) (s : List UInt8) : Nat := numIn (wTabs.getD k []) 0 s
/- P5.6. -/
/- P5.7. -/
end Go.Proofs.YtepfniiojjefhaaGreatDoor

namespace Go.Proofs.YtepfniiojjefhaaGreatDoor
open Go.RowKit

end Go.Proofs.YtepfniiojjefhaaGreatDoor

namespace Go.Proofs.YtepfniiojjefhaaGreatDoor
open Go.RowKit

end Go.Proofs.YtepfniiojjefhaaGreatDoor

namespace Go.Proofs.YtepfniiojjefhaaGreatDoor
open Go.RowKit

/-- What reading gives: something and the rest, or how many tokens were left where it gave up, and why. -/
abbrev Rdg (A : Type) := Except (Nat × Int) (A × List Tok)
def thenR {A B : Type} (x : Rdg A) (f : A → List Tok → Rdg B) : Rdg B := match x with | .error e => .error e | .ok (a, r) => f a r
def misP (r : List Tok) : Nat × Int := (r.length, if r.isEmpty then 4 else 3)
def takeKP (k : Int) (r : List Tok) : Rdg Tok := match r with | [] => .error (misP []) | t :: q => if t.kind = k then .ok (t, q) else .error (misP (t :: q))
def skipP (k : Int) (s : List UInt8) (r : List Tok) : Option (List Tok) := match r with | [] => none | t :: q => if t.kind = k ∧ t.text = s then some q else none
def takeTP (k : Int) (s : List UInt8) (r : List Tok) : Rdg Unit := match skipP k s r with | some q => .ok ((), q) | none => .error (misP r)
def textR (r : List Tok) : Rdg (List UInt8) := thenR (takeKP 4 r) fun t q => .ok (t.text, q)
/-- As long as a comma comes: one more. -/
def loopF {A : Type} (f : List Tok → Rdg A) : Nat → List A → List Tok → Rdg (List A)
  | 0, acc, r => .ok (acc, r)
  | n + 1, acc, r => match skipP 5 [44] r with
    | none => .ok (acc, r)
    | some q => thenR (f q) fun x q' => loopF f n (acc ++ [x]) q'
def listR (r : List Tok) : Rdg (List (List UInt8)) :=
  match skipP 5 [91] r with
  | none => thenR (textR r) fun x q => .ok ([x], q)
  | some q => thenR (textR q) fun x q1 => thenR (loopF textR q1.length [x] q1) fun l q2 => thenR (takeTP 5 [93] q2) fun _ q3 => .ok (l, q3)
def kindP (k d : Nat) (r : List Tok) : Rdg Nat :=
  if 6 < d then .error (r.length, 1) else
    match r with
    | [] => .error (misP [])
    | t :: q => if t.kind = 1 ∧ numberP k t.text ≠ 0 then .ok (numberP k t.text, q) else .error (misP (t :: q))
def tagsF (b : Bool) : List Tok → Nat → Nat → Rdg (Nat × Nat)
  | [], m, p => .ok ((if m = 0 then 1 else m, if p = 0 ∧ b = true then 1 else p), [])
  | t :: q, m, p =>
    if t.kind = 2 then
      if numberP 2 t.text ≠ 0 ∧ m = 0 then tagsF b q (numberP 2 t.text) p
      else if numberP 3 t.text ≠ 0 ∧ p = 0 ∧ b = true then tagsF b q m (numberP 3 t.text)
      else .error (misP (t :: q))
    else .ok ((if m = 0 then 1 else m, if p = 0 ∧ b = true then 1 else p), t :: q)
def boundR (r : List Tok) : Rdg (Bool × Int) :=
  match skipP 2 overW r with
  | some q => thenR (takeKP 3 q) fun t q => .ok ((true, t.num), q)
  | none => thenR (takeTP 2 underW r) fun _ q => thenR (takeKP 3 q) fun t q => .ok ((false, t.num), q)
def testsR (f : List Tok → Rdg Tst) (r : List Tok) : Rdg (List Tst) :=
  thenR (takeTP 5 [40] r) fun _ q => thenR (f q) fun x q => thenR (loopF f q.length [x] q) fun l q => thenR (takeTP 5 [41] q) fun _ q => .ok (l, q)
def testP : Nat → Nat → List Tok → Rdg Tst
  | 0, _, _ => .error (0, 0)
  | n + 1, d, r => thenR (kindP 1 d r) fun k q =>
    if k = 3 then thenR (testP n (d + 1) q) fun x q => .ok ({ noneT with kind := 3, tests := [x] }, q)
    else if k = 4 ∨ k = 5 then thenR (testsR (testP n (d + 1)) q) fun l q => .ok ({ noneT with kind := k, tests := l }, q)
    else if k = 6 ∨ k = 7 ∨ k = 8 then thenR (tagsF (decide (k ≠ 6)) q 0 0) fun mp q => thenR (listR q) fun a q => thenR (listR q) fun b q => .ok ({ noneT with kind := k, mat := mp.1, part := mp.2, names := a, keys := b }, q)
    else if k = 9 then thenR (listR q) fun a q => .ok ({ noneT with kind := 9, names := a }, q)
    else if k = 10 then thenR (boundR q) fun b q => .ok ({ noneT with kind := 10, over := b.1, limit := b.2 }, q)
    else .ok ({ noneT with kind := k }, q)
def blockF (f : List Tok → Rdg Cmd) : Nat → List Cmd → List Tok → Rdg (List Cmd)
  | 0, _, _ => .error (0, 0)
  | n + 1, acc, r => match skipP 5 [125] r with
    | some q => .ok (acc, q)
    | none => if r.isEmpty then .error (misP r) else thenR (f r) fun c q => blockF f n (acc ++ [c]) q
def blockR (f : List Tok → Rdg Cmd) (r : List Tok) : Rdg (List Cmd) := thenR (takeTP 5 [123] r) fun _ q => blockF f (q.length + 1) [] q
/-- A command (true), or what stands behind its if (false). -/
def cmdP : Nat → Bool → Nat → List Tok → Rdg Cmd
  | 0, _, _, _ => .error (0, 0)
  | n + 1, true, d, r => thenR (kindP 0 d r) fun k q =>
    if k = 2 then cmdP n false d q
    else if k = 1 ∨ k = 8 ∨ k = 9 then thenR (listR q) fun l q => thenR (takeTP 5 [59] q) fun _ q => .ok (⟨k, l, noneT, [], []⟩, q)
    else if k = 5 ∨ k = 6 ∨ k = 7 then thenR (textR q) fun x q => thenR (takeTP 5 [59] q) fun _ q => .ok (⟨k, [x], noneT, [], []⟩, q)
    else thenR (takeTP 5 [59] q) fun _ q => .ok (⟨k, [], noneT, [], []⟩, q)
  | n + 1, false, d, r => thenR (testP n 1 r) fun t q => thenR (blockR (cmdP n true (d + 1)) q) fun th q =>
    match skipP 1 elsifW q with
    | some q => thenR (cmdP n false d q) fun c q => .ok (⟨2, [], t, th, [c]⟩, q)
    | none => match skipP 1 elseW q with
      | some q => thenR (blockR (cmdP n true (d + 1)) q) fun el q => .ok (⟨2, [], t, th, el⟩, q)
      | none => .ok (⟨2, [], t, th, []⟩, q)
def scriptF (f : List Tok → Rdg Cmd) : Nat → List Cmd → List Tok → Rdg (List Cmd)
  | 0, acc, r => .ok (acc, r)
  | n + 1, acc, r => if r.isEmpty then .ok (acc, r) else thenR (f r) fun c q => scriptF f n (acc ++ [c]) q
def scriptR (r : List Tok) : Rdg (List Cmd) := scriptF (cmdP (r.length + 2) true 0) r.length [] r
def badTok : List Tok → Nat → Option (Nat × Int)
  | [], _ => none
  | t :: r, i => if faultT t = 0 then badTok r (i + 1) else some (i, faultT t)
/-- P5.5. -/
def parseS (l : List Tok) : List Cmd × Int × Int :=
  if 400 < l.length then ([], 0, 5) else
    match badTok l 0 with
    | some (i, e) => ([], i, e)
    | none => match scriptR l with
      | .ok (cs, _) => (cs, 0, 0)
      | .error (m, e) => ([], (l.length - m : Nat), e)

/- What is read is taken. -/
theorem thenR_ok {A B : Type} {x : Rdg A} {f : A → List Tok → Rdg B} {y : B × List Tok} (h : thenR x f = .ok y) : ∃ a q, x = .ok (a, q) ∧ f a q = .ok y := by
  unfold thenR at h
  split at h
  · cases h
  · exact ⟨_, _, rfl, h⟩
theorem skipP_some {k : Int} {s : List UInt8} {r q : List Tok} (h : skipP k s r = some q) : ∃ t, r = t :: q ∧ t.kind = k ∧ t.text = s := by
  cases r with
  | nil => cases h
  | cons t u =>
    unfold skipP at h
    simp only at h
    split at h
    · rename_i hk; cases h; exact ⟨t, rfl, hk⟩
    · cases h
theorem takeTP_ok {k : Int} {s : List UInt8} {r q : List Tok} {u : Unit} (h : takeTP k s r = .ok (u, q)) : skipP k s r = some q := by
  unfold takeTP at h
  split at h
  · rename_i hs; cases h; exact hs
  · cases h
theorem takeKP_ok {k : Int} {r q : List Tok} {t : Tok} (h : takeKP k r = .ok (t, q)) : r = t :: q ∧ t.kind = k := by
  unfold takeKP at h
  split at h
  · cases h
  · split at h
    · rename_i hk; cases h; exact ⟨rfl, hk⟩
    · cases h
theorem skipP_len {k : Int} {s : List UInt8} {r q : List Tok} (h : skipP k s r = some q) : q.length < r.length := by
  obtain ⟨t, rfl, _⟩ := skipP_some h; simp
theorem textR_ok {r q : List Tok} {x : List UInt8} (h : textR r = .ok (x, q)) : ∃ t, r = t :: q ∧ t.kind = 4 ∧ t.text = x := by
  obtain ⟨t, q', h1, h2⟩ := thenR_ok h
  cases h2
  obtain ⟨rfl, hk⟩ := takeKP_ok h1
  exact ⟨t, rfl, hk, rfl⟩
theorem textR_len {r q : List Tok} {x : List UInt8} (h : textR r = .ok (x, q)) : q.length < r.length := by
  obtain ⟨t, rfl, _⟩ := textR_ok h; simp
theorem loopF_len {A : Type} {f : List Tok → Rdg A} (hf : ∀ r x q, f r = .ok (x, q) → q.length ≤ r.length) : ∀ (n : Nat) (acc l : List A) (r q : List Tok), loopF f n acc r = .ok (l, q) → q.length ≤ r.length := by
  intro n
  induction n with
  | zero => intro acc l r q h; cases h; exact Nat.le_refl _
  | succ n ih =>
    intro acc l r q h
    unfold loopF at h
    split at h
    · cases h; exact Nat.le_refl _
    · rename_i q0 hs
      obtain ⟨x, q1, h1, h2⟩ := thenR_ok h
      have a := skipP_len hs
      have b := hf _ _ _ h1
      have c := ih _ _ _ _ h2
      omega
theorem listR_len {r q : List Tok} {l : List (List UInt8)} (h : listR r = .ok (l, q)) : q.length < r.length := by
  unfold listR at h
  split at h
  · obtain ⟨x, q1, h1, h2⟩ := thenR_ok h
    cases h2
    exact textR_len h1
  · rename_i q0 hs
    obtain ⟨x, q1, h1, h2⟩ := thenR_ok h
    obtain ⟨l2, q2, h3, h4⟩ := thenR_ok h2
    obtain ⟨u, q3, h5, h6⟩ := thenR_ok h4
    cases h6
    have a := skipP_len hs
    have b := textR_len h1
    have c := loopF_len (fun _ _ _ h => Nat.le_of_lt (textR_len h)) _ _ _ _ _ h3
    have d := skipP_len (takeTP_ok h5)
    omega
theorem kindP_ok {k d : Nat} {r q : List Tok} {n : Nat} (h : kindP k d r = .ok (n, q)) : d ≤ 6 ∧ n ≠ 0 ∧ ∃ t, r = t :: q ∧ t.kind = 1 ∧ numberP k t.text = n := by
  unfold kindP at h
  split at h
  · cases h
  · rename_i hd
    split at h
    · cases h
    · split at h
      · rename_i hk; cases h; exact ⟨by omega, hk.2, _, rfl, hk.1, rfl⟩
      · cases h
theorem kindP_len {k d : Nat} {r q : List Tok} {n : Nat} (h : kindP k d r = .ok (n, q)) : q.length < r.length := by
  obtain ⟨_, _, t, rfl, _⟩ := kindP_ok h; simp
theorem tagsF_len {b : Bool} : ∀ (r : List Tok) (m p : Nat) (x : Nat × Nat) (q : List Tok), tagsF b r m p = .ok (x, q) → q.length ≤ r.length := by
  intro r
  induction r with
  | nil => intro m p x q h; unfold tagsF at h; cases h; exact Nat.le_refl _
  | cons t r ih =>
    intro m p x q h
    unfold tagsF at h
    split at h
    · split at h
      · have := ih _ _ _ _ h; simp; omega
      · split at h
        · have := ih _ _ _ _ h; simp; omega
        · cases h
    · cases h; exact Nat.le_refl _
theorem boundR_len {r q : List Tok} {x : Bool × Int} (h : boundR r = .ok (x, q)) : q.length < r.length := by
  unfold boundR at h
  split at h
  · rename_i q0 hs
    obtain ⟨t, q1, h1, h2⟩ := thenR_ok h
    cases h2
    have a := skipP_len hs
    obtain ⟨rfl, _⟩ := takeKP_ok h1
    simp at a; omega
  · obtain ⟨u, q0, h0, h'⟩ := thenR_ok h
    obtain ⟨t, q1, h1, h2⟩ := thenR_ok h'
    cases h2
    have a := skipP_len (takeTP_ok h0)
    obtain ⟨rfl, _⟩ := takeKP_ok h1
    simp at a; omega
theorem testsR_len {f : List Tok → Rdg Tst} (hf : ∀ r x q, f r = .ok (x, q) → q.length ≤ r.length) {r q : List Tok} {l : List Tst} (h : testsR f r = .ok (l, q)) : q.length < r.length := by
  obtain ⟨u, q1, h1, h2⟩ := thenR_ok h
  obtain ⟨x, q2, h3, h4⟩ := thenR_ok h2
  obtain ⟨l', q3, h5, h6⟩ := thenR_ok h4
  obtain ⟨u', q4, h7, h8⟩ := thenR_ok h6
  cases h8
  have a := skipP_len (takeTP_ok h1)
  have b := hf _ _ _ h3
  have c := loopF_len hf _ _ _ _ _ h5
  have d := skipP_len (takeTP_ok h7)
  omega
theorem testP_len : ∀ (n d : Nat) (r : List Tok) (t : Tst) (q : List Tok), testP n d r = .ok (t, q) → q.length < r.length := by
  intro n
  induction n with
  | zero => intro d r t q h; cases h
  | succ n ih =>
    intro d r t q h
    unfold testP at h
    obtain ⟨k, q1, h1, h2⟩ := thenR_ok h
    have a := kindP_len h1
    simp only at h2
    split at h2
    · obtain ⟨x, q2, h3, h4⟩ := thenR_ok h2
      cases h4
      have := ih _ _ _ _ h3
      omega
    · split at h2
      · obtain ⟨x, q2, h3, h4⟩ := thenR_ok h2
        cases h4
        have := testsR_len (fun _ _ _ h => Nat.le_of_lt (ih _ _ _ _ h)) h3
        omega
      · split at h2
        · obtain ⟨x, q2, h3, h4⟩ := thenR_ok h2
          obtain ⟨y, q3, h5, h6⟩ := thenR_ok h4
          obtain ⟨z, q4, h7, h8⟩ := thenR_ok h6
          cases h8
          have b := tagsF_len _ _ _ _ _ h3
          have c := listR_len h5
          have e := listR_len h7
          omega
        · split at h2
          · obtain ⟨x, q2, h3, h4⟩ := thenR_ok h2
            cases h4
            have := listR_len h3
            omega
          · split at h2
            · obtain ⟨x, q2, h3, h4⟩ := thenR_ok h2
              cases h4
              have := boundR_len h3
              omega
            · cases h2
              omega
theorem blockF_len {f : List Tok → Rdg Cmd} (hf : ∀ r x q, f r = .ok (x, q) → q.length ≤ r.length) : ∀ (n : Nat) (acc l : List Cmd) (r q : List Tok), blockF f n acc r = .ok (l, q) → q.length ≤ r.length := by
  intro n
  induction n with
  | zero => intro acc l r q h; cases h
  | succ n ih =>
    intro acc l r q h
    unfold blockF at h
    split at h
    · rename_i q0 hs; cases h; exact Nat.le_of_lt (skipP_len hs)
    · split at h
      · cases h
      obtain ⟨x, q1, h1, h2⟩ := thenR_ok h
      have b := hf _ _ _ h1
      have c := ih _ _ _ _ h2
      omega
theorem blockR_len {f : List Tok → Rdg Cmd} (hf : ∀ r x q, f r = .ok (x, q) → q.length ≤ r.length) {r q : List Tok} {l : List Cmd} (h : blockR f r = .ok (l, q)) : q.length < r.length := by
  obtain ⟨u, q1, h1, h2⟩ := thenR_ok h
  have a := skipP_len (takeTP_ok h1)
  have b := blockF_len hf _ _ _ _ _ h2
  omega
theorem cmdP_len : ∀ (n : Nat) (b : Bool) (d : Nat) (r : List Tok) (c : Cmd) (q : List Tok), cmdP n b d r = .ok (c, q) → q.length < r.length := by
  intro n
  induction n with
  | zero => intro b d r t q h; cases h
  | succ n ih =>
    intro b d r t q h
    have ih' : ∀ b d r x q, cmdP n b d r = .ok (x, q) → q.length ≤ r.length := fun _ _ _ _ _ h => Nat.le_of_lt (ih _ _ _ _ _ h)
    cases b with
    | true =>
      unfold cmdP at h
      obtain ⟨k, q1, h1, h2⟩ := thenR_ok h
      have a := kindP_len h1
      split at h2
      · have := ih _ _ _ _ _ h2; omega
      · split at h2
        · obtain ⟨x, q2, h3, h4⟩ := thenR_ok h2
          obtain ⟨y, q3, h5, h6⟩ := thenR_ok h4
          cases h6
          have := listR_len h3
          have := skipP_len (takeTP_ok h5)
          omega
        · split at h2
          · obtain ⟨x, q2, h3, h4⟩ := thenR_ok h2
            obtain ⟨y, q3, h5, h6⟩ := thenR_ok h4
            cases h6
            have := textR_len h3
            have := skipP_len (takeTP_ok h5)
            omega
          · obtain ⟨y, q3, h5, h6⟩ := thenR_ok h2
            cases h6
            have := skipP_len (takeTP_ok h5)
            omega
    | false =>
      unfold cmdP at h
      obtain ⟨x, q1, h1, h2⟩ := thenR_ok h
      obtain ⟨y, q2, h3, h4⟩ := thenR_ok h2
      have a := testP_len _ _ _ _ _ h1
      have b := blockR_len (ih' _ _) h3
      split at h4
      · rename_i q0 hs
        obtain ⟨z, q3, h5, h6⟩ := thenR_ok h4
        cases h6
        have := skipP_len hs
        have := ih _ _ _ _ _ h5
        omega
      · split at h4
        · rename_i q0 hs
          obtain ⟨z, q3, h5, h6⟩ := thenR_ok h4
          cases h6
          have := skipP_len hs
          have := blockR_len (ih' _ _) h5
          omega
        · cases h4; omega
end Go.Proofs.YtepfniiojjefhaaGreatDoor
namespace Go.Proofs.YtepfniiojjefhaaGreatDoor
open Go.RowKit Go.Proofs

def mailC (m : Mail) : List Value := [.int .i64 m.uid, .int .i64 m.flags, .string (S m.text)]
def entC (x : Ent) : List Value := [.int .i64 x.kind, .string (S x.box), .int .i64 x.uid, .int .i64 x.flags, .string (S x.goal), .string (S x.text)]
def boxC (b : Bx) (v : Value) : List Value := [.string (S b.name), .int .i64 b.next, v]
def MailM (m : Mail) (cs : List Value) : Prop := cs = mailC m
def EntM (x : Ent) (cs : List Value) : Prop := cs = entC x
def MailsM (Q : Nat → Prop) (w : World) (v : Value) (l : List Mail) : Prop := RowM Q 3 MailM w v l
def EntsM (Q : Nat → Prop) (w : World) (v : Value) (l : List Ent) : Prop := RowM Q 6 EntM w v l
def BoxM (Q : Nat → Prop) (w : World) (b : Bx) (cs : List Value) : Prop := ∃ v, cs = boxC b v ∧ MailsM Q w v b.mails
def BoxsM (Q : Nat → Prop) (w : World) (v : Value) (l : List Bx) : Prop := RowM Q 3 (BoxM Q w) w v l
/-- A state in memory: its boxes and what goes out. -/
def SttM (Q : Nat → Prop) (w : World) (vb vs : Value) (s : Stt) : Prop := BoxsM Q w vb s.boxes ∧ EntsM Q w vs s.spool ∧ ∀ a n c, vb = .slice a n c → n ≤ c
theorem MailsM.imp {Q Q' : Nat → Prop} {w w' : World} {v : Value} {l : List Mail} (h : MailsM Q w v l) (hq : ∀ b, Q b → Q' b) (hk : Keeps Q w w') : MailsM Q' w' v l := RowM.imp h hq hk fun _ _ h => h
theorem EntsM.imp {Q Q' : Nat → Prop} {w w' : World} {v : Value} {l : List Ent} (h : EntsM Q w v l) (hq : ∀ b, Q b → Q' b) (hk : Keeps Q w w') : EntsM Q' w' v l := RowM.imp h hq hk fun _ _ h => h
theorem BoxM.imp {Q Q' : Nat → Prop} {w w' : World} {b : Bx} {cs : List Value} (h : BoxM Q w b cs) (hq : ∀ b, Q b → Q' b) (hk : Keeps Q w w') : BoxM Q' w' b cs := by
  obtain ⟨v, e, h⟩ := h; exact ⟨v, e, h.imp hq hk⟩
theorem BoxsM.imp {Q Q' : Nat → Prop} {w w' : World} {v : Value} {l : List Bx} (h : BoxsM Q w v l) (hq : ∀ b, Q b → Q' b) (hk : Keeps Q w w') : BoxsM Q' w' v l := RowM.imp h hq hk fun _ _ h => h.imp hq hk
theorem SttM.imp {Q Q' : Nat → Prop} {w w' : World} {vb vs : Value} {s : Stt} (h : SttM Q w vb vs s) (hq : ∀ b, Q b → Q' b) (hk : Keeps Q w w') : SttM Q' w' vb vs s := ⟨h.1.imp hq hk, h.2.1.imp hq hk, h.2.2⟩
theorem SttM.next {Q : Nat → Prop} {w w' : World} {vb vs : Value} {s : Stt} (h : SttM Q w vb vs s) (hb : Below w.heap.size w w') : SttM Q w' vb vs s := h.imp (fun _ h => h) (Keeps.of_below hb)
theorem BoxsM.next {Q : Nat → Prop} {w w' : World} {v : Value} {l : List Bx} (h : BoxsM Q w v l) (hb : Below w.heap.size w w') : BoxsM Q w' v l := h.imp (fun _ h => h) (Keeps.of_below hb)
theorem EntsM.next {Q : Nat → Prop} {w w' : World} {v : Value} {l : List Ent} (h : EntsM Q w v l) (hb : Below w.heap.size w w') : EntsM Q w' v l := h.imp (fun _ h => h) (Keeps.of_below hb)
theorem MailsM.next {Q : Nat → Prop} {w w' : World} {v : Value} {l : List Mail} (h : MailsM Q w v l) (hb : Below w.heap.size w w') : MailsM Q w' v l := h.imp (fun _ h => h) (Keeps.of_below hb)

/- One element. -/
theorem MailsM.at {Q : Nat → Prop} {w : World} {a : Option Addr} {n c : Nat} {l : List Mail} (h : MailsM Q w (.slice a n c) l) {i : Nat} {x : Mail} (hx : l[i]? = some x) : ∃ b o, a = some ⟨b, o, none⟩ ∧ Q b ∧ w.cell? ⟨b, o + i * 3, none⟩ = some (.int .i64 x.uid) ∧ w.cell? ⟨b, o + i * 3 + 1, none⟩ = some (.int .i64 x.flags) ∧ w.cell? ⟨b, o + i * 3 + 2, none⟩ = some (.string (S x.text)) := by
  obtain ⟨a', c', hv, _, hr⟩ := h
  simp only [Value.slice.injEq] at hv
  obtain ⟨rfl, _, rfl⟩ := hv
  obtain ⟨b, o, cs, rfl, _, hq, _, hc, hP⟩ := hr i x hx
  have hcs : cs = _ := hP
  subst hcs
  exact ⟨b, o, rfl, hq, by simpa using hc 0 _ rfl, hc 1 _ rfl, hc 2 _ rfl⟩
theorem BoxsM.at {Q : Nat → Prop} {w : World} {a : Option Addr} {n c : Nat} {l : List Bx} (h : BoxsM Q w (.slice a n c) l) {i : Nat} {x : Bx} (hx : l[i]? = some x) : ∃ b o v, a = some ⟨b, o, none⟩ ∧ Q b ∧ w.cell? ⟨b, o + i * 3, none⟩ = some (.string (S x.name)) ∧ w.cell? ⟨b, o + i * 3 + 1, none⟩ = some (.int .i64 x.next) ∧ w.cell? ⟨b, o + i * 3 + 2, none⟩ = some v ∧ MailsM Q w v x.mails := by
  obtain ⟨a', c', hv, _, hr⟩ := h
  simp only [Value.slice.injEq] at hv
  obtain ⟨rfl, _, rfl⟩ := hv
  obtain ⟨b, o, cs, rfl, _, hq, _, hc, v, hcs, hm⟩ := hr i x hx
  subst hcs
  exact ⟨b, o, v, rfl, hq, by simpa using hc 0 _ rfl, hc 1 _ rfl, hc 2 _ rfl, hm⟩
theorem EntsM.at {Q : Nat → Prop} {w : World} {a : Option Addr} {n c : Nat} {l : List Ent} (h : EntsM Q w (.slice a n c) l) {i : Nat} {x : Ent} (hx : l[i]? = some x) : ∃ b o, a = some ⟨b, o, none⟩ ∧ Q b ∧ w.cell? ⟨b, o + i * 6, none⟩ = some (.int .i64 x.kind) ∧ w.cell? ⟨b, o + i * 6 + 1, none⟩ = some (.string (S x.box)) ∧ w.cell? ⟨b, o + i * 6 + 2, none⟩ = some (.int .i64 x.uid) ∧ w.cell? ⟨b, o + i * 6 + 3, none⟩ = some (.int .i64 x.flags) ∧ w.cell? ⟨b, o + i * 6 + 4, none⟩ = some (.string (S x.goal)) ∧ w.cell? ⟨b, o + i * 6 + 5, none⟩ = some (.string (S x.text)) := by
  obtain ⟨a', c', hv, _, hr⟩ := h
  simp only [Value.slice.injEq] at hv
  obtain ⟨rfl, _, rfl⟩ := hv
  obtain ⟨b, o, cs, rfl, _, hq, _, hc, hP⟩ := hr i x hx
  have hcs : cs = _ := hP
  subst hcs
  exact ⟨b, o, rfl, hq, by simpa using hc 0 _ rfl, hc 1 _ rfl, hc 2 _ rfl, hc 3 _ rfl, hc 4 _ rfl, hc 5 _ rfl⟩

theorem flatten_nth {k : Nat} : ∀ {css : List (List Value)} {i j : Nat} {cs : List Value}, (∀ c ∈ css, c.length = k) → css[i]? = some cs → j < k → css.flatten[i * k + j]? = cs[j]? := by
  intro css
  induction css with
  | nil => intro i j cs _ h _; simp at h
  | cons c css ih =>
    intro i j cs hk h hj
    have hc : c.length = k := hk c (by simp)
    cases i with
    | zero =>
      simp at h
      subst h
      simp only [Nat.zero_mul, Nat.zero_add, List.flatten_cons]
      rw [List.getElem?_append_left (by omega)]
    | succ i =>
      have := ih (j := j) (fun c hc => hk c (by simp [hc])) (by simpa using h) hj
      simp only [List.flatten_cons]
      rw [List.getElem?_append_right (by rw [hc, Nat.add_mul]; omega), ← this]
      congr 1
      rw [hc, Nat.add_mul]
      omega
theorem map_flat_len {A : Type} {k : Nat} (f : A → List Value) (hf : ∀ x, (f x).length = k) (l : List A) : ∀ cs ∈ l.map f, cs.length = k := by
  intro cs h; obtain ⟨x, _, rfl⟩ := List.mem_map.1 h; exact hf x

/- What a call owns: rows in blocks of their own. -/
def Apart (u v : Value) : Prop := ∀ k, u.ownBlock = some k → v.ownBlock ≠ some k
theorem Apart.symm {u v : Value} (h : Apart u v) : Apart v u := fun k hv hu => h k hu hv
def bxCs : List Bx → List Value → List (List Value)
  | b :: r, v :: vs => boxC b v :: bxCs r vs
  | _, _ => []
theorem bxCs_each : ∀ (l : List Bx) (vs : List Value), ∀ cs ∈ bxCs l vs, cs.length = 3 := by
  intro l
  induction l with
  | nil => intro vs cs h; cases vs <;> cases h
  | cons b l ih =>
    intro vs cs h
    cases vs with
    | nil => cases h
    | cons v vs =>
      simp only [bxCs, List.mem_cons] at h
      rcases h with rfl | h
      · rfl
      · exact ih vs cs h
theorem bxCs_at : ∀ (l : List Bx) (vs : List Value) (i : Nat) (b : Bx) (v : Value), l[i]? = some b → vs[i]? = some v → (bxCs l vs)[i]? = some (boxC b v) := by
  intro l
  induction l with
  | nil => intro vs i b v h; simp at h
  | cons c l ih =>
    intro vs i b v h h'
    cases vs with
    | nil => simp at h'
    | cons u vs =>
      cases i with
      | zero => simp at h h'; subst h; subst h'; rfl
      | succ i => simp at h h'; simpa [bxCs] using ih vs i b v h h'
/-- A state in rows that a call has made: rows apart from each other. -/
structure OwnS (B : Nat) (w : World) (vb vs : Value) (vm : List Value) (s : Stt) : Prop where
  boxes : w.ownsRow B 110 3 vb s.boxes.length (bxCs s.boxes vm).flatten
  spool : w.ownsRow B 44 6 vs s.spool.length (s.spool.map entC).flatten
  len : vm.length = s.boxes.length
  mails : ∀ (i : Nat) b v, s.boxes[i]? = some b → vm[i]? = some v → w.ownsRow B 183 3 v b.mails.length (b.mails.map mailC).flatten
  bs : Apart vb vs
  mb : ∀ v ∈ vm, Apart v vb
  ms : ∀ v ∈ vm, Apart v vs
  mm : ∀ (i j : Nat) u v, i ≠ j → vm[i]? = some u → vm[j]? = some v → Apart u v
/-- The blocks of a state's rows. -/
def inS (vb vs : Value) (vm : List Value) (k : Nat) : Prop := vb.ownBlock = some k ∨ vs.ownBlock = some k ∨ ∃ v ∈ vm, v.ownBlock = some k
theorem owns_keep {w w' : World} {B n k : Nat} {e : TypeId} {v : Value} {xs : List Value} (h : w.ownsRow B e k v n xs) (hk : ∀ g, v.ownBlock = some g → w'.heap[g]? = w.heap[g]?) : w'.ownsRow B e k v n xs := by
  refine ⟨h.1, ?_⟩
  rcases h.2 with hn | ⟨g, cap, cur, rfl, hb, hgg, rest⟩
  · exact .inl hn
  · exact .inr ⟨g, cap, cur, rfl, hb, (hk g rfl).trans hgg, rest⟩
theorem OwnS.keep {B : Nat} {w w' : World} {vb vs : Value} {vm : List Value} {s : Stt} (h : OwnS B w vb vs vm s) (hk : ∀ g, inS vb vs vm g → w'.heap[g]? = w.heap[g]?) : OwnS B w' vb vs vm s :=
  ⟨owns_keep h.boxes fun g hg => hk g (.inl hg), owns_keep h.spool fun g hg => hk g (.inr (.inl hg)), h.len, fun i b v hb hv => owns_keep (h.mails i b v hb hv) fun g hg => hk g (.inr (.inr ⟨v, List.mem_of_getElem? hv, hg⟩)), h.bs, h.mb, h.ms, h.mm⟩
theorem OwnS.lt {B : Nat} {w : World} {vb vs : Value} {vm : List Value} {s : Stt} (h : OwnS B w vb vs vm s) {g : Nat} (hg : inS vb vs vm g) : B ≤ g ∧ g < w.heap.size := by
  rcases hg with hg | hg | ⟨v, hv, hg⟩
  · exact World.ownsRow.lt h.boxes g hg
  · exact World.ownsRow.lt h.spool g hg
  · obtain ⟨i, hi, rfl⟩ := List.getElem_of_mem hv
    have hi' : i < s.boxes.length := by rw [← h.len]; exact hi
    exact World.ownsRow.lt (h.mails i _ _ (List.getElem?_eq_getElem hi') (List.getElem?_eq_getElem hi)) g hg
theorem OwnS.next {B : Nat} {w w' : World} {vb vs : Value} {vm : List Value} {s : Stt} (h : OwnS B w vb vs vm s) (hb : Below w.heap.size w w') : OwnS B w' vb vs vm s := h.keep fun g hg => hb.block g (h.lt hg).2
/- What is owned can be read. -/
theorem own_row {A : Type} {B n k : Nat} {e : TypeId} {w : World} {v : Value} {l : List A} {css : List (List Value)} {P : A → List Value → Prop} {Q : Nat → Prop} (h : w.ownsRow B e k v n css.flatten) (hn : n = l.length) (hm : n ≤ maxLen) (hl : css.length = l.length) (he : ∀ cs ∈ css, cs.length = k)
    (hP : ∀ (i : Nat) x cs, l[i]? = some x → css[i]? = some cs → P x cs) (hQ : ∀ g, v.ownBlock = some g → Q g) : RowM Q k P w v l := by
  subst hn
  rcases h.2 with ⟨rfl, h0⟩ | ⟨g, cap, cur, rfl, hb, hg, h1, h2, h3, ht⟩
  · have : l = [] := List.length_eq_zero_iff.1 h0
    subst this
    exact rowM_nil _ _ _ _ _ _
  · refine ⟨some ⟨g, 0, none⟩, cap, rfl, hm, fun i x hx => ?_⟩
    have hi : i < l.length := (List.getElem?_eq_some_iff.1 hx).1
    have hc : css[i]? = some css[i] := List.getElem?_eq_getElem (by omega)
    refine ⟨g, 0, css[i], rfl, (Array.getElem?_eq_some_iff.1 hg).1, hQ g rfl, he _ (List.mem_of_getElem? hc), ?_, hP i x _ hx hc⟩
    intro j u hj
    have hjk : j < k := by rw [← he _ (List.mem_of_getElem? hc)]; exact (List.getElem?_eq_some_iff.1 hj).1
    have := World.ownsRow.cells h (g := g) rfl (i * k + j) u (by rw [flatten_nth he hc hjk]; exact hj)
    rw [Addr.add_lit] at this
    simpa [Nat.add_assoc] using this
theorem OwnS.small {B : Nat} {w : World} {vb vs : Value} {vm : List Value} {s : Stt} (h : OwnS B w vb vs vm s) : ∃ a c, vb = .slice a s.boxes.length c := by
  rcases h.boxes.2 with ⟨rfl, hn⟩ | ⟨g, cap, cur, rfl, _⟩
  · exact ⟨none, 0, by rw [hn]⟩
  · exact ⟨_, _, rfl⟩
/-- A box in its row: where it lies. -/
theorem OwnS.box {B : Nat} {w : World} {vb vs : Value} {vm : List Value} {s : Stt} (h : OwnS B w vb vs vm s) {i : Nat} {b : Bx} (hb : s.boxes[i]? = some b) : ∃ g c v, vb = .slice (some ⟨g, 0, none⟩) s.boxes.length c ∧ vm[i]? = some v ∧ w.cell? ⟨g, i * 3, none⟩ = some (.string (S b.name)) ∧ w.cell? ⟨g, i * 3 + 1, none⟩ = some (.int .i64 b.next) ∧ w.cell? ⟨g, i * 3 + 2, none⟩ = some v ∧
    w.frozen? ⟨g, i * 3 + 1, none⟩ = false ∧ w.frozen? ⟨g, i * 3 + 2, none⟩ = false := by
  have hi0 : i < s.boxes.length := (List.getElem?_eq_some_iff.1 hb).1
  have hi : i < vm.length := by rw [h.len]; exact hi0
  have hv : vm[i]? = some vm[i] := List.getElem?_eq_getElem hi
  rcases h.boxes.2 with ⟨_, hn⟩ | ⟨g, cap, cur, e, _, hg, _⟩
  · omega
  · have hat := bxCs_at _ _ _ _ _ hb hv
    have hc : ∀ j u, (boxC b vm[i])[j]? = some u → w.cell? ⟨g, i * 3 + j, none⟩ = some u := fun j u hj => by
      have hj3 : j < 3 := (List.getElem?_eq_some_iff.1 hj).1
      have := World.ownsRow.cells h.boxes (g := g) (by rw [e]; rfl) (i * 3 + j) u (by rw [flatten_nth (bxCs_each _ _) hat hj3]; exact hj)
      rw [Addr.add_lit] at this
      simpa using this
    exact ⟨g, cap, _, e, hv, hc 0 _ rfl, hc 1 _ rfl, hc 2 _ rfl, by simp [World.frozen?, hg], by simp [World.frozen?, hg]⟩
end Go.Proofs.YtepfniiojjefhaaGreatDoor
