/-
  Plain facts on tokens: what a script is cut into, what tokens are joined to. No program is named here.
-/
import Derived.WalkKit
import Derived.Lib.ItoaNum
import Derived.Test.YtkdngmhcfkfppaaGreatDoorPure
import Derived.Test.YtkdngmhcfkfppaaGreatDoorLetPure
namespace Go.Proofs.YtkdngmhcfkfppaaGreatDoor
open Go.RowKit

/- P4.1. -/
def letterC (c : UInt8) : Bool := (decide (97 ≤ c.toNat) && decide (c.toNat ≤ 122)) || (decide (65 ≤ c.toNat) && decide (c.toNat ≤ 90)) || c == 95
def digitC (c : UInt8) : Bool := decide (48 ≤ c.toNat) && decide (c.toNat ≤ 57)
def wordyC (c : UInt8) : Bool := letterC c || digitC c
def markL : List UInt8 := [123, 125, 40, 41, 91, 93, 59, 44]
def markC (c : UInt8) : Bool := markL.contains c
def spaceC (c : UInt8) : Bool := c == 32 || c == 9 || c == 13 || c == 10

structure Tok where
  kind : Int
  text : List UInt8
  num : Int

/- P4.2. -/
/-- What is behind the next end of a comment. -/
def comEnd : List UInt8 → Option (List UInt8)
  | [] => none
  | [_] => none
  | a :: b :: t => if a = 42 ∧ b = 47 then some t else comEnd (b :: t)
theorem comEnd_len {s r : List UInt8} (h : comEnd s = some r) : r.length < s.length := by
  induction s with
  | nil => cases h
  | cons a t ih =>
    cases t with
    | nil => cases h
    | cons b t =>
      unfold comEnd at h
      split at h
      · cases h; simp; omega
      · have := ih h; simp at this ⊢; omega
def lineEnd (s : List UInt8) : List UInt8 := s.dropWhile (· != 10)
theorem lineEnd_len (s : List UInt8) : (lineEnd s).length ≤ s.length := (List.dropWhile_suffix _).length_le
def starP (t : List UInt8) : Option (List UInt8) := match t with | [] => none | c :: u => if c = 42 then some u else none
theorem starP_some {t u : List UInt8} (h : starP t = some u) : t = 42 :: u := by
  cases t with
  | nil => cases h
  | cons c v =>
    by_cases e : c = 42
    · simp only [starP, if_pos e, Option.some.injEq] at h; rw [e, h]
    · simp only [starP, if_neg e] at h; cases h
/-- What is behind blanks and comments; or, a comment not ending, that comment on. So many steps at most. -/
def silF : Nat → List UInt8 → Bool × List UInt8
  | 0, s => (true, s)
  | _ + 1, [] => (true, [])
  | n + 1, c :: t =>
    if spaceC c then silF n t
    else if c = 35 then silF n (lineEnd t)
    else if c = 47 then
      match starP t with
      | none => (true, c :: t)
      | some u => (match comEnd u with | none => (false, c :: t) | some r => silF n r)
    else (true, c :: t)
theorem silF_more : ∀ (n m : Nat) (s : List UInt8), s.length ≤ n → s.length ≤ m → silF n s = silF m s := by
  intro n
  induction n with
  | zero =>
    intro m s h1 _
    have e : s = [] := List.length_eq_zero_iff.1 (by omega)
    subst e
    cases m <;> rfl
  | succ n ih =>
    intro m s h1 h2
    cases s with
    | nil => cases m <;> rfl
    | cons c t =>
      cases m with
      | zero => simp at h2
      | succ m =>
        simp only [List.length_cons] at h1 h2
        have hl := lineEnd_len t
        simp only [silF]
        rw [ih m t (by omega) (by omega), ih m (lineEnd t) (by omega) (by omega)]
        cases hs : starP t with
        | none => rfl
        | some u =>
          have hu := congrArg List.length (starP_some hs)
          simp only [List.length_cons] at hu
          simp only
          cases hc : comEnd u with
          | none => rfl
          | some r =>
            have hr := comEnd_len hc
            simp only
            rw [ih m r (by omega) (by omega)]
def silM (s : List UInt8) : Bool × List UInt8 := silF s.length s
theorem silM_cons (c : UInt8) (t : List UInt8) : silM (c :: t) =
    if spaceC c then silM t
    else if c = 35 then silM (lineEnd t)
    else if c = 47 then
      match starP t with
      | none => (true, c :: t)
      | some u => (match comEnd u with | none => (false, c :: t) | some r => silM r)
    else (true, c :: t) := by
  have hl := lineEnd_len t
  show silF (t.length + 1) (c :: t) = _
  simp only [silF]
  rw [silF_more t.length (lineEnd t).length (lineEnd t) (by omega) (Nat.le_refl _)]
  cases hs : starP t with
  | none => rfl
  | some u =>
    have hu := congrArg List.length (starP_some hs)
    simp only [List.length_cons] at hu
    simp only
    cases hc : comEnd u with
    | none => rfl
    | some r =>
      have hr := comEnd_len hc
      simp only
      rw [silF_more t.length r.length r (by omega) (Nat.le_refl _)]
      rfl
theorem silM_nil : silM [] = (true, []) := rfl
theorem silM_space {c : UInt8} (t : List UInt8) (h : spaceC c = true) : silM (c :: t) = silM t := by rw [silM_cons, if_pos h]
theorem silM_hash (t : List UInt8) : silM (35 :: t) = silM (lineEnd t) := by
  rw [silM_cons, if_neg (by decide), if_pos rfl]
theorem silM_stop {c : UInt8} (t : List UInt8) (h1 : spaceC c = false) (h2 : c ≠ 35) (h3 : c ≠ 47) : silM (c :: t) = (true, c :: t) := by
  rw [silM_cons, if_neg (by rw [h1]; simp), if_neg h2, if_neg h3]
theorem silM_slash {t : List UInt8} (h : starP t = none) : silM (47 :: t) = (true, 47 :: t) := by
  rw [silM_cons, if_neg (by decide), if_neg (by decide), if_pos rfl, h]
theorem silM_open {u : List UInt8} (h : comEnd u = none) : silM (47 :: 42 :: u) = (false, 47 :: 42 :: u) := by
  have h2 : starP (42 :: u) = some u := by simp [starP]
  rw [silM_cons, if_neg (by decide), if_neg (by decide), if_pos rfl, h2]
  simp only [h]
theorem silM_com {u r : List UInt8} (h : comEnd u = some r) : silM (47 :: 42 :: u) = silM r := by
  have h2 : starP (42 :: u) = some u := by simp [starP]
  rw [silM_cons, if_neg (by decide), if_neg (by decide), if_pos rfl, h2]
  simp only [h]
theorem silM_len : ∀ (n : Nat) (s : List UInt8), s.length ≤ n → (silM s).2.length ≤ s.length := by
  intro n
  induction n with
  | zero => intro s hs; cases s with
    | nil => rw [silM_nil]; simp
    | cons c t => simp at hs
  | succ n ih =>
    intro s hs
    cases s with
    | nil => rw [silM_nil]; simp
    | cons c t =>
      simp only [List.length_cons] at hs
      cases h1 : spaceC c with
      | true => rw [silM_space t h1]; have := ih t (by omega); simp; omega
      | false =>
        by_cases h2 : c = 35
        · subst h2; rw [silM_hash]; have h3 := lineEnd_len t; have := ih (lineEnd t) (by omega); simp; omega
        · by_cases h3 : c = 47
          · subst h3
            cases h4 : starP t with
            | some u =>
              have h4' := starP_some h4
              subst h4'
              cases h5 : comEnd u with
              | none => rw [silM_open h5]; simp
              | some r => rw [silM_com h5]; have := comEnd_len h5; simp only [List.length_cons] at hs ⊢; have := ih r (by omega); omega
            | none => rw [silM_slash h4]; simp
          · rw [silM_stop t h1 h2 h3]; simp

/- P4.3. -/
def decV (l : List UInt8) : Nat := l.foldl (fun n c => 10 * n + (c.toNat - 48)) 0
/-- The times, and what is behind. -/
def timesM (s : List UInt8) : Nat × List UInt8 :=
  match s with
  | [] => (1, [])
  | c :: t => if c = 75 ∨ c = 107 then (1024, t) else if c = 77 ∨ c = 109 then (1048576, t) else (1, c :: t)
theorem timesM_len (s : List UInt8) : (timesM s).2.length ≤ s.length := by
  unfold timesM
  split
  · simp
  · split
    · simp
    · split <;> simp
def headW (s : List UInt8) : Bool := match s with | [] => false | c :: _ => wordyC c
abbrev Cutting := Except Int (Tok × List UInt8)
def numM (s : List UInt8) : Cutting :=
  let r := timesM (s.dropWhile digitC)
  if headW r.2 then .error 3
  else if 2147483647 < decV (s.takeWhile digitC) * r.1 then .error 6
  else .ok ({ kind := 3, text := [], num := (decV (s.takeWhile digitC) * r.1 : Nat) }, r.2)
/- P4.4. -/
/-- A text in quotes, behind the first one; behind a backslash, or not. -/
def strM : Bool → List UInt8 → Option (List UInt8 × List UInt8)
  | _, [] => none
  | true, c :: t => (strM false t).map fun x => (c :: x.1, x.2)
  | false, c :: t => if c = 34 then some ([], t) else if c = 92 then strM true t else (strM false t).map fun x => (c :: x.1, x.2)
theorem strM_len {b : Bool} {s : List UInt8} {x : List UInt8 × List UInt8} (h : strM b s = some x) : x.2.length < s.length := by
  induction s generalizing b x with
  | nil => cases b <;> cases h
  | cons c t ih =>
    cases b with
    | true =>
      unfold strM at h
      rw [Option.map_eq_some_iff] at h
      obtain ⟨y, hy, rfl⟩ := h
      have := ih hy; simp; omega
    | false =>
      unfold strM at h
      split at h
      · cases h; simp
      · split at h
        · have := ih h; simp; omega
        · rw [Option.map_eq_some_iff] at h
          obtain ⟨y, hy, rfl⟩ := h
          have := ih hy; simp; omega
/-- P4.1: the token that begins a text. -/
def tokM (s : List UInt8) : Cutting :=
  match s with
  | [] => .error 3
  | c :: t =>
    if letterC c then .ok ({ kind := 1, text := c :: t.takeWhile wordyC, num := 0 }, t.dropWhile wordyC)
    else if c = 58 ∧ (t.head?.map letterC).getD false = true then .ok ({ kind := 2, text := t.takeWhile wordyC, num := 0 }, t.dropWhile wordyC)
    else if digitC c then numM (c :: t)
    else if c = 34 then (match strM false t with | none => .error 4 | some x => .ok ({ kind := 4, text := x.1, num := 0 }, x.2))
    else if markC c then .ok ({ kind := 5, text := [c], num := 0 }, t)
    else .error 3
theorem dropW_len (p : UInt8 → Bool) (s : List UInt8) : (s.dropWhile p).length ≤ s.length := (List.dropWhile_suffix _).length_le
theorem tokM_len {s : List UInt8} {x : Tok × List UInt8} (h : tokM s = .ok x) : x.2.length < s.length := by
  cases s with
  | nil => cases h
  | cons c t =>
    simp only [tokM] at h
    split at h
    · cases h; have := dropW_len wordyC t; simp; omega
    · split at h
      · cases h; have := dropW_len wordyC t; simp; omega
      · split at h
        · rename_i hd
          unfold numM at h
          simp only at h
          split at h
          · cases h
          · split at h
            · cases h
            · cases h
              have h1 := timesM_len ((c :: t).dropWhile digitC)
              have h2 : ((c :: t).dropWhile digitC).length ≤ t.length := by rw [List.dropWhile_cons, if_pos hd]; exact dropW_len _ _
              simp; omega
        · split at h
          · split at h
            · cases h
            · rename_i x hx; cases h; have := strM_len hx; simp; omega
          · split at h
            · cases h; simp
            · cases h

/- P4.5. -/
/-- A token begins a text, right or wrong. -/
def begM (s : List UInt8) : Bool := match s with | [] => false | c :: t => letterC c || (c == 58 && (t.head?.map letterC).getD false) || digitC c || c == 34 || markC c
theorem tokM_beg {s : List UInt8} (h : begM s = false) : tokM s = .error 3 := by
  cases s with
  | nil => rfl
  | cons c t =>
    simp only [begM, Bool.or_eq_false_iff, Bool.and_eq_false_iff, beq_eq_false_iff_ne] at h
    obtain ⟨⟨⟨⟨h1, h2⟩, h3⟩, h4⟩, h5⟩ := h
    simp only [tokM, h1, h3, h5, Bool.false_eq_true, if_false, if_neg h4]
    rw [if_neg]
    rintro ⟨a, b⟩
    rcases h2 with h2 | h2
    · exact h2 a
    · rw [b] at h2; cases h2
/-- The tokens of a text, k being ahead of them; or how much there is from where something is wrong on, and the error. So many steps at most. -/
def cutF : Nat → Nat → List UInt8 → Except (Nat × Int) (List Tok)
  | 0, _, _ => .ok []
  | n + 1, k, s =>
    if (silM s).1 = false then .error ((silM s).2.length, 4)
    else if (silM s).2 = [] then .ok []
    else if k = 400 then .error ((silM s).2.length, if begM (silM s).2 then 5 else 3)
    else match tokM (silM s).2 with
      | .error e => .error ((silM s).2.length, e)
      | .ok x => (match cutF n (k + 1) x.2 with | .error e => .error e | .ok l => .ok (x.1 :: l))
theorem cutF_more : ∀ (n m k : Nat) (s : List UInt8), s.length < n → s.length < m → cutF n k s = cutF m k s := by
  intro n
  induction n with
  | zero => intro m k s h; omega
  | succ n ih =>
    intro m k s h1 h2
    cases m with
    | zero => omega
    | succ m =>
      simp only [cutF]
      cases ht : tokM (silM s).2 with
      | error e => rfl
      | ok x =>
        have l1 := tokM_len ht
        have l2 := silM_len _ s (Nat.le_refl _)
        simp only
        rw [ih m (k + 1) x.2 (by omega) (by omega)]
def cutP (k : Nat) (s : List UInt8) : Except (Nat × Int) (List Tok) := cutF (s.length + 1) k s
theorem cutP_eq (k : Nat) (s : List UInt8) : cutP k s =
    if (silM s).1 = false then .error ((silM s).2.length, 4)
    else if (silM s).2 = [] then .ok []
    else if k = 400 then .error ((silM s).2.length, if begM (silM s).2 then 5 else 3)
    else match tokM (silM s).2 with
      | .error e => .error ((silM s).2.length, e)
      | .ok x => (match cutP (k + 1) x.2 with | .error e => .error e | .ok l => .ok (x.1 :: l)) := by
  show cutF (s.length + 1) k s = _
  simp only [cutF]
  cases ht : tokM (silM s).2 with
  | error e => rfl
  | ok x =>
    have l1 := tokM_len ht
    have l2 := silM_len _ s (Nat.le_refl _)
    simp only
    rw [cutF_more s.length (x.2.length + 1) (k + 1) x.2 (by omega) (by omega)]
    rfl
def cutM (s : List UInt8) : List Tok × Int × Int :=
  if 2000 < s.length then ([], 0, 1)
  else match cutP 0 s with
    | .ok l => (l, 0, 0)
    | .error (n, e) => ([], ((s.length - n : Nat) : Int), e)

/- P4.6. -/
def wordB (l : List UInt8) : Bool := (l.head?.map letterC).getD false && l.all wordyC
def faultT (t : Tok) : Int :=
  if ¬ (1 ≤ t.kind ∧ t.kind ≤ 5) then 2
  else if t.kind = 3 then (if ¬ (0 ≤ t.num ∧ t.num ≤ 2147483647) then 6 else if t.text ≠ [] then 3 else 0)
  else if t.num ≠ 0 then 3
  else if t.kind = 5 then (if t.text.length = 1 ∧ t.text.all markC = true then 0 else 3)
  else if t.kind = 4 then 0
  else if wordB t.text then 0 else 3

/- P4.7. -/
def decL (n : Nat) : List UInt8 := Lib.decDigits n
theorem decL_eq (n : Nat) : decL n = if n < 10 then [UInt8.ofNat (48 + n)] else decL (n / 10) ++ [UInt8.ofNat (48 + n % 10)] := by
  unfold decL
  rw [Lib.decDigits]
  split
  · rfl
  · rfl
def quoteL (l : List UInt8) : List UInt8 := l.flatMap fun c => if c = 34 ∨ c = 92 then [92, c] else [c]
def textT (t : Tok) : List UInt8 :=
  if t.kind = 3 then decL t.num.toNat
  else if t.kind = 2 then 58 :: t.text
  else if t.kind = 4 then 34 :: (quoteL t.text ++ [34])
  else t.text
/-- The tokens' texts, and what ends it: behind so many bytes. -/
def joinP (acc : List UInt8) : List Tok → Except Int (List UInt8)
  | [] => .ok acc
  | t :: ts =>
    if faultT t ≠ 0 then .error (faultT t)
    else if 2000 < (acc ++ textT t ++ [32]).length then .error 1
    else joinP (acc ++ textT t ++ [32]) ts
def joinM (ts : List Tok) : List UInt8 × Int :=
  if 400 < ts.length then ([], 5)
  else match joinP [] ts with
    | .ok s => (s, 0)
    | .error e => ([], e)
end Go.Proofs.YtkdngmhcfkfppaaGreatDoor
