/-
  Plain facts on scripts: what commands and tests are, which may be, how they are shown and read. No program is named here.
-/
import Derived.Test.YtkdngmhcfkfppaaGreatDoorTokPure
namespace Go.Proofs.YtkdngmhcfkfppaaGreatDoor
open Go.RowKit

/-- A test. -/
structure Tst where
  kind : Int
  mat : Int
  part : Int
  names : List (List UInt8)
  keys : List (List UInt8)
  over : Bool
  limit : Int
  tests : List Tst
/-- A command. -/
structure Cmd where
  kind : Int
  texts : List (List UInt8)
  test : Tst
  thn : List Cmd
  els : List Cmd
def noneT : Tst := ⟨0, 0, 0, [], [], false, 0, []⟩

/- Words. -/
def wTabs : List (List (List UInt8)) := [
  [[], [114, 101, 113, 117, 105, 114, 101], [105, 102], [107, 101, 101, 112], [100, 105, 115, 99, 97, 114, 100], [102, 105, 108, 101, 105, 110, 116, 111], [114, 101, 100, 105, 114, 101, 99, 116], [114, 101, 106, 101, 99, 116], [115, 101, 116, 102, 108, 97, 103], [97, 100, 100, 102, 108, 97, 103], [115, 116, 111, 112]],
  [[], [116, 114, 117, 101], [102, 97, 108, 115, 101], [110, 111, 116], [97, 108, 108, 111, 102], [97, 110, 121, 111, 102], [104, 101, 97, 100, 101, 114], [97, 100, 100, 114, 101, 115, 115], [101, 110, 118, 101, 108, 111, 112, 101], [101, 120, 105, 115, 116, 115], [115, 105, 122, 101]],
  [[], [105, 115], [99, 111, 110, 116, 97, 105, 110, 115], [109, 97, 116, 99, 104, 101, 115], [], [], [], [], [], [], []],
  [[], [97, 108, 108], [108, 111, 99, 97, 108, 112, 97, 114, 116], [100, 111, 109, 97, 105, 110], [], [], [], [], [], [], []]]
def wordOf (k n : Nat) : List UInt8 := (wTabs.getD k []).getD n []
def numIn : List (List UInt8) → Nat → List UInt8 → Nat
  | [], _, _ => 0
  | x :: r, n, s => if x = s then n else numIn r (n + 1) s
/-- The number that a word has in a table; 0: none. -/
def numberP (k : Nat) (s : List UInt8) : Nat := numIn (wTabs.getD k []) 0 s
def isNumP (k : Nat) (n : Int) : Bool := decide (0 ≤ n) && decide (n < 11) && !(wordOf k n.toNat).isEmpty
theorem isNum_cmd (n : Int) : isNumP 0 n = (decide (1 ≤ n) && decide (n ≤ 10)) := by
  unfold isNumP
  by_cases h0 : 0 ≤ n
  · by_cases h1 : n < 11
    · obtain ⟨k, rfl⟩ := Int.eq_ofNat_of_zero_le h0
      have hk : k < 11 := by omega
      match k, hk with
      | 0, _ | 1, _ | 2, _ | 3, _ | 4, _ | 5, _ | 6, _ | 7, _ | 8, _ | 9, _ | 10, _ => rfl
    · simp [h1]; omega
  · simp [h0]; omega
theorem isNum_tst (n : Int) : isNumP 1 n = (decide (1 ≤ n) && decide (n ≤ 10)) := by
  unfold isNumP
  by_cases h0 : 0 ≤ n
  · by_cases h1 : n < 11
    · obtain ⟨k, rfl⟩ := Int.eq_ofNat_of_zero_le h0
      have hk : k < 11 := by omega
      match k, hk with
      | 0, _ | 1, _ | 2, _ | 3, _ | 4, _ | 5, _ | 6, _ | 7, _ | 8, _ | 9, _ | 10, _ => rfl
    · simp [h1]; omega
  · simp [h0]; omega
theorem isNum_mat (n : Int) : isNumP 2 n = (decide (1 ≤ n) && decide (n ≤ 3)) := by
  unfold isNumP
  by_cases h0 : 0 ≤ n
  · by_cases h1 : n < 11
    · obtain ⟨k, rfl⟩ := Int.eq_ofNat_of_zero_le h0
      have hk : k < 11 := by omega
      match k, hk with
      | 0, _ | 1, _ | 2, _ | 3, _ | 4, _ | 5, _ | 6, _ | 7, _ | 8, _ | 9, _ | 10, _ => rfl
    · simp [h1]; omega
  · simp [h0]; omega
theorem isNum_part (n : Int) : isNumP 3 n = (decide (1 ≤ n) && decide (n ≤ 3)) := by
  unfold isNumP
  by_cases h0 : 0 ≤ n
  · by_cases h1 : n < 11
    · obtain ⟨k, rfl⟩ := Int.eq_ofNat_of_zero_le h0
      have hk : k < 11 := by omega
      match k, hk with
      | 0, _ | 1, _ | 2, _ | 3, _ | 4, _ | 5, _ | 6, _ | 7, _ | 8, _ | 9, _ | 10, _ => rfl
    · simp [h1]; omega
  · simp [h0]; omega

/- P5.6. -/
def noTst (t : Tst) : Bool := decide (t.kind = 0) && decide (t.mat = 0) && decide (t.part = 0) && decide (t.names.length = 0) && decide (t.keys.length = 0) && !t.over && decide (t.limit = 0) && decide (t.tests.length = 0)
def cmpB (t : Tst) : Bool := isNumP 2 t.mat && decide (0 < t.names.length) && decide (0 < t.keys.length)
/-- A test has just what its kind has. -/
def fitsT (t : Tst) : Bool :=
  if t.kind = 3 then decide (t.tests.length = 1) && noTst { t with kind := 0, tests := [] }
  else if t.kind = 4 ∨ t.kind = 5 then decide (0 < t.tests.length) && noTst { t with kind := 0, tests := [] }
  else if t.kind = 6 then cmpB t && noTst { t with kind := 0, mat := 0, names := [], keys := [] }
  else if t.kind = 7 ∨ t.kind = 8 then cmpB t && isNumP 3 t.part && noTst { t with kind := 0, mat := 0, part := 0, names := [], keys := [] }
  else if t.kind = 9 then decide (0 < t.names.length) && noTst { t with kind := 0, names := [] }
  else if t.kind = 10 then decide (0 ≤ t.limit ∧ t.limit ≤ 2147483647) && noTst { t with kind := 0, over := false, limit := 0 }
  else noTst { t with kind := 0 }
def oneP (k : Bool) (d : Nat) (f : Bool) : Int := if k = false then 2 else if 6 < d then 1 else if f = false then 3 else 0
def firstP {A : Type} (f : A → Int) : List A → Int
  | [] => 0
  | x :: r => if f x = 0 then firstP f r else f x
def faultTst : Nat → Nat → Tst → Int
  | 0, _, _ => 0
  | n + 1, d, t => if oneP (isNumP 1 t.kind) d (fitsT t) = 0 then firstP (faultTst n (d + 1)) t.tests else oneP (isNumP 1 t.kind) d (fitsT t)
def fitsC (c : Cmd) : Bool :=
  if c.kind ≠ 2 ∧ (0 < c.thn.length ∨ 0 < c.els.length ∨ noTst c.test = false) then false
  else if c.kind = 1 ∨ c.kind = 8 ∨ c.kind = 9 then decide (0 < c.texts.length)
  else if c.kind = 5 ∨ c.kind = 6 ∨ c.kind = 7 then decide (c.texts.length = 1)
  else decide (c.texts.length = 0)
def elsifP : List Cmd → Option Cmd
  | [c] => if c.kind = 2 then some c else none
  | _ => none
def faultCmd : Nat → Nat → Cmd → Int
  | 0, _, _ => 0
  | n + 1, d, c =>
    if oneP (isNumP 0 c.kind) d (fitsC c) ≠ 0 then oneP (isNumP 0 c.kind) d (fitsC c)
    else if c.kind ≠ 2 then 0
    else if faultTst n 1 c.test ≠ 0 then faultTst n 1 c.test
    else if firstP (faultCmd n (d + 1)) c.thn ≠ 0 then firstP (faultCmd n (d + 1)) c.thn
    else match elsifP c.els with
      | some x => faultCmd n d x
      | none => firstP (faultCmd n (d + 1)) c.els
theorem faultCmd_step (n d : Nat) (c : Cmd) : faultCmd (n + 1) d c =
    if oneP (isNumP 0 c.kind) d (fitsC c) ≠ 0 then oneP (isNumP 0 c.kind) d (fitsC c)
    else if c.kind ≠ 2 then 0
    else if faultTst n 1 c.test ≠ 0 then faultTst n 1 c.test
    else if firstP (faultCmd n (d + 1)) c.thn ≠ 0 then firstP (faultCmd n (d + 1)) c.thn
    else match elsifP c.els with
      | some x => faultCmd n d x
      | none => firstP (faultCmd n (d + 1)) c.els := rfl
theorem elsifP_some {l : List Cmd} {x : Cmd} (h : elsifP l = some x) : l = [x] ∧ x.kind = 2 := by
  match l with
  | [] => cases h
  | [c] =>
    by_cases hk : c.kind = 2
    · simp only [elsifP, if_pos hk, Option.some.injEq] at h; subst h; exact ⟨rfl, hk⟩
    · simp only [elsifP, if_neg hk] at h; cases h
  | a :: b :: r => cases h
def faultCmds (n d : Nat) (l : List Cmd) : Int := firstP (faultCmd n d) l

/- P5.7. -/
def wordT (s : List UInt8) : Tok := ⟨1, s, 0⟩
def tagT (s : List UInt8) : Tok := ⟨2, s, 0⟩
def strT (s : List UInt8) : Tok := ⟨4, s, 0⟩
def markT (c : UInt8) : Tok := ⟨5, [c], 0⟩
def sepT {A : Type} (f : A → List Tok) : List A → List Tok
  | [] => []
  | x :: r => f x ++ r.flatMap fun y => markT 44 :: f y
def listT : List (List UInt8) → List Tok
  | [x] => [strT x]
  | l => markT 91 :: (sepT (fun x => [strT x]) l ++ [markT 93])
def elsifW : List UInt8 := [101, 108, 115, 105, 102]
def elseW : List UInt8 := [101, 108, 115, 101]
def overW : List UInt8 := [111, 118, 101, 114]
def underW : List UInt8 := [117, 110, 100, 101, 114]
def testT : Nat → Tst → List Tok
  | 0, _ => []
  | n + 1, t =>
    wordT (wordOf 1 t.kind.toNat) ::
      (if t.kind = 3 then (t.tests.head?.map (testT n)).getD []
       else if t.kind = 4 ∨ t.kind = 5 then markT 40 :: (sepT (testT n) t.tests ++ [markT 41])
       else if t.kind = 6 then tagT (wordOf 2 t.mat.toNat) :: (listT t.names ++ listT t.keys)
       else if t.kind = 7 ∨ t.kind = 8 then tagT (wordOf 3 t.part.toNat) :: tagT (wordOf 2 t.mat.toNat) :: (listT t.names ++ listT t.keys)
       else if t.kind = 9 then listT t.names
       else if t.kind = 10 then [tagT (if t.over then overW else underW), ⟨3, [], t.limit⟩]
       else [])
/-- What stands behind a command's word. -/
def restT : Nat → Cmd → List Tok
  | 0, _ => []
  | n + 1, c =>
    if c.kind = 2 then
      testT n c.test ++ (markT 123 :: (c.thn.flatMap fun x => wordT (wordOf 0 x.kind.toNat) :: restT n x) ++ [markT 125]) ++
        (match elsifP c.els with
         | some x => wordT elsifW :: restT n x
         | none => if c.els.length = 0 then [] else wordT elseW :: markT 123 :: (c.els.flatMap fun x => wordT (wordOf 0 x.kind.toNat) :: restT n x) ++ [markT 125])
    else (if c.texts.length = 0 then [] else listT c.texts) ++ [markT 59]
def cmdT (n : Nat) (c : Cmd) : List Tok := wordT (wordOf 0 c.kind.toNat) :: restT n c
def cmdsT (n : Nat) (l : List Cmd) : List Tok := l.flatMap (cmdT n)
def checkM (n : Nat) (l : List Cmd) : Int := if faultCmds n 0 l ≠ 0 then faultCmds n 0 l else if 400 < (cmdsT n l).length then 5 else 0
end Go.Proofs.YtkdngmhcfkfppaaGreatDoor
