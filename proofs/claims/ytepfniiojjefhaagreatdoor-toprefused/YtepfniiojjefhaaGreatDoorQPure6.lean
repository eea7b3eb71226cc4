/-
  Plain facts on bytes and lists: small letters in place of great ones; no program is named here.
  Plain facts on messages as lists of bytes: names, values, lines; what is shown, what is parsed. No program is named here.
  Plain facts on messages: what is parsed of a text, line by line; what is shown is parsed as it was. No program is named here.
  Plain facts on messages: what is parsed may be; a torn text; lines that are none. No program is named here.
  The three users of the laws of the whole: their names and scripts, and the walk of the laws' users.
  Plain facts on tokens: what a script is cut into, what tokens are joined to. No program is named here.
  Plain facts on scripts: what commands and tests are, which may be, how they are shown and read. No program is named here.
  Worlds of which all but one block of what was there is as it was. No program is named here.
  Tests and commands in memory: rows within rows. No function of the program is named here.
  Plain facts on scripts: how tokens are read. No program is named here.
  Plain facts on texts of lists of bytes (empty or not, their pieces) and on worlds. No program is named here.
  A token in a block of its own, as the walks of package token make it.
  Rows of tokens in memory, and those that a call has made.
  Plain facts on tokens: what a script is cut into, what tokens are joined to. No program is named here.
  Plain facts on scripts: what commands and tests are, which may be, how they are shown and read. No program is named here.
  Worlds of which all but one block of what was there is as it was. No program is named here.
  Tests and commands in memory: rows within rows. No function of the program is named here.
  Plain facts on scripts: how tokens are read. No program is named here.
-/
import Derived.WalkKit
import Derived.Lib.SlTrimSet
import Derived.Lib.IndexMore
import Derived.Lib.IndexLaws
import Derived.Test.YtepfniiojjefhaaGreatDoorRows
import Derived.OpenShut
import Derived.Lib.ItoaNum
import Derived.Below
import Derived.Laws.AppendOwn
import Derived.Lib.Strings
import Derived.Deep.Draws
import Derived.WalkSpells
import Derived.WalkLawsBesides
import Derived.Shelf.Abstract
import Derived.Laws.IdiomStrings
namespace Go.Proofs.YtepfniiojjefhaaGreatDoor
open Go.RowKit

/-- One byte with a small letter in place of a great one. -/
def low1 (c : UInt8) : UInt8 := if 65 ≤ (c.toNat : Int) ∧ (c.toNat : Int) ≤ 90 then UInt8.ofNat (c.toNat + 32) else c

/-- A text so, byte by byte. -/
def lowL (l : List UInt8) : List UInt8 := l.map low1
def low (s : ByteArray) : ByteArray := ⟨(lowL s.data.toList).toArray⟩

theorem size_list (s : ByteArray) : s.data.toList.length = s.size := by rw [Array.length_toList]; rfl
theorem take_snoc (s : ByteArray) (k : Nat) (h : k < s.size) : s.data.toList.take (k + 1) = s.data.toList.take k ++ [s[k]] := by
  rw [List.take_succ_eq_append_getElem (by simpa using h)]; rfl
theorem get_list (s : ByteArray) (k : Nat) (h : k < s.size) : s.data.toList[k]? = some s[k] := by
  rw [List.getElem?_eq_getElem (by simpa using h)]; rfl

theorem ret_int {k : IntKind} {a b : Int} (h : a = b) : Ending.returned (.int k a) = .returned (.int k b) := by rw [h]
theorem ret_bool {a b : Bool} (h : a = b) : Ending.returned (.bool a) = .returned (.bool b) := by rw [h]

theorem setCell_mark {w : World} {g i : Nat} {cs : Array Value} {t : TypeId} {fr : Nat × Nat} (v : Value) (hg : w.heap[g]? = some (.cells cs t fr)) :
    (w.setCell ⟨g, i, none⟩ v).heap[g]? = some (.cells (cs.setIfInBounds i v) t fr) := by
  rw [setCell_eq_setRow w g i cs t fr v hg]
  exact setRow_heap w g cs _ t _ hg

end Go.Proofs.YtepfniiojjefhaaGreatDoor

namespace Go.Proofs.YtepfniiojjefhaaGreatDoor
open Go.RowKit

/-- A text of a list of bytes. -/
def S (l : List UInt8) : ByteArray := ⟨l.toArray⟩
theorem S_list (s : ByteArray) : S s.data.toList = s := by cases s; simp [S]
theorem list_S (l : List UInt8) : (S l).data.toList = l := by simp [S]
theorem size_S (l : List UInt8) : (S l).size = l.length := by simp [S, ByteArray.size]
theorem S_inj {a b : List UInt8} (h : S a = S b) : a = b := by
  have := congrArg (fun s => s.data.toList) h
  simpa [list_S] using this

def blankB (c : UInt8) : Bool := c == 32 || c == 9
abbrev F := List UInt8 × List UInt8
theorem take_some {α : Type} {l : List α} {k : Nat} {x : α} (h : l[k]? = some x) : l.take (k + 1) = l.take k ++ [x] := by
  obtain ⟨hk, rfl⟩ := List.getElem?_eq_some_iff.1 h
  exact List.take_succ_eq_append_getElem hk
/- Lines. -/
/- Colons. -/
theorem index_one (l : List UInt8) (c : UInt8) : Lib.index l [c] = Lib.indexByte l c := by
  induction l with
  | nil => rfl
  | cons b l ih =>
    unfold Lib.index Lib.indexByte
    rw [ih]
    by_cases h : b = c
    · subst h; simp
    · have : (c == b) = false := by simp; exact fun e => h e.symm
      simp [List.isPrefixOf, h, this]
/- Blanks at the ends. -/
end Go.Proofs.YtepfniiojjefhaaGreatDoor

namespace Go.Proofs.YtepfniiojjefhaaGreatDoor
open Go.RowKit

/- Line's ends, in parts of a text. -/
/- Names. -/
/- Fields, a line each. -/
/- Blanks at the ends. -/
/- What is shown is parsed as it was. -/
end Go.Proofs.YtepfniiojjefhaaGreatDoor

namespace Go.Proofs.YtepfniiojjefhaaGreatDoor
open Go.RowKit

end Go.Proofs.YtepfniiojjefhaaGreatDoor
namespace Go.Proofs.YtepfniiojjefhaaGreatDoor
open Go.RowKit Go.Proofs

def nmA : List UInt8 := [97, 110, 110]
def nmB : List UInt8 := [98, 111, 98]
def nmC : List UInt8 := [99, 97, 116]
/-- bob's script. -/
def scrB : List UInt8 := [114, 101, 113, 117, 105, 114, 101, 32, 91, 34, 102, 105, 108, 101, 105, 110, 116, 111, 34, 44, 32, 34, 105, 109, 97, 112, 52, 102, 108, 97, 103, 115, 34, 93, 59, 32, 105, 102, 32, 104, 101, 97, 100, 101, 114, 32, 58, 99, 111, 110, 116, 97, 105, 110, 115, 32, 34, 115, 117, 98, 106, 101, 99, 116, 34, 32, 34, 119, 111, 114, 107, 34, 32, 123, 32, 115, 101, 116, 102, 108, 97, 103, 32, 34, 92, 92, 83, 101, 101, 110, 34, 59, 32, 102, 105, 108, 101, 105, 110, 116, 111, 32, 34, 119, 111, 114, 107, 34, 59, 32, 125, 32, 101, 108, 115, 105, 102, 32, 115, 105, 122, 101, 32, 58, 111, 118, 101, 114, 32, 51, 48, 48, 32, 123, 32, 100, 105, 115, 99, 97, 114, 100, 59, 32, 125]
/-- cat's script. -/
def scrC : List UInt8 := [114, 101, 113, 117, 105, 114, 101, 32, 91, 34, 114, 101, 106, 101, 99, 116, 34, 44, 32, 34, 101, 110, 118, 101, 108, 111, 112, 101, 34, 93, 59, 32, 105, 102, 32, 101, 110, 118, 101, 108, 111, 112, 101, 32, 58, 108, 111, 99, 97, 108, 112, 97, 114, 116, 32, 34, 102, 114, 111, 109, 34, 32, 34, 115, 112, 97, 109, 34, 32, 123, 32, 114, 101, 106, 101, 99, 116, 32, 34, 110, 111, 34, 59, 32, 125, 32, 101, 108, 115, 105, 102, 32, 101, 120, 105, 115, 116, 115, 32, 34, 108, 105, 115, 116, 34, 32, 123, 32, 114, 101, 100, 105, 114, 101, 99, 116, 32, 34, 97, 110, 110, 64, 120, 46, 121, 34, 59, 32, 107, 101, 101, 112, 59, 32, 125]
/-- The row of users. -/
def usrRow (a1 a2 b1 b2 c1 c2 : List UInt8) : Obj := .cells #[.string (S a1), .string (S a2), .string (S b1), .string (S b2), .string (S c1), .string (S c2)] 28
set_option maxRecDepth 100000 in
theorem users_any (w : World) :
    Calls Tryz.prog 4 #[] w fun e w' => e = .returned (.slice (some ⟨w.heap.size, 0, none⟩) 3 3) ∧ w' = w.alloc (usrRow nmA [] nmB scrB nmC scrC) := by
  go_enter Tryz.func4, Tryz.ntmps4
  go_wp2
  go_ret
  exact ⟨rfl, rfl⟩
end Go.Proofs.YtepfniiojjefhaaGreatDoor
namespace Go.Proofs.YtepfniiojjefhaaGreatDoor
open Go.RowKit

/- P4.1. -/
structure Tok where
  kind : Int
  text : List UInt8
  num : Int

/- P4.2. -/
/- P4.3. -/
abbrev Cutting := Except Int (Tok × List UInt8)
/- P4.4. -/
/- P4.5. -/
/- P4.6. -/
/- P4.7. -/
end Go.Proofs.YtepfniiojjefhaaGreatDoor

namespace Go.Proofs.YtepfniiojjefhaaGreatDoor
open Go.RowKit

/-- A test. -/
structure Tst where
  kind : Int
  mat : Int
  part : Int
  names : List (List UInt8)
  keys : List (List UInt8)
  over : Bool
  limit : Int
  tests : List Tst
/-- A command. -/
structure Cmd where
  kind : Int
  texts : List (List UInt8)
  test : Tst
  thn : List Cmd
  els : List Cmd
def noneT : Tst := ⟨0, 0, 0, [], [], false, 0, []⟩

/- Words. -/
def wTabs : List (List (List UInt8)) := [
  [[], [114, 101, 113, 117, 105, 114, 101], [105, 102], [107, 101, 101, 112], [100, 105, 115, 99, 97, 114, 100], [102, 105, 108, 101, 105, 110, 116, 111], [114, 101, 100, 105, 114, 101, 99, 116], [114, 101, 106, 101, 99, 116], [115, 101, 116, 102, 108, 97, 103], [97, 100, 100, 102, 108, 97, 103], [115, 116, 111, 112]],
  [[], [116, 114, 117, 101], [102, 97, 108, 115, 101], [110, 111, 116], [97, 108, 108, 111, 102], [97, 110, 121, 111, 102], [104, 101, 97, 100, 101, 114], [97, 100, 100, 114, 101, 115, 115], [101, 110, 118, 101, 108, 111, 112, 101], [101, 120, 105, 115, 116, 115], [115, 105, 122, 101]],
  [[], [105, 115], [99, 111, 110, 116, 97, 105, 110, 115], [109, 97, 116, 99, 104, 101, 115], [], [], [], [], [], [], []],
  [[], [97, 108, 108], [108, 111, 99, 97, 108, 112, 97, 114, 116], [100, 111, 109, 97, 105, 110], [], [], [], [], [], [], []]]
def wordOf (k n : Nat) : List UInt8 := (wTabs.getD k []).getD n []
def numIn : List (List UInt8) → Nat → List UInt8 → Nat
  | [], _, _ => 0
  | x :: r, n, s => if x = s then n else numIn r (n + 1) s
def isNumP (k : Nat) (n : Int) : Bool := decide (0 ≤ n) && decide (n < 11) && !(wordOf k n.toNat).isEmpty
theorem isNum_cmd (n : Int) : isNumP 0 n = (decide (1 ≤ n) && decide (n ≤ 10)) := by
  unfold isNumP
  by_cases h0 : 0 ≤ n
  · by_cases h1 : n < 11
    · obtain ⟨k, rfl⟩ := Int.eq_ofNat_of_zero_le h0
      have hk : k < 11 := by omega
      match k, hk with
      | 0, _ | 1, _ | 2, _ | 3, _ | 4, _ | 5, _ | 6, _ | 7, _ | 8, _ | 9, _ | 10, _ => rfl
    · simp [h1]; omega
  · simp [h0]; omega
theorem isNum_tst (n : Int) : isNumP 1 n = (decide (1 ≤ n) && decide (n ≤ 10)) := by
  unfold isNumP
  by_cases h0 : 0 ≤ n
  · by_cases h1 : n < 11
    · obtain ⟨k, rfl⟩ := Int.eq_ofNat_of_zero_le h0
      have hk : k < 11 := by omega
      match k, hk with
      | 0, _ | 1, _ | 2, _ | 3, _ | 4, _ | 5, _ | 6, _ | 7, _ | 8, _ | 9, _ | 10, _ => rfl
    · simp [h1]; omega
  · simp [h0]; omega
theorem isNum_mat (n : Int) : isNumP 2 n = (decide (1 ≤ n) && decide (n ≤ 3)) := by
  unfold isNumP
  by_cases h0 : 0 ≤ n
  · by_cases h1 : n < 11
    · obtain ⟨k, rfl⟩ := Int.eq_ofNat_of_zero_le h0
      have hk : k < 11 := by omega
      match k, hk with
      | 0, _ | 1, _ | 2, _ | 3, _ | 4, _ | 5, _ | 6, _ | 7, _ | 8, _ | 9, _ | 10, _ => rfl
    · simp [h1]; omega
  · simp [h0]; omega
theorem isNum_part (n : Int) : isNumP 3 n = (decide (1 ≤ n) && decide (n ≤ 3)) := by
  unfold isNumP
  by_cases h0 : 0 ≤ n
  · by_cases h1 : n < 11
    · obtain ⟨k, rfl⟩ := Int.eq_ofNat_of_zero_le h0
      have hk : k < 11 := by omega
      match k, hk with
      | 0, _ | 1, _ | 2, _ | 3, _ | 4, _ | 5, _ | 6, _ | 7, _ | 8, _ | 9, _ | 10, _ => rfl
    · simp [h1]; omega
  · simp [h0]; omega

/- P5.6. -/
def noTst (t : Tst) : Bool := decide (t.kind = 0) && decide (t.mat = 0) && decide (t.part = 0) && decide (t.names.length = 0) && decide (t.keys.length = 0) && !t.over && decide (t.limit = 0) && decide (t.tests.length = 0)
def cmpB (t : Tst) : Bool := isNumP 2 t.mat && decide (0 < t.names.length) && decide (0 < t.keys.length)
/-- A test has just what its kind has. -/
def fitsT (t : Tst) : Bool :=
  if t.kind = 3 then decide (t.tests.length = 1) && noTst { t with kind := 0, tests := [] }
  else if t.kind = 4 ∨ t.kind = 5 then decide (0 < t.tests.length) && noTst { t with kind := 0, tests := [] }
  else if t.kind = 6 then cmpB t && noTst { t with kind := 0, mat := 0, names := [], keys := [] }
  else if t.kind = 7 ∨ t.kind = 8 then cmpB t && isNumP 3 t.part && noTst { t with kind := 0, mat := 0, part := 0, names := [], keys := [] }
  else if t.kind = 9 then decide (0 < t.names.length) && noTst { t with kind := 0, names := [] }
  else if t.kind = 10 then decide (0 ≤ t.limit ∧ t.limit ≤ 2147483647) && noTst { t with kind := 0, over := false, limit := 0 }
  else noTst { t with kind := 0 }
def oneP (k : Bool) (d : Nat) (f : Bool) : Int := if k = false then 2 else if 6 < d then 1 else if f = false then 3 else 0
def firstP {A : Type} (f : A → Int) : List A → Int
  | [] => 0
  | x :: r => if f x = 0 then firstP f r else f x
def faultTst : Nat → Nat → Tst → Int
  | 0, _, _ => 0
  | n + 1, d, t => if oneP (isNumP 1 t.kind) d (fitsT t) = 0 then firstP (faultTst n (d + 1)) t.tests else oneP (isNumP 1 t.kind) d (fitsT t)
def fitsC (c : Cmd) : Bool :=
  if c.kind ≠ 2 ∧ (0 < c.thn.length ∨ 0 < c.els.length ∨ noTst c.test = false) then false
  else if c.kind = 1 ∨ c.kind = 8 ∨ c.kind = 9 then decide (0 < c.texts.length)
  else if c.kind = 5 ∨ c.kind = 6 ∨ c.kind = 7 then decide (c.texts.length = 1)
  else decide (c.texts.length = 0)
def elsifP : List Cmd → Option Cmd
  | [c] => if c.kind = 2 then some c else none
  | _ => none
def faultCmd : Nat → Nat → Cmd → Int
  | 0, _, _ => 0
  | n + 1, d, c =>
    if oneP (isNumP 0 c.kind) d (fitsC c) ≠ 0 then oneP (isNumP 0 c.kind) d (fitsC c)
    else if c.kind ≠ 2 then 0
    else if faultTst n 1 c.test ≠ 0 then faultTst n 1 c.test
    else if firstP (faultCmd n (d + 1)) c.thn ≠ 0 then firstP (faultCmd n (d + 1)) c.thn
    else match elsifP c.els with
      | some x => faultCmd n d x
      | none => firstP (faultCmd n (d + 1)) c.els
theorem faultCmd_step (n d : Nat) (c : Cmd) : faultCmd (n + 1) d c =
    if oneP (isNumP 0 c.kind) d (fitsC c) ≠ 0 then oneP (isNumP 0 c.kind) d (fitsC c)
    else if c.kind ≠ 2 then 0
    else if faultTst n 1 c.test ≠ 0 then faultTst n 1 c.test
    else if firstP (faultCmd n (d + 1)) c.thn ≠ 0 then firstP (faultCmd n (d + 1)) c.thn
    else match elsifP c.els with
      | some x => faultCmd n d x
      | none => firstP (faultCmd n (d + 1)) c.els := rfl
theorem elsifP_some {l : List Cmd} {x : Cmd} (h : elsifP l = some x) : l = [x] ∧ x.kind = 2 := by
  match l with
  | [] => cases h
  | [c] =>
    by_cases hk : c.kind = 2
    · simp only [elsifP, if_pos hk, Option.some.injEq] at h; subst h; exact ⟨rfl, hk⟩
    · simp only [elsifP, if_neg hk] at h; cases h
  | a :: b :: r => cases h
def faultCmds (n d : Nat) (l : List Cmd) : Int := firstP (faultCmd n d) l

/- P5.7. -/
def wordT (s : List UInt8) : Tok := ⟨1, s, 0⟩
def tagT (s : List UInt8) : Tok := ⟨2, s, 0⟩
def strT (s : List UInt8) : Tok := ⟨4, s, 0⟩
def markT (c : UInt8) : Tok := ⟨5, [c], 0⟩
def sepT {A : Type} (f : A → List Tok) : List A → List Tok
  | [] => []
  | x :: r => f x ++ r.flatMap fun y => markT 44 :: f y
def listT : List (List UInt8) → List Tok
  | [x] => [strT x]
  | l => markT 91 :: (sepT (fun x => [strT x]) l ++ [markT 93])
def elsifW : List UInt8 := [101, 108, 115, 105, 102]
def elseW : List UInt8 := [101, 108, 115, 101]
def overW : List UInt8 := [111, 118, 101, 114]
def underW : List UInt8 := [117, 110, 100, 101, 114]
def testT : Nat → Tst → List Tok
  | 0, _ => []
  | n + 1, t =>
    wordT (wordOf 1 t.kind.toNat) ::
      (if t.kind = 3 then (t.tests.head?.map (testT n)).getD []
       else if t.kind = 4 ∨ t.kind = 5 then markT 40 :: (sepT (testT n) t.tests ++ [markT 41])
       else if t.kind = 6 then tagT (wordOf 2 t.mat.toNat) :: (listT t.names ++ listT t.keys)
       else if t.kind = 7 ∨ t.kind = 8 then tagT (wordOf 3 t.part.toNat) :: tagT (wordOf 2 t.mat.toNat) :: (listT t.names ++ listT t.keys)
       else if t.kind = 9 then listT t.names
       else if t.kind = 10 then [tagT (if t.over then overW else underW), ⟨3, [], t.limit⟩]
       else [])
/-- What stands behind a command's word. -/
def restT : Nat → Cmd → List Tok
  | 0, _ => []
  | n + 1, c =>
    if c.kind = 2 then
      testT n c.test ++ (markT 123 :: (c.thn.flatMap fun x => wordT (wordOf 0 x.kind.toNat) :: restT n x) ++ [markT 125]) ++
        (match elsifP c.els with
         | some x => wordT elsifW :: restT n x
         | none => if c.els.length = 0 then [] else wordT elseW :: markT 123 :: (c.els.flatMap fun x => wordT (wordOf 0 x.kind.toNat) :: restT n x) ++ [markT 125])
    else (if c.texts.length = 0 then [] else listT c.texts) ++ [markT 59]
def cmdT (n : Nat) (c : Cmd) : List Tok := wordT (wordOf 0 c.kind.toNat) :: restT n c
def cmdsT (n : Nat) (l : List Cmd) : List Tok := l.flatMap (cmdT n)
def checkM (n : Nat) (l : List Cmd) : Int := if faultCmds n 0 l ≠ 0 then faultCmds n 0 l else if 400 < (cmdsT n l).length then 5 else 0
end Go.Proofs.YtepfniiojjefhaaGreatDoor

namespace Go.Proofs.YtepfniiojjefhaaGreatDoor
open Go.RowKit

/-- All but one block of what was there is as it was. -/
structure But (b : Nat) (w w' : World) : Prop where
  os : w'.os = w.os
  tape : w'.tape = w.tape
  output : w'.output = w.output
  size : w.heap.size ≤ w'.heap.size
  block : ∀ k, k < w.heap.size → k ≠ b → w'.heap[k]? = w.heap[k]?

theorem But.refl (b : Nat) (w : World) : But b w w := ⟨rfl, rfl, rfl, Nat.le_refl _, fun _ _ _ => rfl⟩
theorem But.trans {b : Nat} {x y z : World} (h : But b x y) (k : But b y z) : But b x z :=
  ⟨k.os.trans h.os, k.tape.trans h.tape, k.output.trans h.output, Nat.le_trans h.size k.size, fun i hi hn => (k.block i (Nat.lt_of_lt_of_le hi h.size) hn).trans (h.block i hi hn)⟩
theorem But.of {b : Nat} {w w' : World} (h : Below w.heap.size w w') : But b w w' := ⟨h.os, h.tape, h.output, h.size, fun k hk _ => h.block k hk⟩
theorem But.set {b : Nat} (w : World) (v : Value) : But b w (w.setCell ⟨b, 0, none⟩ v) :=
  ⟨rfl, rfl, rfl, by simp [World.setCell], fun k _ hn => Below.heap_setCell _ _ _ _ hn⟩
theorem But.below {b B : Nat} {w w' : World} (h : But b w w') (hB : B ≤ b) (hw : B ≤ w.heap.size) : Below B w w' :=
  ⟨h.os, h.tape, h.output, h.size, fun k hk => h.block k (by omega) (by omega)⟩
theorem But.cell {b : Nat} {w w' : World} (h : But b w w') {p : Addr} {v : Value} (hp : w.cell? p = some v) (hn : p.block ≠ b) : w'.cell? p = some v :=
  (World.cell?_of_block (w := w) (h.block p.block (World.block_lt_of_cell? w _ hp) hn)).trans hp
theorem But.frozen {b : Nat} {w w' : World} (h : But b w w') {p : Addr} (hl : p.block < w.heap.size) (hp : w.frozen? p = false) (hn : p.block ≠ b) : w'.frozen? p = false :=
  (World.frozen?_of_block (w := w) (h.block p.block hl hn)).trans hp
theorem own_but {w w' : World} {r base : Nat} {e : TypeId} {size : Nat} {v : Value} {n : Nat} {xs : List Value} (h : w.ownsRow base e size v n xs) (hb : But r w w') (hr : r < base) : w'.ownsRow base e size v n xs := by
  refine ⟨h.1, ?_⟩
  rcases h.2 with h' | ⟨g, cap, cur, h1, h2, hg, q⟩
  · exact .inl h'
  · refine .inr ⟨g, cap, cur, h1, h2, ?_, q⟩
    rw [hb.block g (by
      rcases Nat.lt_or_ge g w.heap.size with h' | h'
      · exact h'
      · rw [Array.getElem?_eq_none h'] at hg; cases hg) (by omega)]
    exact hg
/-- A block of one cell: a variable that a closure has captured. -/
def Box (w : World) (b : Nat) (v : Value) (t : TypeId) : Prop := w.heap[b]? = some (.cells #[v] t)
theorem Box.cell {w : World} {b : Nat} {v : Value} {t : TypeId} (h : Box w b v t) : w.cell? ⟨b, 0, none⟩ = some v := by
  unfold Box at h; simp [World.cell?, h]
theorem Box.free {w : World} {b : Nat} {v : Value} {t : TypeId} (h : Box w b v t) : w.frozen? ⟨b, 0, none⟩ = false := by
  unfold Box at h; simp [World.frozen?, h]
theorem Box.lt {w : World} {b : Nat} {v : Value} {t : TypeId} (h : Box w b v t) : b < w.heap.size := World.block_lt_of_cell? w _ h.cell
theorem Box.below {w w' : World} {b B : Nat} {v : Value} {t : TypeId} (h : Box w b v t) (hb : Below B w w') (hB : b < B) : Box w' b v t := (hb.block b hB).trans h
theorem Box.set {w : World} {b : Nat} {v : Value} {t : TypeId} (h : Box w b v t) (u : Value) : Box (w.setCell ⟨b, 0, none⟩ u) b u t := setCell_mark _ h
theorem Box.but {w w' : World} {b r : Nat} {v : Value} {t : TypeId} (h : Box w b v t) (hb : But r w w') (hn : b ≠ r) : Box w' b v t := (hb.block b h.lt hn).trans h
theorem Box.new (w : World) (v : Value) (t : TypeId) : Box (w.alloc (.cells #[v] t)) w.heap.size v t := by
  show (w.heap.push _)[w.heap.size]? = _
  simp
end Go.Proofs.YtepfniiojjefhaaGreatDoor

namespace Go.Proofs.YtepfniiojjefhaaGreatDoor
open Go.RowKit

theorem hid {p : Prop} (h : p) : Hid p := h
/-- What lies in blocks that Q lets is as it was. -/
structure Keeps (Q : Nat → Prop) (w w' : World) : Prop where
  size : w.heap.size ≤ w'.heap.size
  block : ∀ b, b < w.heap.size → Q b → w'.heap[b]? = w.heap[b]?
theorem Keeps.refl (Q : Nat → Prop) (w : World) : Keeps Q w w := ⟨Nat.le_refl _, fun _ _ _ => rfl⟩
theorem Keeps.of_below {Q : Nat → Prop} {w w' : World} (h : Below w.heap.size w w') : Keeps Q w w' := ⟨h.size, fun b hb _ => h.block b hb⟩
theorem Keeps.of_below' {Q : Nat → Prop} {w w' : World} {B : Nat} (h : Below B w w') (hq : ∀ b, Q b → b < B) : Keeps Q w w' := ⟨h.size, fun b _ hb => h.block b (hq b hb)⟩
theorem Keeps.of_but {Q : Nat → Prop} {w w' : World} {r : Nat} (h : But r w w') (hq : ∀ b, Q b → b ≠ r) : Keeps Q w w' := ⟨h.size, fun b hb hQ => h.block b hb (hq b hQ)⟩
theorem Keeps.trans {Q : Nat → Prop} {x y z : World} (h : Keeps Q x y) (k : Keeps Q y z) : Keeps Q x z :=
  ⟨Nat.le_trans h.size k.size, fun b hb hQ => (k.block b (Nat.lt_of_lt_of_le hb h.size) hQ).trans (h.block b hb hQ)⟩
theorem Keeps.set {Q : Nat → Prop} (w : World) {p : Addr} (v : Value) (hq : ∀ b, Q b → b ≠ p.block) : Keeps Q w (w.setCell p v) :=
  ⟨by simp [World.setCell], fun b _ hQ => Below.heap_setCell _ _ _ _ (hq b hQ)⟩
theorem Keeps.more {Q : Nat → Prop} {w w' : World} (h : Keeps Q w w') (o : Obj) : Keeps Q w (w'.alloc o) :=
  ⟨by have := h.size; simp; omega, fun b hb hQ => ((show (w'.alloc o).heap[b]? = w'.heap[b]? by show (w'.heap.push o)[b]? = _; rw [Array.getElem?_push_lt (Nat.lt_of_lt_of_le hb h.size), Array.getElem?_eq_getElem (Nat.lt_of_lt_of_le hb h.size)])).trans (h.block b hb hQ)⟩

/-- A row of things of so many cells each, in blocks that Q lets. -/
def RowM {A : Type} (Q : Nat → Prop) (k : Nat) (P : A → List Value → Prop) (w : World) (v : Value) (l : List A) : Prop :=
  ∃ a c, v = .slice a l.length c ∧ l.length ≤ maxLen ∧ ∀ (i : Nat) (x : A), l[i]? = some x → ∃ b o cs, a = some ⟨b, o, none⟩ ∧ b < w.heap.size ∧ Q b ∧ cs.length = k ∧ (∀ (j : Nat) u, cs[j]? = some u → w.cell? ⟨b, o + i * k + j, none⟩ = some u) ∧ P x cs
def TxtM (x : List UInt8) (cs : List Value) : Prop := cs = [.string (S x)]
def TxtsM (Q : Nat → Prop) (w : World) (v : Value) (l : List (List UInt8)) : Prop := RowM Q 1 TxtM w v l
def TstM (Q : Nat → Prop) : Nat → World → Tst → List Value → Prop
  | 0, _, _, _ => False
  | n + 1, w, t, cs => ∃ vn vk vt, cs = [.int .i64 t.kind, .int .i64 t.mat, .int .i64 t.part, vn, vk, .bool t.over, .int .i64 t.limit, vt] ∧ TxtsM Q w vn t.names ∧ TxtsM Q w vk t.keys ∧ RowM Q 8 (TstM Q n w) w vt t.tests
def CmdM (Q : Nat → Prop) : Nat → World → Cmd → List Value → Prop
  | 0, _, _, _ => False
  | n + 1, w, c, cs => ∃ vx vn vk vt va ve, cs = [.int .i64 c.kind, vx, .int .i64 c.test.kind, .int .i64 c.test.mat, .int .i64 c.test.part, vn, vk, .bool c.test.over, .int .i64 c.test.limit, vt, va, ve] ∧ TxtsM Q w vx c.texts ∧
      TstM Q n w c.test [.int .i64 c.test.kind, .int .i64 c.test.mat, .int .i64 c.test.part, vn, vk, .bool c.test.over, .int .i64 c.test.limit, vt] ∧ RowM Q 12 (CmdM Q n w) w va c.thn ∧ RowM Q 12 (CmdM Q n w) w ve c.els
abbrev TstsM (Q : Nat → Prop) (n : Nat) (w : World) (v : Value) (l : List Tst) : Prop := RowM Q 8 (TstM Q n w) w v l
abbrev CmdsM (Q : Nat → Prop) (n : Nat) (w : World) (v : Value) (l : List Cmd) : Prop := RowM Q 12 (CmdM Q n w) w v l

theorem RowM.imp {A : Type} {Q Q' : Nat → Prop} {k : Nat} {P P' : A → List Value → Prop} {w w' : World} {v : Value} {l : List A} (h : RowM Q k P w v l) (hq : ∀ b, Q b → Q' b) (hk : Keeps Q w w') (hp : ∀ x cs, P x cs → P' x cs) : RowM Q' k P' w' v l := by
  obtain ⟨a, c, hv, hm, hx⟩ := h
  refine ⟨a, c, hv, hm, fun i x hi => ?_⟩
  obtain ⟨b, o, cs, ha, hb, hQ, hl, hc, hP⟩ := hx i x hi
  exact ⟨b, o, cs, ha, Nat.lt_of_lt_of_le hb hk.size, hq b hQ, hl, fun j u hj => (World.cell?_of_block (hk.block b hb hQ)).trans (hc j u hj), hp x cs hP⟩
theorem TxtsM.imp {Q Q' : Nat → Prop} {w w' : World} {v : Value} {l : List (List UInt8)} (h : TxtsM Q w v l) (hq : ∀ b, Q b → Q' b) (hk : Keeps Q w w') : TxtsM Q' w' v l := RowM.imp h hq hk fun _ _ h => h
theorem TstM.imp {Q Q' : Nat → Prop} {w w' : World} (hq : ∀ b, Q b → Q' b) (hk : Keeps Q w w') : ∀ (n : Nat) (t : Tst) (cs : List Value), TstM Q n w t cs → TstM Q' n w' t cs := by
  intro n
  induction n with
  | zero => intro t cs h; exact h
  | succ n ih =>
    intro t cs h
    obtain ⟨vn, vk, vt, h0, h1, h2, h3⟩ := h
    exact ⟨vn, vk, vt, h0, h1.imp hq hk, h2.imp hq hk, RowM.imp h3 hq hk ih⟩
theorem CmdM.imp {Q Q' : Nat → Prop} {w w' : World} (hq : ∀ b, Q b → Q' b) (hk : Keeps Q w w') : ∀ (n : Nat) (c : Cmd) (cs : List Value), CmdM Q n w c cs → CmdM Q' n w' c cs := by
  intro n
  induction n with
  | zero => intro t cs h; exact h
  | succ n ih =>
    intro t cs h
    obtain ⟨vx, vn, vk, vt, va, ve, h0, h1, h2, h3, h4⟩ := h
    exact ⟨vx, vn, vk, vt, va, ve, h0, h1.imp hq hk, TstM.imp hq hk _ _ _ h2, RowM.imp h3 hq hk ih, RowM.imp h4 hq hk ih⟩
theorem TstM.more {Q : Nat → Prop} {w : World} : ∀ (n m : Nat) (t : Tst) (cs : List Value), n ≤ m → TstM Q n w t cs → TstM Q m w t cs := by
  intro n
  induction n with
  | zero => intro m t cs _ h; exact h.elim
  | succ n ih =>
    intro m t cs hm h
    obtain ⟨vn, vk, vt, h0, h1, h2, h3⟩ := h
    cases m with
    | zero => omega
    | succ m => exact ⟨vn, vk, vt, h0, h1, h2, RowM.imp h3 (fun _ h => h) (Keeps.refl _ _) fun x cs h => ih m x cs (by omega) h⟩
theorem CmdM.more {Q : Nat → Prop} {w : World} : ∀ (n m : Nat) (t : Cmd) (cs : List Value), n ≤ m → CmdM Q n w t cs → CmdM Q m w t cs := by
  intro n
  induction n with
  | zero => intro m t cs _ h; exact h.elim
  | succ n ih =>
    intro m t cs hm h
    obtain ⟨vx, vn, vk, vt, va, ve, h0, h1, h2, h3, h4⟩ := h
    cases m with
    | zero => omega
    | succ m => exact ⟨vx, vn, vk, vt, va, ve, h0, h1, TstM.more _ _ _ _ (by omega) h2, RowM.imp h3 (fun _ h => h) (Keeps.refl _ _) (fun x cs h => ih m x cs (by omega) h), RowM.imp h4 (fun _ h => h) (Keeps.refl _ _) fun x cs h => ih m x cs (by omega) h⟩
abbrev anyB : Nat → Prop := fun _ => True
theorem TstM.next {Q : Nat → Prop} {n : Nat} {w w' : World} {t : Tst} {cs : List Value} (h : TstM Q n w t cs) (hb : Below w.heap.size w w') : TstM Q n w' t cs := TstM.imp (fun _ h => h) (Keeps.of_below hb) _ _ _ h
theorem CmdM.next {Q : Nat → Prop} {n : Nat} {w w' : World} {c : Cmd} {cs : List Value} (h : CmdM Q n w c cs) (hb : Below w.heap.size w w') : CmdM Q n w' c cs := CmdM.imp (fun _ h => h) (Keeps.of_below hb) _ _ _ h
theorem TstsM.next {Q : Nat → Prop} {n : Nat} {w w' : World} {v : Value} {l : List Tst} (h : TstsM Q n w v l) (hb : Below w.heap.size w w') : TstsM Q n w' v l := RowM.imp h (fun _ h => h) (Keeps.of_below hb) fun _ _ h => TstM.next h hb
theorem CmdsM.next {Q : Nat → Prop} {n : Nat} {w w' : World} {v : Value} {l : List Cmd} (h : CmdsM Q n w v l) (hb : Below w.heap.size w w') : CmdsM Q n w' v l := RowM.imp h (fun _ h => h) (Keeps.of_below hb) fun _ _ h => CmdM.next h hb
theorem TxtsM.next {Q : Nat → Prop} {w w' : World} {v : Value} {l : List (List UInt8)} (h : TxtsM Q w v l) (hb : Below w.heap.size w w') : TxtsM Q w' v l := h.imp (fun _ h => h) (Keeps.of_below hb)
theorem RowM.slice {A : Type} {Q : Nat → Prop} {k : Nat} {P : A → List Value → Prop} {w : World} {v : Value} {l : List A} (h : RowM Q k P w v l) : ∃ a c, v = .slice a l.length c := by
  obtain ⟨a, c, hv, _⟩ := h; exact ⟨a, c, hv⟩
theorem rowM_nil {A : Type} (Q : Nat → Prop) (k : Nat) (P : A → List Value → Prop) (w : World) (a : Option Addr) (c : Nat) : RowM Q k P w (.slice a 0 c) ([] : List A) := ⟨a, c, rfl, by simp, fun i x h => by simp at h⟩
theorem RowM.small {A : Type} {Q : Nat → Prop} {k : Nat} {P : A → List Value → Prop} {w : World} {v : Value} {l : List A} (h : RowM Q k P w v l) : l.length ≤ maxLen := by
  obtain ⟨_, _, _, hm, _⟩ := h; exact hm
end Go.Proofs.YtepfniiojjefhaaGreatDoor

namespace Go.Proofs.YtepfniiojjefhaaGreatDoor
open Go.RowKit

/- What is read is taken. -/
end Go.Proofs.YtepfniiojjefhaaGreatDoor
namespace Go.Proofs.YtepfniiojjefhaaGreatDoor
open Go.RowKit

theorem S_some (c : UInt8) (t : List UInt8) : (S (c :: t)).toList.isEmpty = false := by rw [Lib.toList_data, list_S]; rfl
theorem S_none : (S []).toList.isEmpty = true := by rw [Lib.toList_data, list_S]; rfl
theorem S_pos (c : UInt8) (t : List UInt8) : 0 < (S (c :: t)).size := by rw [size_S]; simp
theorem S_drop (s : List UInt8) (k : Nat) : (S s).extract k (S s).size = S (s.drop k) := by
  rw [Lib.extract_eq, list_S, size_S, List.take_of_length_le (by simp)]; rfl
theorem S_take (s : List UInt8) (k : Nat) : (S s).extract 0 k = S (s.take k) := by
  rw [Lib.extract_eq, list_S]; rfl
theorem S_head (c : UInt8) (t : List UInt8) (h : 0 < (S (c :: t)).size) : (S (c :: t))[0] = c := rfl
theorem byte_round (c : UInt8) : ((c.toNat : Int)).toNat.toUInt8 = c := by simp
theorem wcell_next {w w' : World} {p : Addr} {v : Value} (h : w.cell? p = some v) (hb : Below w.heap.size w w') : w'.cell? p = some v :=
  (hb.cell (World.block_lt_of_cell? w _ h)).trans h
theorem wdrew {B : Nat} {a w : World} (h : Below B a w) (n : Nat) : Below B a (w.drewN n) := h.trans ⟨rfl, rfl, rfl, Nat.le_refl _, fun _ _ => rfl⟩
theorem wnext {B : Nat} {a b c : World} (h : Below B a b) (k : Below b.heap.size b c) (hB : B ≤ a.heap.size) : Below B a c := h.trans (k.mono (Nat.le_trans hB h.size))
end Go.Proofs.YtepfniiojjefhaaGreatDoor
namespace Go.Proofs.YtepfniiojjefhaaGreatDoor
open Go.RowKit Go.Proofs

theorem S_get (s : List UInt8) (k : Nat) (h : k < (S s).size) (h' : k < s.length) : (S s)[k]'h = s[k]'h' := by
  have this : (S s)[k]'h = (S s).data.toList[k]'(by simpa using h) := rfl
  rw [this]
  simp [list_S]

/-- A token as it stands in memory. -/
def tokV (t : Tok) : Value := .agg #[.int .i64 t.kind, .string (S t.text), .int .i64 t.num]
def zeroT : Tok := { kind := 0, text := [], num := 0 }
def TokB (w : World) (b : Nat) (t : Tok) : Prop := w.heap[b]? = some (.cells #[.int .i64 t.kind, .string (S t.text), .int .i64 t.num] 149)
theorem TokB.c0 {w : World} {b : Nat} {t : Tok} (h : TokB w b t) : w.cell? ⟨b, 0, none⟩ = some (.int .i64 t.kind) := by unfold TokB at h; simp [World.cell?, h]
theorem TokB.c1 {w : World} {b : Nat} {t : Tok} (h : TokB w b t) : w.cell? ⟨b, 1, none⟩ = some (.string (S t.text)) := by unfold TokB at h; simp [World.cell?, h]
theorem TokB.c2 {w : World} {b : Nat} {t : Tok} (h : TokB w b t) : w.cell? ⟨b, 2, none⟩ = some (.int .i64 t.num) := by unfold TokB at h; simp [World.cell?, h]
theorem TokB.free {w : World} {b : Nat} {t : Tok} (h : TokB w b t) (o : Nat) : w.frozen? ⟨b, o, none⟩ = false := by unfold TokB at h; simp [World.frozen?, h]
theorem TokB.lt {w : World} {b : Nat} {t : Tok} (h : TokB w b t) : b < w.heap.size := World.block_lt_of_cell? w _ h.c0
theorem TokB.far {w : World} {b : Nat} {t : Tok} (h : TokB w b t) {p : Addr} (hn : b ≠ p.block) (v : Value) : TokB (w.setCell p v) b t := (Below.heap_setCell _ _ _ _ hn).trans h
theorem TokB.but {w w' : World} {r b : Nat} {t : Tok} (h : TokB w b t) (hb : But r w w') (hn : b ≠ r) : TokB w' b t := (hb.block b h.lt hn).trans h
theorem TokB.below {w w' : World} {b B : Nat} {t : Tok} (h : TokB w b t) (hb : Below B w w') (hB : b < B) : TokB w' b t := (hb.block b hB).trans h
theorem TokB.next {w w' : World} {b : Nat} {t : Tok} (h : TokB w b t) (hb : Below w.heap.size w w') : TokB w' b t := (hb.block b h.lt).trans h
theorem tokB_new (w : World) (t : Tok) : TokB (w.alloc (.cells #[.int .i64 t.kind, .string (S t.text), .int .i64 t.num] 149)) w.heap.size t := by
  unfold TokB
  show (w.heap.push _)[w.heap.size]? = _
  simp
/-- What reading one token does: the token and how many bytes it takes, or an error. -/
def Tk (w : World) (s : List UInt8) (r : Cutting) (e : Ending) (w' : World) : Prop :=
  match r with
  | .error x => e = .returned (.tuple #[tokV zeroT, .int .i64 0, .int .i64 x]) ∧ Below w.heap.size w w'
  | .ok (t, rest) => e = .returned (.tuple #[tokV t, .int .i64 (s.length - rest.length : Nat), .int .i64 0]) ∧ Below w.heap.size w w'
end Go.Proofs.YtepfniiojjefhaaGreatDoor

namespace Go.Proofs.YtepfniiojjefhaaGreatDoor
open Go.RowKit Go.Proofs

/- Rows of tokens. -/
theorem infoTok : (Tryz.prog.info? 149).map (fun i => (i.zero, i.size, i.bytes)) = some (some (.agg #[.int .i64 0, .string ByteArray.empty, .int .i64 0]), 3, 32) := by kernel_rfl
def cellsT (l : List Tok) : List Value := l.flatMap fun t => [.int .i64 t.kind, .string (S t.text), .int .i64 t.num]
theorem cellsT_snoc (l : List Tok) (t : Tok) : cellsT (l ++ [t]) = cellsT l ++ [.int .i64 t.kind, .string (S t.text), .int .i64 t.num] := by simp [cellsT]
theorem cellsT_get {l : List Tok} {i : Nat} {t : Tok} (h : l[i]? = some t) : (cellsT l)[i * 3]? = some (.int .i64 t.kind) ∧ (cellsT l)[i * 3 + 1]? = some (.string (S t.text)) ∧ (cellsT l)[i * 3 + 2]? = some (.int .i64 t.num) := by
  induction l generalizing i with
  | nil => simp at h
  | cons g l ih =>
    cases i with
    | zero => simp at h; subst h; simp [cellsT]
    | succ i =>
      have := ih (i := i) (by simpa using h)
      have e1 : (i + 1) * 3 = i * 3 + 3 := by omega
      rw [e1]
      simpa [cellsT] using this
def OwnT (w : World) (B : Nat) (v : Value) (l : List Tok) : Prop := w.ownsRow B 149 3 v l.length (cellsT l)
/-- The tokens lie in memory from a place on. -/
def ToksAt (w : World) (a : Option Addr) (l : List Tok) : Prop :=
  ∀ (i : Nat) t, l[i]? = some t → ∃ b o, a = some ⟨b, o, none⟩ ∧ b < w.heap.size ∧ w.cell? ⟨b, o + i * 3, none⟩ = some (.int .i64 t.kind) ∧ w.cell? ⟨b, o + i * 3 + 1, none⟩ = some (.string (S t.text)) ∧ w.cell? ⟨b, o + i * 3 + 2, none⟩ = some (.int .i64 t.num)
theorem ToksAt.below {w w' : World} {a : Option Addr} {l : List Tok} (h : ToksAt w a l) (hb : Below w.heap.size w w') : ToksAt w' a l := by
  intro i x hx
  obtain ⟨b, o, ha, hlt, h1, h2, h3⟩ := h i x hx
  exact ⟨b, o, ha, Nat.lt_of_lt_of_le hlt hb.size, wcell_next h1 hb, wcell_next h2 hb, wcell_next h3 hb⟩
theorem toks_nil (w : World) (a : Option Addr) : ToksAt w a [] := fun i x hx => by simp at hx
theorem OwnT.any {w : World} {B : Nat} {v : Value} {l : List Tok} (h : OwnT w B v l) : ∃ a cap, v = .slice a l.length cap := by
  rcases h.2 with ⟨rfl, hn⟩ | ⟨g, cap, cur, rfl, _⟩
  · exact ⟨none, 0, by rw [hn]⟩
  · exact ⟨_, _, rfl⟩
theorem OwnT.at {w : World} {B : Nat} {a : Option Addr} {c : Nat} {l : List Tok} (h : OwnT w B (.slice a l.length c) l) : ToksAt w a l := by
  intro i x hx
  have hi : i < l.length := (List.getElem?_eq_some_iff.1 hx).1
  rcases h.2 with ⟨_, hn⟩ | ⟨g, cap, cur, hv, hb, hg, q⟩
  · omega
  · simp only [Value.slice.injEq, true_and] at hv
    obtain ⟨rfl, rfl⟩ := hv
    have hgl : g < w.heap.size := by
      rcases Nat.lt_or_ge g w.heap.size with h' | h'
      · exact h'
      · rw [Array.getElem?_eq_none h'] at hg; cases hg
    obtain ⟨h1, h2, h3⟩ := cellsT_get hx
    refine ⟨g, 0, rfl, hgl, ?_, ?_, ?_⟩
    · rw [Nat.zero_add, World.ownsRow.cellAt h (i * 3) (by omega)]; exact h1
    · rw [Nat.zero_add, World.ownsRow.cellAt h (i * 3 + 1) (by omega)]; exact h2
    · rw [Nat.zero_add, World.ownsRow.cellAt h (i * 3 + 2) (by omega)]; exact h3
theorem own_next {w w' : World} {base : Nat} {e : TypeId} {size : Nat} {v : Value} {n : Nat} {xs : List Value} (h : w.ownsRow base e size v n xs) (hb : Below w.heap.size w w') : w'.ownsRow base e size v n xs := by
  refine ⟨h.1, ?_⟩
  rcases h.2 with h' | ⟨g, cap, cur, h1, h2, hg, q⟩
  · exact .inl h'
  · refine .inr ⟨g, cap, cur, h1, h2, ?_, q⟩
    rw [hb.block g (by
      rcases Nat.lt_or_ge g w.heap.size with h' | h'
      · exact h'
      · rw [Array.getElem?_eq_none h'] at hg; cases hg)]
    exact hg
theorem tri_at (W : World) (n : Nat) (hn : W.heap.size = n) (x y z : Value) (t : TypeId) : ∀ (j : Nat) u, [x, y, z][j]? = some u → (W.alloc (.cells #[x, y, z] t)).cell? ((⟨n, 0, none⟩ : Addr).add j) = some u := by
  subst hn
  intro j u hj
  rw [Addr.add_lit, Nat.zero_add]
  match j, hj with
  | 0, hj => simp at hj; subst hj; simp
  | 1, hj => simp at hj; subst hj; simp
  | 2, hj => simp at hj; subst hj; simp
end Go.Proofs.YtepfniiojjefhaaGreatDoor
namespace Go.Proofs.YtepfniiojjefhaaGreatDoor
open Go.RowKit

/- P4.1. -/
def letterC (c : UInt8) : Bool := (decide (97 ≤ c.toNat) && decide (c.toNat ≤ 122)) || (decide (65 ≤ c.toNat) && decide (c.toNat ≤ 90)) || c == 95
def digitC (c : UInt8) : Bool := decide (48 ≤ c.toNat) && decide (c.toNat ≤ 57)
def wordyC (c : UInt8) : Bool := letterC c || digitC c
def markL : List UInt8 := [123, 125, 40, 41, 91, 93, 59, 44]
def markC (c : UInt8) : Bool := markL.contains c
def spaceC (c : UInt8) : Bool := c == 32 || c == 9 || c == 13 || c == 10

/- P4.2. -/
/-- What is behind the next end of a comment. -/
def comEnd : List UInt8 → Option (List UInt8)
  | [] => none
  | [_] => none
  | a :: b :: t => if a = 42 ∧ b = 47 then some t else comEnd (b :: t)
theorem comEnd_len {s r : List UInt8} (h : comEnd s = some r) : r.length < s.length := by
  induction s with
  | nil => cases h
  | cons a t ih =>
    cases t with
    | nil => cases h
    | cons b t =>
      unfold comEnd at h
      split at h
      · cases h; simp; omega
      · have := ih h; simp at this ⊢; omega
def lineEnd (s : List UInt8) : List UInt8 := s.dropWhile (· != 10)
theorem lineEnd_len (s : List UInt8) : (lineEnd s).length ≤ s.length := (List.dropWhile_suffix _).length_le
def starP (t : List UInt8) : Option (List UInt8) := match t with | [] => none | c :: u => if c = 42 then some u else none
theorem starP_some {t u : List UInt8} (h : starP t = some u) : t = 42 :: u := by
  cases t with
  | nil => cases h
  | cons c v =>
    by_cases e : c = 42
    · simp only [starP, if_pos e, Option.some.injEq] at h; rw [e, h]
    · simp only [starP, if_neg e] at h; cases h
/-- What is behind blanks and comments; or, a comment not ending, that comment on. So many steps at most. -/
def silF : Nat → List UInt8 → Bool × List UInt8
  | 0, s => (true, s)
  | _ + 1, [] => (true, [])
  | n + 1, c :: t =>
    if spaceC c then silF n t
    else if c = 35 then silF n (lineEnd t)
    else if c = 47 then
      match starP t with
      | none => (true, c :: t)
      | some u => (match comEnd u with | none => (false, c :: t) | some r => silF n r)
    else (true, c :: t)
theorem silF_more : ∀ (n m : Nat) (s : List UInt8), s.length ≤ n → s.length ≤ m → silF n s = silF m s := by
  intro n
  induction n with
  | zero =>
    intro m s h1 _
    have e : s = [] := List.length_eq_zero_iff.1 (by omega)
    subst e
    cases m <;> rfl
  | succ n ih =>
    intro m s h1 h2
    cases s with
    | nil => cases m <;> rfl
    | cons c t =>
      cases m with
      | zero => simp at h2
      | succ m =>
        simp only [List.length_cons] at h1 h2
        have hl := lineEnd_len t
        simp only [silF]
        rw [ih m t (by omega) (by omega), ih m (lineEnd t) (by omega) (by omega)]
        cases hs : starP t with
        | none => rfl
        | some u =>
          have hu := congrArg List.length (starP_some hs)
          simp only [List.length_cons] at hu
          simp only
          cases hc : comEnd u with
          | none => rfl
          | some r =>
            have hr := comEnd_len hc
            simp only
            rw [ih m r (by omega) (by omega)]
def silM (s : List UInt8) : Bool × List UInt8 := silF s.length s
theorem silM_cons (c : UInt8) (t : List UInt8) : silM (c :: t) =
    if spaceC c then silM t
    else if c = 35 then silM (lineEnd t)
    else if c = 47 then
      match starP t with
      | none => (true, c :: t)
      | some u => (match comEnd u with | none => (false, c :: t) | some r => silM r)
    else (true, c :: t) := by
  have hl := lineEnd_len t
  show silF (t.length + 1) (c :: t) = _
  simp only [silF]
  rw [silF_more t.length (lineEnd t).length (lineEnd t) (by omega) (Nat.le_refl _)]
  cases hs : starP t with
  | none => rfl
  | some u =>
    have hu := congrArg List.length (starP_some hs)
    simp only [List.length_cons] at hu
    simp only
    cases hc : comEnd u with
    | none => rfl
    | some r =>
      have hr := comEnd_len hc
      simp only
      rw [silF_more t.length r.length r (by omega) (Nat.le_refl _)]
      rfl
theorem silM_nil : silM [] = (true, []) := rfl
theorem silM_space {c : UInt8} (t : List UInt8) (h : spaceC c = true) : silM (c :: t) = silM t := by rw [silM_cons, if_pos h]
theorem silM_hash (t : List UInt8) : silM (35 :: t) = silM (lineEnd t) := by
  rw [silM_cons, if_neg (by decide), if_pos rfl]
theorem silM_stop {c : UInt8} (t : List UInt8) (h1 : spaceC c = false) (h2 : c ≠ 35) (h3 : c ≠ 47) : silM (c :: t) = (true, c :: t) := by
  rw [silM_cons, if_neg (by rw [h1]; simp), if_neg h2, if_neg h3]
theorem silM_slash {t : List UInt8} (h : starP t = none) : silM (47 :: t) = (true, 47 :: t) := by
  rw [silM_cons, if_neg (by decide), if_neg (by decide), if_pos rfl, h]
theorem silM_open {u : List UInt8} (h : comEnd u = none) : silM (47 :: 42 :: u) = (false, 47 :: 42 :: u) := by
  have h2 : starP (42 :: u) = some u := by simp [starP]
  rw [silM_cons, if_neg (by decide), if_neg (by decide), if_pos rfl, h2]
  simp only [h]
theorem silM_com {u r : List UInt8} (h : comEnd u = some r) : silM (47 :: 42 :: u) = silM r := by
  have h2 : starP (42 :: u) = some u := by simp [starP]
  rw [silM_cons, if_neg (by decide), if_neg (by decide), if_pos rfl, h2]
  simp only [h]
theorem silM_len : ∀ (n : Nat) (s : List UInt8), s.length ≤ n → (silM s).2.length ≤ s.length := by
  intro n
  induction n with
  | zero => intro s hs; cases s with
    | nil => rw [silM_nil]; simp
    | cons c t => simp at hs
  | succ n ih =>
    intro s hs
    cases s with
    | nil => rw [silM_nil]; simp
    | cons c t =>
      simp only [List.length_cons] at hs
      cases h1 : spaceC c with
      | true => rw [silM_space t h1]; have := ih t (by omega); simp; omega
      | false =>
        by_cases h2 : c = 35
        · subst h2; rw [silM_hash]; have h3 := lineEnd_len t; have := ih (lineEnd t) (by omega); simp; omega
        · by_cases h3 : c = 47
          · subst h3
            cases h4 : starP t with
            | some u =>
              have h4' := starP_some h4
              subst h4'
              cases h5 : comEnd u with
              | none => rw [silM_open h5]; simp
              | some r => rw [silM_com h5]; have := comEnd_len h5; simp only [List.length_cons] at hs ⊢; have := ih r (by omega); omega
            | none => rw [silM_slash h4]; simp
          · rw [silM_stop t h1 h2 h3]; simp

/- P4.3. -/
def decV (l : List UInt8) : Nat := l.foldl (fun n c => 10 * n + (c.toNat - 48)) 0
/-- The times, and what is behind. -/
def timesM (s : List UInt8) : Nat × List UInt8 :=
  match s with
  | [] => (1, [])
  | c :: t => if c = 75 ∨ c = 107 then (1024, t) else if c = 77 ∨ c = 109 then (1048576, t) else (1, c :: t)
theorem timesM_len (s : List UInt8) : (timesM s).2.length ≤ s.length := by
  unfold timesM
  split
  · simp
  · split
    · simp
    · split <;> simp
def headW (s : List UInt8) : Bool := match s with | [] => false | c :: _ => wordyC c
def numM (s : List UInt8) : Cutting :=
  let r := timesM (s.dropWhile digitC)
  if headW r.2 then .error 3
  else if 2147483647 < decV (s.takeWhile digitC) * r.1 then .error 6
  else .ok ({ kind := 3, text := [], num := (decV (s.takeWhile digitC) * r.1 : Nat) }, r.2)
/- P4.4. -/
/-- A text in quotes, behind the first one; behind a backslash, or not. -/
def strM : Bool → List UInt8 → Option (List UInt8 × List UInt8)
  | _, [] => none
  | true, c :: t => (strM false t).map fun x => (c :: x.1, x.2)
  | false, c :: t => if c = 34 then some ([], t) else if c = 92 then strM true t else (strM false t).map fun x => (c :: x.1, x.2)
theorem strM_len {b : Bool} {s : List UInt8} {x : List UInt8 × List UInt8} (h : strM b s = some x) : x.2.length < s.length := by
  induction s generalizing b x with
  | nil => cases b <;> cases h
  | cons c t ih =>
    cases b with
    | true =>
      unfold strM at h
      rw [Option.map_eq_some_iff] at h
      obtain ⟨y, hy, rfl⟩ := h
      have := ih hy; simp; omega
    | false =>
      unfold strM at h
      split at h
      · cases h; simp
      · split at h
        · have := ih h; simp; omega
        · rw [Option.map_eq_some_iff] at h
          obtain ⟨y, hy, rfl⟩ := h
          have := ih hy; simp; omega
/-- P4.1: the token that begins a text. -/
def tokM (s : List UInt8) : Cutting :=
  match s with
  | [] => .error 3
  | c :: t =>
    if letterC c then .ok ({ kind := 1, text := c :: t.takeWhile wordyC, num := 0 }, t.dropWhile wordyC)
    else if c = 58 ∧ (t.head?.map letterC).getD false = true then .ok ({ kind := 2, text := t.takeWhile wordyC, num := 0 }, t.dropWhile wordyC)
    else if digitC c then numM (c :: t)
    else if c = 34 then (match strM false t with | none => .error 4 | some x => .ok ({ kind := 4, text := x.1, num := 0 }, x.2))
    else if markC c then .ok ({ kind := 5, text := [c], num := 0 }, t)
    else .error 3
theorem dropW_len (p : UInt8 → Bool) (s : List UInt8) : (s.dropWhile p).length ≤ s.length := (List.dropWhile_suffix _).length_le
theorem tokM_len {s : List UInt8} {x : Tok × List UInt8} (h : tokM s = .ok x) : x.2.length < s.length := by
  cases s with
  | nil => cases h
  | cons c t =>
    simp only [tokM] at h
    split at h
    · cases h; have := dropW_len wordyC t; simp; omega
    · split at h
      · cases h; have := dropW_len wordyC t; simp; omega
      · split at h
        · rename_i hd
          unfold numM at h
          simp only at h
          split at h
          · cases h
          · split at h
            · cases h
            · cases h
              have h1 := timesM_len ((c :: t).dropWhile digitC)
              have h2 : ((c :: t).dropWhile digitC).length ≤ t.length := by rw [List.dropWhile_cons, if_pos hd]; exact dropW_len _ _
              simp; omega
        · split at h
          · split at h
            · cases h
            · rename_i x hx; cases h; have := strM_len hx; simp; omega
          · split at h
            · cases h; simp
            · cases h

/- P4.5. -/
/-- A token begins a text, right or wrong. -/
def begM (s : List UInt8) : Bool := match s with | [] => false | c :: t => letterC c || (c == 58 && (t.head?.map letterC).getD false) || digitC c || c == 34 || markC c
theorem tokM_beg {s : List UInt8} (h : begM s = false) : tokM s = .error 3 := by
  cases s with
  | nil => rfl
  | cons c t =>
    simp only [begM, Bool.or_eq_false_iff, Bool.and_eq_false_iff, beq_eq_false_iff_ne] at h
    obtain ⟨⟨⟨⟨h1, h2⟩, h3⟩, h4⟩, h5⟩ := h
    simp only [tokM, h1, h3, h5, Bool.false_eq_true, if_false, if_neg h4]
    rw [if_neg]
    rintro ⟨a, b⟩
    rcases h2 with h2 | h2
    · exact h2 a
    · rw [b] at h2; cases h2
/-- The tokens of a text, k being ahead of them; or how much there is from where something is wrong on, and the error. So many steps at most. -/
def cutF : Nat → Nat → List UInt8 → Except (Nat × Int) (List Tok)
  | 0, _, _ => .ok []
  | n + 1, k, s =>
    if (silM s).1 = false then .error ((silM s).2.length, 4)
    else if (silM s).2 = [] then .ok []
    else if k = 400 then .error ((silM s).2.length, if begM (silM s).2 then 5 else 3)
    else match tokM (silM s).2 with
      | .error e => .error ((silM s).2.length, e)
      | .ok x => (match cutF n (k + 1) x.2 with | .error e => .error e | .ok l => .ok (x.1 :: l))
theorem cutF_more : ∀ (n m k : Nat) (s : List UInt8), s.length < n → s.length < m → cutF n k s = cutF m k s := by
  intro n
  induction n with
  | zero => intro m k s h; omega
  | succ n ih =>
    intro m k s h1 h2
    cases m with
    | zero => omega
    | succ m =>
      simp only [cutF]
      cases ht : tokM (silM s).2 with
      | error e => rfl
      | ok x =>
        have l1 := tokM_len ht
        have l2 := silM_len _ s (Nat.le_refl _)
        simp only
        rw [ih m (k + 1) x.2 (by omega) (by omega)]
def cutP (k : Nat) (s : List UInt8) : Except (Nat × Int) (List Tok) := cutF (s.length + 1) k s
theorem cutP_eq (k : Nat) (s : List UInt8) : cutP k s =
    if (silM s).1 = false then .error ((silM s).2.length, 4)
    else if (silM s).2 = [] then .ok []
    else if k = 400 then .error ((silM s).2.length, if begM (silM s).2 then 5 else 3)
    else match tokM (silM s).2 with
      | .error e => .error ((silM s).2.length, e)
      | .ok x => (match cutP (k + 1) x.2 with | .error e => .error e | .ok l => .ok (x.1 :: l)) := by
  show cutF (s.length + 1) k s = _
  simp only [cutF]
  cases ht : tokM (silM s).2 with
  | error e => rfl
  | ok x =>
    have l1 := tokM_len ht
    have l2 := silM_len _ s (Nat.le_refl _)
    simp only
    rw [cutF_more s.length (x.2.length + 1) (k + 1) x.2 (by omega) (by omega)]
    rfl
def cutM (s : List UInt8) : List Tok × Int × Int :=
  if 2000 < s.length then ([], 0, 1)
  else match cutP 0 s with
    | .ok l => (l, 0, 0)
    | .error (n, e) => ([], ((s.length - n : Nat) : Int), e)

/- P4.6. -/
def wordB (l : List UInt8) : Bool := (l.head?.map letterC).getD false && l.all wordyC
def faultT (t : Tok) : Int :=
  if ¬ (1 ≤ t.kind ∧ t.kind ≤ 5) then 2
  else if t.kind = 3 then (if ¬ (0 ≤ t.num ∧ t.num ≤ 2147483647) then 6 else if t.text ≠ [] then 3 else 0)
  else if t.num ≠ 0 then 3
  else if t.kind = 5 then (if t.text.length = 1 ∧ t.text.all markC = true then 0 else 3)
  else if t.kind = 4 then 0
  else if wordB t.text then 0 else 3

/- P4.7. -/
end Go.Proofs.YtepfniiojjefhaaGreatDoor

namespace Go.Proofs.YtepfniiojjefhaaGreatDoor
open Go.RowKit

/- Words. -/
/-- The number that a word has in a table; 0: none. -/
def numberP (k : Nat) (s : List UInt8) : Nat := numIn (wTabs.getD k []) 0 s
/- P5.6. -/
/- P5.7. -/
end Go.Proofs.YtepfniiojjefhaaGreatDoor

namespace Go.Proofs.YtepfniiojjefhaaGreatDoor
open Go.RowKit

end Go.Proofs.YtepfniiojjefhaaGreatDoor

namespace Go.Proofs.YtepfniiojjefhaaGreatDoor
open Go.RowKit

end Go.Proofs.YtepfniiojjefhaaGreatDoor

namespace Go.Proofs.YtepfniiojjefhaaGreatDoor
open Go.RowKit

/-- What reading gives: something and the rest, or how many tokens were left where it gave up, and why. -/
abbrev Rdg (A : Type) := Except (Nat × Int) (A × List Tok)
def thenR {A B : Type} (x : Rdg A) (f : A → List Tok → Rdg B) : Rdg B := match x with | .error e => .error e | .ok (a, r) => f a r
def misP (r : List Tok) : Nat × Int := (r.length, if r.isEmpty then 4 else 3)
def takeKP (k : Int) (r : List Tok) : Rdg Tok := match r with | [] => .error (misP []) | t :: q => if t.kind = k then .ok (t, q) else .error (misP (t :: q))
def skipP (k : Int) (s : List UInt8) (r : List Tok) : Option (List Tok) := match r with | [] => none | t :: q => if t.kind = k ∧ t.text = s then some q else none
def takeTP (k : Int) (s : List UInt8) (r : List Tok) : Rdg Unit := match skipP k s r with | some q => .ok ((), q) | none => .error (misP r)
def textR (r : List Tok) : Rdg (List UInt8) := thenR (takeKP 4 r) fun t q => .ok (t.text, q)
/-- As long as a comma comes: one more. -/
def loopF {A : Type} (f : List Tok → Rdg A) : Nat → List A → List Tok → Rdg (List A)
  | 0, acc, r => .ok (acc, r)
  | n + 1, acc, r => match skipP 5 [44] r with
    | none => .ok (acc, r)
    | some q => thenR (f q) fun x q' => loopF f n (acc ++ [x]) q'
def listR (r : List Tok) : Rdg (List (List UInt8)) :=
  match skipP 5 [91] r with
  | none => thenR (textR r) fun x q => .ok ([x], q)
  | some q => thenR (textR q) fun x q1 => thenR (loopF textR q1.length [x] q1) fun l q2 => thenR (takeTP 5 [93] q2) fun _ q3 => .ok (l, q3)
def kindP (k d : Nat) (r : List Tok) : Rdg Nat :=
  if 6 < d then .error (r.length, 1) else
    match r with
    | [] => .error (misP [])
    | t :: q => if t.kind = 1 ∧ numberP k t.text ≠ 0 then .ok (numberP k t.text, q) else .error (misP (t :: q))
def tagsF (b : Bool) : List Tok → Nat → Nat → Rdg (Nat × Nat)
  | [], m, p => .ok ((if m = 0 then 1 else m, if p = 0 ∧ b = true then 1 else p), [])
  | t :: q, m, p =>
    if t.kind = 2 then
      if numberP 2 t.text ≠ 0 ∧ m = 0 then tagsF b q (numberP 2 t.text) p
      else if numberP 3 t.text ≠ 0 ∧ p = 0 ∧ b = true then tagsF b q m (numberP 3 t.text)
      else .error (misP (t :: q))
    else .ok ((if m = 0 then 1 else m, if p = 0 ∧ b = true then 1 else p), t :: q)
def boundR (r : List Tok) : Rdg (Bool × Int) :=
  match skipP 2 overW r with
  | some q => thenR (takeKP 3 q) fun t q => .ok ((true, t.num), q)
  | none => thenR (takeTP 2 underW r) fun _ q => thenR (takeKP 3 q) fun t q => .ok ((false, t.num), q)
def testsR (f : List Tok → Rdg Tst) (r : List Tok) : Rdg (List Tst) :=
  thenR (takeTP 5 [40] r) fun _ q => thenR (f q) fun x q => thenR (loopF f q.length [x] q) fun l q => thenR (takeTP 5 [41] q) fun _ q => .ok (l, q)
def testP : Nat → Nat → List Tok → Rdg Tst
  | 0, _, _ => .error (0, 0)
  | n + 1, d, r => thenR (kindP 1 d r) fun k q =>
    if k = 3 then thenR (testP n (d + 1) q) fun x q => .ok ({ noneT with kind := 3, tests := [x] }, q)
    else if k = 4 ∨ k = 5 then thenR (testsR (testP n (d + 1)) q) fun l q => .ok ({ noneT with kind := k, tests := l }, q)
    else if k = 6 ∨ k = 7 ∨ k = 8 then thenR (tagsF (decide (k ≠ 6)) q 0 0) fun mp q => thenR (listR q) fun a q => thenR (listR q) fun b q => .ok ({ noneT with kind := k, mat := mp.1, part := mp.2, names := a, keys := b }, q)
    else if k = 9 then thenR (listR q) fun a q => .ok ({ noneT with kind := 9, names := a }, q)
    else if k = 10 then thenR (boundR q) fun b q => .ok ({ noneT with kind := 10, over := b.1, limit := b.2 }, q)
    else .ok ({ noneT with kind := k }, q)
def blockF (f : List Tok → Rdg Cmd) : Nat → List Cmd → List Tok → Rdg (List Cmd)
  | 0, _, _ => .error (0, 0)
  | n + 1, acc, r => match skipP 5 [125] r with
    | some q => .ok (acc, q)
    | none => if r.isEmpty then .error (misP r) else thenR (f r) fun c q => blockF f n (acc ++ [c]) q
def blockR (f : List Tok → Rdg Cmd) (r : List Tok) : Rdg (List Cmd) := thenR (takeTP 5 [123] r) fun _ q => blockF f (q.length + 1) [] q
/-- A command (true), or what stands behind its if (false). -/
def cmdP : Nat → Bool → Nat → List Tok → Rdg Cmd
  | 0, _, _, _ => .error (0, 0)
  | n + 1, true, d, r => thenR (kindP 0 d r) fun k q =>
    if k = 2 then cmdP n false d q
    else if k = 1 ∨ k = 8 ∨ k = 9 then thenR (listR q) fun l q => thenR (takeTP 5 [59] q) fun _ q => .ok (⟨k, l, noneT, [], []⟩, q)
    else if k = 5 ∨ k = 6 ∨ k = 7 then thenR (textR q) fun x q => thenR (takeTP 5 [59] q) fun _ q => .ok (⟨k, [x], noneT, [], []⟩, q)
    else thenR (takeTP 5 [59] q) fun _ q => .ok (⟨k, [], noneT, [], []⟩, q)
  | n + 1, false, d, r => thenR (testP n 1 r) fun t q => thenR (blockR (cmdP n true (d + 1)) q) fun th q =>
    match skipP 1 elsifW q with
    | some q => thenR (cmdP n false d q) fun c q => .ok (⟨2, [], t, th, [c]⟩, q)
    | none => match skipP 1 elseW q with
      | some q => thenR (blockR (cmdP n true (d + 1)) q) fun el q => .ok (⟨2, [], t, th, el⟩, q)
      | none => .ok (⟨2, [], t, th, []⟩, q)
def scriptF (f : List Tok → Rdg Cmd) : Nat → List Cmd → List Tok → Rdg (List Cmd)
  | 0, acc, r => .ok (acc, r)
  | n + 1, acc, r => if r.isEmpty then .ok (acc, r) else thenR (f r) fun c q => scriptF f n (acc ++ [c]) q
def scriptR (r : List Tok) : Rdg (List Cmd) := scriptF (cmdP (r.length + 2) true 0) r.length [] r
def badTok : List Tok → Nat → Option (Nat × Int)
  | [], _ => none
  | t :: r, i => if faultT t = 0 then badTok r (i + 1) else some (i, faultT t)
/-- P5.5. -/
def parseS (l : List Tok) : List Cmd × Int × Int :=
  if 400 < l.length then ([], 0, 5) else
    match badTok l 0 with
    | some (i, e) => ([], i, e)
    | none => match scriptR l with
      | .ok (cs, _) => (cs, 0, 0)
      | .error (m, e) => ([], (l.length - m : Nat), e)

/- What is read is taken. -/
theorem thenR_ok {A B : Type} {x : Rdg A} {f : A → List Tok → Rdg B} {y : B × List Tok} (h : thenR x f = .ok y) : ∃ a q, x = .ok (a, q) ∧ f a q = .ok y := by
  unfold thenR at h
  split at h
  · cases h
  · exact ⟨_, _, rfl, h⟩
theorem skipP_some {k : Int} {s : List UInt8} {r q : List Tok} (h : skipP k s r = some q) : ∃ t, r = t :: q ∧ t.kind = k ∧ t.text = s := by
  cases r with
  | nil => cases h
  | cons t u =>
    unfold skipP at h
    simp only at h
    split at h
    · rename_i hk; cases h; exact ⟨t, rfl, hk⟩
    · cases h
theorem takeTP_ok {k : Int} {s : List UInt8} {r q : List Tok} {u : Unit} (h : takeTP k s r = .ok (u, q)) : skipP k s r = some q := by
  unfold takeTP at h
  split at h
  · rename_i hs; cases h; exact hs
  · cases h
theorem takeKP_ok {k : Int} {r q : List Tok} {t : Tok} (h : takeKP k r = .ok (t, q)) : r = t :: q ∧ t.kind = k := by
  unfold takeKP at h
  split at h
  · cases h
  · split at h
    · rename_i hk; cases h; exact ⟨rfl, hk⟩
    · cases h
theorem skipP_len {k : Int} {s : List UInt8} {r q : List Tok} (h : skipP k s r = some q) : q.length < r.length := by
  obtain ⟨t, rfl, _⟩ := skipP_some h; simp
theorem textR_ok {r q : List Tok} {x : List UInt8} (h : textR r = .ok (x, q)) : ∃ t, r = t :: q ∧ t.kind = 4 ∧ t.text = x := by
  obtain ⟨t, q', h1, h2⟩ := thenR_ok h
  cases h2
  obtain ⟨rfl, hk⟩ := takeKP_ok h1
  exact ⟨t, rfl, hk, rfl⟩
theorem textR_len {r q : List Tok} {x : List UInt8} (h : textR r = .ok (x, q)) : q.length < r.length := by
  obtain ⟨t, rfl, _⟩ := textR_ok h; simp
theorem loopF_len {A : Type} {f : List Tok → Rdg A} (hf : ∀ r x q, f r = .ok (x, q) → q.length ≤ r.length) : ∀ (n : Nat) (acc l : List A) (r q : List Tok), loopF f n acc r = .ok (l, q) → q.length ≤ r.length := by
  intro n
  induction n with
  | zero => intro acc l r q h; cases h; exact Nat.le_refl _
  | succ n ih =>
    intro acc l r q h
    unfold loopF at h
    split at h
    · cases h; exact Nat.le_refl _
    · rename_i q0 hs
      obtain ⟨x, q1, h1, h2⟩ := thenR_ok h
      have a := skipP_len hs
      have b := hf _ _ _ h1
      have c := ih _ _ _ _ h2
      omega
theorem listR_len {r q : List Tok} {l : List (List UInt8)} (h : listR r = .ok (l, q)) : q.length < r.length := by
  unfold listR at h
  split at h
  · obtain ⟨x, q1, h1, h2⟩ := thenR_ok h
    cases h2
    exact textR_len h1
  · rename_i q0 hs
    obtain ⟨x, q1, h1, h2⟩ := thenR_ok h
    obtain ⟨l2, q2, h3, h4⟩ := thenR_ok h2
    obtain ⟨u, q3, h5, h6⟩ := thenR_ok h4
    cases h6
    have a := skipP_len hs
    have b := textR_len h1
    have c := loopF_len (fun _ _ _ h => Nat.le_of_lt (textR_len h)) _ _ _ _ _ h3
    have d := skipP_len (takeTP_ok h5)
    omega
theorem kindP_ok {k d : Nat} {r q : List Tok} {n : Nat} (h : kindP k d r = .ok (n, q)) : d ≤ 6 ∧ n ≠ 0 ∧ ∃ t, r = t :: q ∧ t.kind = 1 ∧ numberP k t.text = n := by
  unfold kindP at h
  split at h
  · cases h
  · rename_i hd
    split at h
    · cases h
    · split at h
      · rename_i hk; cases h; exact ⟨by omega, hk.2, _, rfl, hk.1, rfl⟩
      · cases h
theorem kindP_len {k d : Nat} {r q : List Tok} {n : Nat} (h : kindP k d r = .ok (n, q)) : q.length < r.length := by
  obtain ⟨_, _, t, rfl, _⟩ := kindP_ok h; simp
theorem tagsF_len {b : Bool} : ∀ (r : List Tok) (m p : Nat) (x : Nat × Nat) (q : List Tok), tagsF b r m p = .ok (x, q) → q.length ≤ r.length := by
  intro r
  induction r with
  | nil => intro m p x q h; unfold tagsF at h; cases h; exact Nat.le_refl _
  | cons t r ih =>
    intro m p x q h
    unfold tagsF at h
    split at h
    · split at h
      · have := ih _ _ _ _ h; simp; omega
      · split at h
        · have := ih _ _ _ _ h; simp; omega
        · cases h
    · cases h; exact Nat.le_refl _
theorem boundR_len {r q : List Tok} {x : Bool × Int} (h : boundR r = .ok (x, q)) : q.length < r.length := by
  unfold boundR at h
  split at h
  · rename_i q0 hs
    obtain ⟨t, q1, h1, h2⟩ := thenR_ok h
    cases h2
    have a := skipP_len hs
    obtain ⟨rfl, _⟩ := takeKP_ok h1
    simp at a; omega
  · obtain ⟨u, q0, h0, h'⟩ := thenR_ok h
    obtain ⟨t, q1, h1, h2⟩ := thenR_ok h'
    cases h2
    have a := skipP_len (takeTP_ok h0)
    obtain ⟨rfl, _⟩ := takeKP_ok h1
    simp at a; omega
theorem testsR_len {f : List Tok → Rdg Tst} (hf : ∀ r x q, f r = .ok (x, q) → q.length ≤ r.length) {r q : List Tok} {l : List Tst} (h : testsR f r = .ok (l, q)) : q.length < r.length := by
  obtain ⟨u, q1, h1, h2⟩ := thenR_ok h
  obtain ⟨x, q2, h3, h4⟩ := thenR_ok h2
  obtain ⟨l', q3, h5, h6⟩ := thenR_ok h4
  obtain ⟨u', q4, h7, h8⟩ := thenR_ok h6
  cases h8
  have a := skipP_len (takeTP_ok h1)
  have b := hf _ _ _ h3
  have c := loopF_len hf _ _ _ _ _ h5
  have d := skipP_len (takeTP_ok h7)
  omega
theorem testP_len : ∀ (n d : Nat) (r : List Tok) (t : Tst) (q : List Tok), testP n d r = .ok (t, q) → q.length < r.length := by
  intro n
  induction n with
  | zero => intro d r t q h; cases h
  | succ n ih =>
    intro d r t q h
    unfold testP at h
    obtain ⟨k, q1, h1, h2⟩ := thenR_ok h
    have a := kindP_len h1
    simp only at h2
    split at h2
    · obtain ⟨x, q2, h3, h4⟩ := thenR_ok h2
      cases h4
      have := ih _ _ _ _ h3
      omega
    · split at h2
      · obtain ⟨x, q2, h3, h4⟩ := thenR_ok h2
        cases h4
        have := testsR_len (fun _ _ _ h => Nat.le_of_lt (ih _ _ _ _ h)) h3
        omega
      · split at h2
        · obtain ⟨x, q2, h3, h4⟩ := thenR_ok h2
          obtain ⟨y, q3, h5, h6⟩ := thenR_ok h4
          obtain ⟨z, q4, h7, h8⟩ := thenR_ok h6
          cases h8
          have b := tagsF_len _ _ _ _ _ h3
          have c := listR_len h5
          have e := listR_len h7
          omega
        · split at h2
          · obtain ⟨x, q2, h3, h4⟩ := thenR_ok h2
            cases h4
            have := listR_len h3
            omega
          · split at h2
            · obtain ⟨x, q2, h3, h4⟩ := thenR_ok h2
              cases h4
              have := boundR_len h3
              omega
            · cases h2
              omega
theorem blockF_len {f : List Tok → Rdg Cmd} (hf : ∀ r x q, f r = .ok (x, q) → q.length ≤ r.length) : ∀ (n : Nat) (acc l : List Cmd) (r q : List Tok), blockF f n acc r = .ok (l, q) → q.length ≤ r.length := by
  intro n
  induction n with
  | zero => intro acc l r q h; cases h
  | succ n ih =>
    intro acc l r q h
    unfold blockF at h
    split at h
    · rename_i q0 hs; cases h; exact Nat.le_of_lt (skipP_len hs)
    · split at h
      · cases h
      obtain ⟨x, q1, h1, h2⟩ := thenR_ok h
      have b := hf _ _ _ h1
      have c := ih _ _ _ _ h2
      omega
theorem blockR_len {f : List Tok → Rdg Cmd} (hf : ∀ r x q, f r = .ok (x, q) → q.length ≤ r.length) {r q : List Tok} {l : List Cmd} (h : blockR f r = .ok (l, q)) : q.length < r.length := by
  obtain ⟨u, q1, h1, h2⟩ := thenR_ok h
  have a := skipP_len (takeTP_ok h1)
  have b := blockF_len hf _ _ _ _ _ h2
  omega
theorem cmdP_len : ∀ (n : Nat) (b : Bool) (d : Nat) (r : List Tok) (c : Cmd) (q : List Tok), cmdP n b d r = .ok (c, q) → q.length < r.length := by
  intro n
  induction n with
  | zero => intro b d r t q h; cases h
  | succ n ih =>
    intro b d r t q h
    have ih' : ∀ b d r x q, cmdP n b d r = .ok (x, q) → q.length ≤ r.length := fun _ _ _ _ _ h => Nat.le_of_lt (ih _ _ _ _ _ h)
    cases b with
    | true =>
      unfold cmdP at h
      obtain ⟨k, q1, h1, h2⟩ := thenR_ok h
      have a := kindP_len h1
      split at h2
      · have := ih _ _ _ _ _ h2; omega
      · split at h2
        · obtain ⟨x, q2, h3, h4⟩ := thenR_ok h2
          obtain ⟨y, q3, h5, h6⟩ := thenR_ok h4
          cases h6
          have := listR_len h3
          have := skipP_len (takeTP_ok h5)
          omega
        · split at h2
          · obtain ⟨x, q2, h3, h4⟩ := thenR_ok h2
            obtain ⟨y, q3, h5, h6⟩ := thenR_ok h4
            cases h6
            have := textR_len h3
            have := skipP_len (takeTP_ok h5)
            omega
          · obtain ⟨y, q3, h5, h6⟩ := thenR_ok h2
            cases h6
            have := skipP_len (takeTP_ok h5)
            omega
    | false =>
      unfold cmdP at h
      obtain ⟨x, q1, h1, h2⟩ := thenR_ok h
      obtain ⟨y, q2, h3, h4⟩ := thenR_ok h2
      have a := testP_len _ _ _ _ _ h1
      have b := blockR_len (ih' _ _) h3
      split at h4
      · rename_i q0 hs
        obtain ⟨z, q3, h5, h6⟩ := thenR_ok h4
        cases h6
        have := skipP_len hs
        have := ih _ _ _ _ _ h5
        omega
      · split at h4
        · rename_i q0 hs
          obtain ⟨z, q3, h5, h6⟩ := thenR_ok h4
          cases h6
          have := skipP_len hs
          have := blockR_len (ih' _ _) h5
          omega
        · cases h4; omega
end Go.Proofs.YtepfniiojjefhaaGreatDoor
