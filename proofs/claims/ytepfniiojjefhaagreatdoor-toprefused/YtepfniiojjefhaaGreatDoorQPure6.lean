/-
  Plain facts on bytes and lists: small letters in place of great ones; no program is named here.
  Plain facts on messages as lists of bytes: names, values, lines; what is shown, what is parsed. No program is named here.
  Plain facts on messages: what is parsed of a text, line by line; what is shown is parsed as it was. No program is named here.
  Plain facts on messages: what is parsed may be; a torn text; lines that are none. No program is named here.
  Plain facts on tokens: what a script is cut into, what tokens are joined to. No program is named here.
  Plain facts on scripts: what commands and tests are, which may be, how they are shown and read. No program is named here.
  Worlds of which all but one block of what was there is as it was. No program is named here.
  Tests and commands in memory: rows within rows. No function of the program is named here.
  Plain facts on scripts: how tokens are read. No program is named here.
  Plain facts on addresses: what may be in an atom, what is dotted, how a list of addresses is read. No program is named here.
  Plain facts on lists of addresses that the keeping laws lean on. No program is named here.
  Plain facts on addresses: what is read of a list may be. No program is named here.
  Plain facts on scripts that are allowed: flags, names of boxes, what is required. No program is named here.
  Plain facts on the tests and commands that the laws make: they may be, and are short.
  Plain facts on texts of lists of bytes (empty or not, their pieces) and on worlds. No program is named here.
  What rule.Name does: the walk.
-/
import Derived.WalkKit
import Derived.Lib.SlTrimSet
import Derived.Lib.IndexMore
import Derived.Lib.IndexLaws
import Derived.Lib.ItoaNum
import Derived.Below
import Derived.Laws.AppendOwn
import Derived.Lib.Strings
import Derived.Deep.Draws
import Derived.Test.YtepfniiojjefhaaGreatDoorRows
namespace Go.Proofs.YtepfniiojjefhaaGreatDoor
open Go.RowKit

/-- One byte with a small letter in place of a great one. -/
def low1 (c : UInt8) : UInt8 := if 65 ≤ (c.toNat : Int) ∧ (c.toNat : Int) ≤ 90 then UInt8.ofNat (c.toNat + 32) else c

/-- A text so, byte by byte. -/
def lowL (l : List UInt8) : List UInt8 := l.map low1
def low (s : ByteArray) : ByteArray := ⟨(lowL s.data.toList).toArray⟩

theorem size_list (s : ByteArray) : s.data.toList.length = s.size := by rw [Array.length_toList]; rfl
theorem take_snoc (s : ByteArray) (k : Nat) (h : k < s.size) : s.data.toList.take (k + 1) = s.data.toList.take k ++ [s[k]] := by
  rw [List.take_succ_eq_append_getElem (by simpa using h)]; rfl
theorem get_list (s : ByteArray) (k : Nat) (h : k < s.size) : s.data.toList[k]? = some s[k] := by
  rw [List.getElem?_eq_getElem (by simpa using h)]; rfl

theorem ret_int {k : IntKind} {a b : Int} (h : a = b) : Ending.returned (.int k a) = .returned (.int k b) := by rw [h]
theorem ret_bool {a b : Bool} (h : a = b) : Ending.returned (.bool a) = .returned (.bool b) := by rw [h]

theorem setCell_mark {w : World} {g i : Nat} {cs : Array Value} {t : TypeId} {fr : Nat × Nat} (v : Value) (hg : w.heap[g]? = some (.cells cs t fr)) :
    (w.setCell ⟨g, i, none⟩ v).heap[g]? = some (.cells (cs.setIfInBounds i v) t fr) := by
  rw [setCell_eq_setRow w g i cs t fr v hg]
  exact setRow_heap w g cs _ t _ hg

end Go.Proofs.YtepfniiojjefhaaGreatDoor

namespace Go.Proofs.YtepfniiojjefhaaGreatDoor
open Go.RowKit

/-- A text of a list of bytes. -/
def S (l : List UInt8) : ByteArray := ⟨l.toArray⟩
theorem S_list (s : ByteArray) : S s.data.toList = s := by cases s; simp [S]
theorem list_S (l : List UInt8) : (S l).data.toList = l := by simp [S]
theorem size_S (l : List UInt8) : (S l).size = l.length := by simp [S, ByteArray.size]
theorem S_inj {a b : List UInt8} (h : S a = S b) : a = b := by
  have := congrArg (fun s => s.data.toList) h
  simpa [list_S] using this

def blankB (c : UInt8) : Bool := c == 32 || c == 9
abbrev F := List UInt8 × List UInt8
theorem take_some {α : Type} {l : List α} {k : Nat} {x : α} (h : l[k]? = some x) : l.take (k + 1) = l.take k ++ [x] := by
  obtain ⟨hk, rfl⟩ := List.getElem?_eq_some_iff.1 h
  exact List.take_succ_eq_append_getElem hk
/- Lines. -/
/- Colons. -/
theorem index_one (l : List UInt8) (c : UInt8) : Lib.index l [c] = Lib.indexByte l c := by
  induction l with
  | nil => rfl
  | cons b l ih =>
    unfold Lib.index Lib.indexByte
    rw [ih]
    by_cases h : b = c
    · subst h; simp
    · have : (c == b) = false := by simp; exact fun e => h e.symm
      simp [List.isPrefixOf, h, this]
/- Blanks at the ends. -/
end Go.Proofs.YtepfniiojjefhaaGreatDoor

namespace Go.Proofs.YtepfniiojjefhaaGreatDoor
open Go.RowKit

/- Line's ends, in parts of a text. -/
/- Names. -/
/- Fields, a line each. -/
/- Blanks at the ends. -/
/- What is shown is parsed as it was. -/
end Go.Proofs.YtepfniiojjefhaaGreatDoor

namespace Go.Proofs.YtepfniiojjefhaaGreatDoor
open Go.RowKit

end Go.Proofs.YtepfniiojjefhaaGreatDoor
namespace Go.Proofs.YtepfniiojjefhaaGreatDoor
open Go.RowKit

/- P4.1. -/
structure Tok where
  kind : Int
  text : List UInt8
  num : Int

/- P4.2. -/
/- P4.3. -/
abbrev Cutting := Except Int (Tok × List UInt8)
/- P4.4. -/
/- P4.5. -/
/- P4.6. -/
/- P4.7. -/
end Go.Proofs.YtepfniiojjefhaaGreatDoor

namespace Go.Proofs.YtepfniiojjefhaaGreatDoor
open Go.RowKit

/-- A test. -/
structure Tst where
  kind : Int
  mat : Int
  part : Int
  names : List (List UInt8)
  keys : List (List UInt8)
  over : Bool
  limit : Int
  tests : List Tst
/-- A command. -/
structure Cmd where
  kind : Int
  texts : List (List UInt8)
  test : Tst
  thn : List Cmd
  els : List Cmd
def noneT : Tst := ⟨0, 0, 0, [], [], false, 0, []⟩

/- Words. -/
def wTabs : List (List (List UInt8)) := [
  [[], [114, 101, 113, 117, 105, 114, 101], [105, 102], [107, 101, 101, 112], [100, 105, 115, 99, 97, 114, 100], [102, 105, 108, 101, 105, 110, 116, 111], [114, 101, 100, 105, 114, 101, 99, 116], [114, 101, 106, 101, 99, 116], [115, 101, 116, 102, 108, 97, 103], [97, 100, 100, 102, 108, 97, 103], [115, 116, 111, 112]],
  [[], [116, 114, 117, 101], [102, 97, 108, 115, 101], [110, 111, 116], [97, 108, 108, 111, 102], [97, 110, 121, 111, 102], [104, 101, 97, 100, 101, 114], [97, 100, 100, 114, 101, 115, 115], [101, 110, 118, 101, 108, 111, 112, 101], [101, 120, 105, 115, 116, 115], [115, 105, 122, 101]],
  [[], [105, 115], [99, 111, 110, 116, 97, 105, 110, 115], [109, 97, 116, 99, 104, 101, 115], [], [], [], [], [], [], []],
  [[], [97, 108, 108], [108, 111, 99, 97, 108, 112, 97, 114, 116], [100, 111, 109, 97, 105, 110], [], [], [], [], [], [], []]]
def wordOf (k n : Nat) : List UInt8 := (wTabs.getD k []).getD n []
def numIn : List (List UInt8) → Nat → List UInt8 → Nat
  | [], _, _ => 0
  | x :: r, n, s => if x = s then n else numIn r (n + 1) s
def isNumP (k : Nat) (n : Int) : Bool := decide (0 ≤ n) && decide (n < 11) && !(wordOf k n.toNat).isEmpty
theorem isNum_cmd (n : Int) : isNumP 0 n = (decide (1 ≤ n) && decide (n ≤ 10)) := by
  unfold isNumP
  by_cases h0 : 0 ≤ n
  · by_cases h1 : n < 11
    · obtain ⟨k, rfl⟩ := Int.eq_ofNat_of_zero_le h0
      have hk : k < 11 := by omega
      match k, hk with
      | 0, _ | 1, _ | 2, _ | 3, _ | 4, _ | 5, _ | 6, _ | 7, _ | 8, _ | 9, _ | 10, _ => rfl
    · simp [h1]; omega
  · simp [h0]; omega
theorem isNum_tst (n : Int) : isNumP 1 n = (decide (1 ≤ n) && decide (n ≤ 10)) := by
  unfold isNumP
  by_cases h0 : 0 ≤ n
  · by_cases h1 : n < 11
    · obtain ⟨k, rfl⟩ := Int.eq_ofNat_of_zero_le h0
      have hk : k < 11 := by omega
      match k, hk with
      | 0, _ | 1, _ | 2, _ | 3, _ | 4, _ | 5, _ | 6, _ | 7, _ | 8, _ | 9, _ | 10, _ => rfl
    · simp [h1]; omega
  · simp [h0]; omega
theorem isNum_mat (n : Int) : isNumP 2 n = (decide (1 ≤ n) && decide (n ≤ 3)) := by
  unfold isNumP
  by_cases h0 : 0 ≤ n
  · by_cases h1 : n < 11
    · obtain ⟨k, rfl⟩ := Int.eq_ofNat_of_zero_le h0
      have hk : k < 11 := by omega
      match k, hk with
      | 0, _ | 1, _ | 2, _ | 3, _ | 4, _ | 5, _ | 6, _ | 7, _ | 8, _ | 9, _ | 10, _ => rfl
    · simp [h1]; omega
  · simp [h0]; omega
theorem isNum_part (n : Int) : isNumP 3 n = (decide (1 ≤ n) && decide (n ≤ 3)) := by
  unfold isNumP
  by_cases h0 : 0 ≤ n
  · by_cases h1 : n < 11
    · obtain ⟨k, rfl⟩ := Int.eq_ofNat_of_zero_le h0
      have hk : k < 11 := by omega
      match k, hk with
      | 0, _ | 1, _ | 2, _ | 3, _ | 4, _ | 5, _ | 6, _ | 7, _ | 8, _ | 9, _ | 10, _ => rfl
    · simp [h1]; omega
  · simp [h0]; omega

/- P5.6. -/
def noTst (t : Tst) : Bool := decide (t.kind = 0) && decide (t.mat = 0) && decide (t.part = 0) && decide (t.names.length = 0) && decide (t.keys.length = 0) && !t.over && decide (t.limit = 0) && decide (t.tests.length = 0)
def cmpB (t : Tst) : Bool := isNumP 2 t.mat && decide (0 < t.names.length) && decide (0 < t.keys.length)
/-- A test has just what its kind has. -/
def fitsT (t : Tst) : Bool :=
  if t.kind = 3 then decide (t.tests.length = 1) && noTst { t with kind := 0, tests := [] }
  else if t.kind = 4 ∨ t.kind = 5 then decide (0 < t.tests.length) && noTst { t with kind := 0, tests := [] }
  else if t.kind = 6 then cmpB t && noTst { t with kind := 0, mat := 0, names := [], keys := [] }
  else if t.kind = 7 ∨ t.kind = 8 then cmpB t && isNumP 3 t.part && noTst { t with kind := 0, mat := 0, part := 0, names := [], keys := [] }
  else if t.kind = 9 then decide (0 < t.names.length) && noTst { t with kind := 0, names := [] }
  else if t.kind = 10 then decide (0 ≤ t.limit ∧ t.limit ≤ 2147483647) && noTst { t with kind := 0, over := false, limit := 0 }
  else noTst { t with kind := 0 }
def oneP (k : Bool) (d : Nat) (f : Bool) : Int := if k = false then 2 else if 6 < d then 1 else if f = false then 3 else 0
def firstP {A : Type} (f : A → Int) : List A → Int
  | [] => 0
  | x :: r => if f x = 0 then firstP f r else f x
def faultTst : Nat → Nat → Tst → Int
  | 0, _, _ => 0
  | n + 1, d, t => if oneP (isNumP 1 t.kind) d (fitsT t) = 0 then firstP (faultTst n (d + 1)) t.tests else oneP (isNumP 1 t.kind) d (fitsT t)
def fitsC (c : Cmd) : Bool :=
  if c.kind ≠ 2 ∧ (0 < c.thn.length ∨ 0 < c.els.length ∨ noTst c.test = false) then false
  else if c.kind = 1 ∨ c.kind = 8 ∨ c.kind = 9 then decide (0 < c.texts.length)
  else if c.kind = 5 ∨ c.kind = 6 ∨ c.kind = 7 then decide (c.texts.length = 1)
  else decide (c.texts.length = 0)
def elsifP : List Cmd → Option Cmd
  | [c] => if c.kind = 2 then some c else none
  | _ => none
def faultCmd : Nat → Nat → Cmd → Int
  | 0, _, _ => 0
  | n + 1, d, c =>
    if oneP (isNumP 0 c.kind) d (fitsC c) ≠ 0 then oneP (isNumP 0 c.kind) d (fitsC c)
    else if c.kind ≠ 2 then 0
    else if faultTst n 1 c.test ≠ 0 then faultTst n 1 c.test
    else if firstP (faultCmd n (d + 1)) c.thn ≠ 0 then firstP (faultCmd n (d + 1)) c.thn
    else match elsifP c.els with
      | some x => faultCmd n d x
      | none => firstP (faultCmd n (d + 1)) c.els
theorem faultCmd_step (n d : Nat) (c : Cmd) : faultCmd (n + 1) d c =
    if oneP (isNumP 0 c.kind) d (fitsC c) ≠ 0 then oneP (isNumP 0 c.kind) d (fitsC c)
    else if c.kind ≠ 2 then 0
    else if faultTst n 1 c.test ≠ 0 then faultTst n 1 c.test
    else if firstP (faultCmd n (d + 1)) c.thn ≠ 0 then firstP (faultCmd n (d + 1)) c.thn
    else match elsifP c.els with
      | some x => faultCmd n d x
      | none => firstP (faultCmd n (d + 1)) c.els := rfl
theorem elsifP_some {l : List Cmd} {x : Cmd} (h : elsifP l = some x) : l = [x] ∧ x.kind = 2 := by
  match l with
  | [] => cases h
  | [c] =>
    by_cases hk : c.kind = 2
    · simp only [elsifP, if_pos hk, Option.some.injEq] at h; subst h; exact ⟨rfl, hk⟩
    · simp only [elsifP, if_neg hk] at h; cases h
  | a :: b :: r => cases h
def faultCmds (n d : Nat) (l : List Cmd) : Int := firstP (faultCmd n d) l

/- P5.7. -/
def wordT (s : List UInt8) : Tok := ⟨1, s, 0⟩
def tagT (s : List UInt8) : Tok := ⟨2, s, 0⟩
def strT (s : List UInt8) : Tok := ⟨4, s, 0⟩
def markT (c : UInt8) : Tok := ⟨5, [c], 0⟩
def sepT {A : Type} (f : A → List Tok) : List A → List Tok
  | [] => []
  | x :: r => f x ++ r.flatMap fun y => markT 44 :: f y
def listT : List (List UInt8) → List Tok
  | [x] => [strT x]
  | l => markT 91 :: (sepT (fun x => [strT x]) l ++ [markT 93])
def elsifW : List UInt8 := [101, 108, 115, 105, 102]
def elseW : List UInt8 := [101, 108, 115, 101]
def overW : List UInt8 := [111, 118, 101, 114]
def underW : List UInt8 := [117, 110, 100, 101, 114]
def testT : Nat → Tst → List Tok
  | 0, _ => []
  | n + 1, t =>
    wordT (wordOf 1 t.kind.toNat) ::
      (if t.kind = 3 then (t.tests.head?.map (testT n)).getD []
       else if t.kind = 4 ∨ t.kind = 5 then markT 40 :: (sepT (testT n) t.tests ++ [markT 41])
       else if t.kind = 6 then tagT (wordOf 2 t.mat.toNat) :: (listT t.names ++ listT t.keys)
       else if t.kind = 7 ∨ t.kind = 8 then tagT (wordOf 3 t.part.toNat) :: tagT (wordOf 2 t.mat.toNat) :: (listT t.names ++ listT t.keys)
       else if t.kind = 9 then listT t.names
       else if t.kind = 10 then [tagT (if t.over then overW else underW), ⟨3, [], t.limit⟩]
       else [])
/-- What stands behind a command's word. -/
def restT : Nat → Cmd → List Tok
  | 0, _ => []
  | n + 1, c =>
    if c.kind = 2 then
      testT n c.test ++ (markT 123 :: (c.thn.flatMap fun x => wordT (wordOf 0 x.kind.toNat) :: restT n x) ++ [markT 125]) ++
        (match elsifP c.els with
         | some x => wordT elsifW :: restT n x
         | none => if c.els.length = 0 then [] else wordT elseW :: markT 123 :: (c.els.flatMap fun x => wordT (wordOf 0 x.kind.toNat) :: restT n x) ++ [markT 125])
    else (if c.texts.length = 0 then [] else listT c.texts) ++ [markT 59]
def cmdT (n : Nat) (c : Cmd) : List Tok := wordT (wordOf 0 c.kind.toNat) :: restT n c
def cmdsT (n : Nat) (l : List Cmd) : List Tok := l.flatMap (cmdT n)
def checkM (n : Nat) (l : List Cmd) : Int := if faultCmds n 0 l ≠ 0 then faultCmds n 0 l else if 400 < (cmdsT n l).length then 5 else 0
end Go.Proofs.YtepfniiojjefhaaGreatDoor

namespace Go.Proofs.YtepfniiojjefhaaGreatDoor
open Go.RowKit

/-- All but one block of what was there is as it was. -/
structure But (b : Nat) (w w' : World) : Prop where
  os : w'.os = w.os
  tape : w'.tape = w.tape
  output : w'.output = w.output
  size : w.heap.size ≤ w'.heap.size
  block : ∀ k, k < w.heap.size → k ≠ b → w'.heap[k]? = w.heap[k]?

theorem But.refl (b : Nat) (w : World) : But b w w := ⟨rfl, rfl, rfl, Nat.le_refl _, fun _ _ _ => rfl⟩
theorem But.trans {b : Nat} {x y z : World} (h : But b x y) (k : But b y z) : But b x z :=
  ⟨k.os.trans h.os, k.tape.trans h.tape, k.output.trans h.output, Nat.le_trans h.size k.size, fun i hi hn => (k.block i (Nat.lt_of_lt_of_le hi h.size) hn).trans (h.block i hi hn)⟩
theorem But.of {b : Nat} {w w' : World} (h : Below w.heap.size w w') : But b w w' := ⟨h.os, h.tape, h.output, h.size, fun k hk _ => h.block k hk⟩
theorem But.set {b : Nat} (w : World) (v : Value) : But b w (w.setCell ⟨b, 0, none⟩ v) :=
  ⟨rfl, rfl, rfl, by simp [World.setCell], fun k _ hn => Below.heap_setCell _ _ _ _ hn⟩
theorem But.below {b B : Nat} {w w' : World} (h : But b w w') (hB : B ≤ b) (hw : B ≤ w.heap.size) : Below B w w' :=
  ⟨h.os, h.tape, h.output, h.size, fun k hk => h.block k (by omega) (by omega)⟩
theorem But.cell {b : Nat} {w w' : World} (h : But b w w') {p : Addr} {v : Value} (hp : w.cell? p = some v) (hn : p.block ≠ b) : w'.cell? p = some v :=
  (World.cell?_of_block (w := w) (h.block p.block (World.block_lt_of_cell? w _ hp) hn)).trans hp
theorem But.frozen {b : Nat} {w w' : World} (h : But b w w') {p : Addr} (hl : p.block < w.heap.size) (hp : w.frozen? p = false) (hn : p.block ≠ b) : w'.frozen? p = false :=
  (World.frozen?_of_block (w := w) (h.block p.block hl hn)).trans hp
theorem own_but {w w' : World} {r base : Nat} {e : TypeId} {size : Nat} {v : Value} {n : Nat} {xs : List Value} (h : w.ownsRow base e size v n xs) (hb : But r w w') (hr : r < base) : w'.ownsRow base e size v n xs := by
  refine ⟨h.1, ?_⟩
  rcases h.2 with h' | ⟨g, cap, cur, h1, h2, hg, q⟩
  · exact .inl h'
  · refine .inr ⟨g, cap, cur, h1, h2, ?_, q⟩
    rw [hb.block g (by
      rcases Nat.lt_or_ge g w.heap.size with h' | h'
      · exact h'
      · rw [Array.getElem?_eq_none h'] at hg; cases hg) (by omega)]
    exact hg
/-- A block of one cell: a variable that a closure has captured. -/
def Box (w : World) (b : Nat) (v : Value) (t : TypeId) : Prop := w.heap[b]? = some (.cells #[v] t)
theorem Box.cell {w : World} {b : Nat} {v : Value} {t : TypeId} (h : Box w b v t) : w.cell? ⟨b, 0, none⟩ = some v := by
  unfold Box at h; simp [World.cell?, h]
theorem Box.free {w : World} {b : Nat} {v : Value} {t : TypeId} (h : Box w b v t) : w.frozen? ⟨b, 0, none⟩ = false := by
  unfold Box at h; simp [World.frozen?, h]
theorem Box.lt {w : World} {b : Nat} {v : Value} {t : TypeId} (h : Box w b v t) : b < w.heap.size := World.block_lt_of_cell? w _ h.cell
theorem Box.below {w w' : World} {b B : Nat} {v : Value} {t : TypeId} (h : Box w b v t) (hb : Below B w w') (hB : b < B) : Box w' b v t := (hb.block b hB).trans h
theorem Box.set {w : World} {b : Nat} {v : Value} {t : TypeId} (h : Box w b v t) (u : Value) : Box (w.setCell ⟨b, 0, none⟩ u) b u t := setCell_mark _ h
theorem Box.but {w w' : World} {b r : Nat} {v : Value} {t : TypeId} (h : Box w b v t) (hb : But r w w') (hn : b ≠ r) : Box w' b v t := (hb.block b h.lt hn).trans h
theorem Box.new (w : World) (v : Value) (t : TypeId) : Box (w.alloc (.cells #[v] t)) w.heap.size v t := by
  show (w.heap.push _)[w.heap.size]? = _
  simp
end Go.Proofs.YtepfniiojjefhaaGreatDoor

namespace Go.Proofs.YtepfniiojjefhaaGreatDoor
open Go.RowKit

theorem hid {p : Prop} (h : p) : Hid p := h
/-- What lies in blocks that Q lets is as it was. -/
structure Keeps (Q : Nat → Prop) (w w' : World) : Prop where
  size : w.heap.size ≤ w'.heap.size
  block : ∀ b, b < w.heap.size → Q b → w'.heap[b]? = w.heap[b]?
theorem Keeps.refl (Q : Nat → Prop) (w : World) : Keeps Q w w := ⟨Nat.le_refl _, fun _ _ _ => rfl⟩
theorem Keeps.of_below {Q : Nat → Prop} {w w' : World} (h : Below w.heap.size w w') : Keeps Q w w' := ⟨h.size, fun b hb _ => h.block b hb⟩
theorem Keeps.of_below' {Q : Nat → Prop} {w w' : World} {B : Nat} (h : Below B w w') (hq : ∀ b, Q b → b < B) : Keeps Q w w' := ⟨h.size, fun b _ hb => h.block b (hq b hb)⟩
theorem Keeps.of_but {Q : Nat → Prop} {w w' : World} {r : Nat} (h : But r w w') (hq : ∀ b, Q b → b ≠ r) : Keeps Q w w' := ⟨h.size, fun b hb hQ => h.block b hb (hq b hQ)⟩
theorem Keeps.trans {Q : Nat → Prop} {x y z : World} (h : Keeps Q x y) (k : Keeps Q y z) : Keeps Q x z :=
  ⟨Nat.le_trans h.size k.size, fun b hb hQ => (k.block b (Nat.lt_of_lt_of_le hb h.size) hQ).trans (h.block b hb hQ)⟩
theorem Keeps.set {Q : Nat → Prop} (w : World) {p : Addr} (v : Value) (hq : ∀ b, Q b → b ≠ p.block) : Keeps Q w (w.setCell p v) :=
  ⟨by simp [World.setCell], fun b _ hQ => Below.heap_setCell _ _ _ _ (hq b hQ)⟩
theorem Keeps.more {Q : Nat → Prop} {w w' : World} (h : Keeps Q w w') (o : Obj) : Keeps Q w (w'.alloc o) :=
  ⟨by have := h.size; simp; omega, fun b hb hQ => ((show (w'.alloc o).heap[b]? = w'.heap[b]? by show (w'.heap.push o)[b]? = _; rw [Array.getElem?_push_lt (Nat.lt_of_lt_of_le hb h.size), Array.getElem?_eq_getElem (Nat.lt_of_lt_of_le hb h.size)])).trans (h.block b hb hQ)⟩

/-- A row of things of so many cells each, in blocks that Q lets. -/
def RowM {A : Type} (Q : Nat → Prop) (k : Nat) (P : A → List Value → Prop) (w : World) (v : Value) (l : List A) : Prop :=
  ∃ a c, v = .slice a l.length c ∧ l.length ≤ maxLen ∧ ∀ (i : Nat) (x : A), l[i]? = some x → ∃ b o cs, a = some ⟨b, o, none⟩ ∧ b < w.heap.size ∧ Q b ∧ cs.length = k ∧ (∀ (j : Nat) u, cs[j]? = some u → w.cell? ⟨b, o + i * k + j, none⟩ = some u) ∧ P x cs
def TxtM (x : List UInt8) (cs : List Value) : Prop := cs = [.string (S x)]
def TxtsM (Q : Nat → Prop) (w : World) (v : Value) (l : List (List UInt8)) : Prop := RowM Q 1 TxtM w v l
def TstM (Q : Nat → Prop) : Nat → World → Tst → List Value → Prop
  | 0, _, _, _ => False
  | n + 1, w, t, cs => ∃ vn vk vt, cs = [.int .i64 t.kind, .int .i64 t.mat, .int .i64 t.part, vn, vk, .bool t.over, .int .i64 t.limit, vt] ∧ TxtsM Q w vn t.names ∧ TxtsM Q w vk t.keys ∧ RowM Q 8 (TstM Q n w) w vt t.tests
def CmdM (Q : Nat → Prop) : Nat → World → Cmd → List Value → Prop
  | 0, _, _, _ => False
  | n + 1, w, c, cs => ∃ vx vn vk vt va ve, cs = [.int .i64 c.kind, vx, .int .i64 c.test.kind, .int .i64 c.test.mat, .int .i64 c.test.part, vn, vk, .bool c.test.over, .int .i64 c.test.limit, vt, va, ve] ∧ TxtsM Q w vx c.texts ∧
      TstM Q n w c.test [.int .i64 c.test.kind, .int .i64 c.test.mat, .int .i64 c.test.part, vn, vk, .bool c.test.over, .int .i64 c.test.limit, vt] ∧ RowM Q 12 (CmdM Q n w) w va c.thn ∧ RowM Q 12 (CmdM Q n w) w ve c.els
abbrev TstsM (Q : Nat → Prop) (n : Nat) (w : World) (v : Value) (l : List Tst) : Prop := RowM Q 8 (TstM Q n w) w v l
abbrev CmdsM (Q : Nat → Prop) (n : Nat) (w : World) (v : Value) (l : List Cmd) : Prop := RowM Q 12 (CmdM Q n w) w v l

theorem RowM.imp {A : Type} {Q Q' : Nat → Prop} {k : Nat} {P P' : A → List Value → Prop} {w w' : World} {v : Value} {l : List A} (h : RowM Q k P w v l) (hq : ∀ b, Q b → Q' b) (hk : Keeps Q w w') (hp : ∀ x cs, P x cs → P' x cs) : RowM Q' k P' w' v l := by
  obtain ⟨a, c, hv, hm, hx⟩ := h
  refine ⟨a, c, hv, hm, fun i x hi => ?_⟩
  obtain ⟨b, o, cs, ha, hb, hQ, hl, hc, hP⟩ := hx i x hi
  exact ⟨b, o, cs, ha, Nat.lt_of_lt_of_le hb hk.size, hq b hQ, hl, fun j u hj => (World.cell?_of_block (hk.block b hb hQ)).trans (hc j u hj), hp x cs hP⟩
theorem TxtsM.imp {Q Q' : Nat → Prop} {w w' : World} {v : Value} {l : List (List UInt8)} (h : TxtsM Q w v l) (hq : ∀ b, Q b → Q' b) (hk : Keeps Q w w') : TxtsM Q' w' v l := RowM.imp h hq hk fun _ _ h => h
theorem TstM.imp {Q Q' : Nat → Prop} {w w' : World} (hq : ∀ b, Q b → Q' b) (hk : Keeps Q w w') : ∀ (n : Nat) (t : Tst) (cs : List Value), TstM Q n w t cs → TstM Q' n w' t cs := by
  intro n
  induction n with
  | zero => intro t cs h; exact h
  | succ n ih =>
    intro t cs h
    obtain ⟨vn, vk, vt, h0, h1, h2, h3⟩ := h
    exact ⟨vn, vk, vt, h0, h1.imp hq hk, h2.imp hq hk, RowM.imp h3 hq hk ih⟩
theorem CmdM.imp {Q Q' : Nat → Prop} {w w' : World} (hq : ∀ b, Q b → Q' b) (hk : Keeps Q w w') : ∀ (n : Nat) (c : Cmd) (cs : List Value), CmdM Q n w c cs → CmdM Q' n w' c cs := by
  intro n
  induction n with
  | zero => intro t cs h; exact h
  | succ n ih =>
    intro t cs h
    obtain ⟨vx, vn, vk, vt, va, ve, h0, h1, h2, h3, h4⟩ := h
    exact ⟨vx, vn, vk, vt, va, ve, h0, h1.imp hq hk, TstM.imp hq hk _ _ _ h2, RowM.imp h3 hq hk ih, RowM.imp h4 hq hk ih⟩
theorem TstM.more {Q : Nat → Prop} {w : World} : ∀ (n m : Nat) (t : Tst) (cs : List Value), n ≤ m → TstM Q n w t cs → TstM Q m w t cs := by
  intro n
  induction n with
  | zero => intro m t cs _ h; exact h.elim
  | succ n ih =>
    intro m t cs hm h
    obtain ⟨vn, vk, vt, h0, h1, h2, h3⟩ := h
    cases m with
    | zero => omega
    | succ m => exact ⟨vn, vk, vt, h0, h1, h2, RowM.imp h3 (fun _ h => h) (Keeps.refl _ _) fun x cs h => ih m x cs (by omega) h⟩
theorem CmdM.more {Q : Nat → Prop} {w : World} : ∀ (n m : Nat) (t : Cmd) (cs : List Value), n ≤ m → CmdM Q n w t cs → CmdM Q m w t cs := by
  intro n
  induction n with
  | zero => intro m t cs _ h; exact h.elim
  | succ n ih =>
    intro m t cs hm h
    obtain ⟨vx, vn, vk, vt, va, ve, h0, h1, h2, h3, h4⟩ := h
    cases m with
    | zero => omega
    | succ m => exact ⟨vx, vn, vk, vt, va, ve, h0, h1, TstM.more _ _ _ _ (by omega) h2, RowM.imp h3 (fun _ h => h) (Keeps.refl _ _) (fun x cs h => ih m x cs (by omega) h), RowM.imp h4 (fun _ h => h) (Keeps.refl _ _) fun x cs h => ih m x cs (by omega) h⟩
abbrev anyB : Nat → Prop := fun _ => True
theorem TstM.next {Q : Nat → Prop} {n : Nat} {w w' : World} {t : Tst} {cs : List Value} (h : TstM Q n w t cs) (hb : Below w.heap.size w w') : TstM Q n w' t cs := TstM.imp (fun _ h => h) (Keeps.of_below hb) _ _ _ h
theorem CmdM.next {Q : Nat → Prop} {n : Nat} {w w' : World} {c : Cmd} {cs : List Value} (h : CmdM Q n w c cs) (hb : Below w.heap.size w w') : CmdM Q n w' c cs := CmdM.imp (fun _ h => h) (Keeps.of_below hb) _ _ _ h
theorem TstsM.next {Q : Nat → Prop} {n : Nat} {w w' : World} {v : Value} {l : List Tst} (h : TstsM Q n w v l) (hb : Below w.heap.size w w') : TstsM Q n w' v l := RowM.imp h (fun _ h => h) (Keeps.of_below hb) fun _ _ h => TstM.next h hb
theorem CmdsM.next {Q : Nat → Prop} {n : Nat} {w w' : World} {v : Value} {l : List Cmd} (h : CmdsM Q n w v l) (hb : Below w.heap.size w w') : CmdsM Q n w' v l := RowM.imp h (fun _ h => h) (Keeps.of_below hb) fun _ _ h => CmdM.next h hb
theorem TxtsM.next {Q : Nat → Prop} {w w' : World} {v : Value} {l : List (List UInt8)} (h : TxtsM Q w v l) (hb : Below w.heap.size w w') : TxtsM Q w' v l := h.imp (fun _ h => h) (Keeps.of_below hb)
theorem RowM.slice {A : Type} {Q : Nat → Prop} {k : Nat} {P : A → List Value → Prop} {w : World} {v : Value} {l : List A} (h : RowM Q k P w v l) : ∃ a c, v = .slice a l.length c := by
  obtain ⟨a, c, hv, _⟩ := h; exact ⟨a, c, hv⟩
theorem rowM_nil {A : Type} (Q : Nat → Prop) (k : Nat) (P : A → List Value → Prop) (w : World) (a : Option Addr) (c : Nat) : RowM Q k P w (.slice a 0 c) ([] : List A) := ⟨a, c, rfl, by simp, fun i x h => by simp at h⟩
theorem RowM.small {A : Type} {Q : Nat → Prop} {k : Nat} {P : A → List Value → Prop} {w : World} {v : Value} {l : List A} (h : RowM Q k P w v l) : l.length ≤ maxLen := by
  obtain ⟨_, _, _, hm, _⟩ := h; exact hm
end Go.Proofs.YtepfniiojjefhaaGreatDoor

namespace Go.Proofs.YtepfniiojjefhaaGreatDoor
open Go.RowKit

/- What is read is taken. -/
end Go.Proofs.YtepfniiojjefhaaGreatDoor
namespace Go.Proofs.YtepfniiojjefhaaGreatDoor
open Go.RowKit

def marksL : List UInt8 := [33, 35, 36, 37, 38, 39, 42, 43, 45, 47, 61, 63, 94, 95, 96, 123, 124, 125, 126]
/-- P3.1: a byte of an atom. -/
def atomB (c : UInt8) : Bool := (decide (97 ≤ c.toNat) && decide (c.toNat ≤ 122)) || (decide (65 ≤ c.toNat) && decide (c.toNat ≤ 90)) || (decide (48 ≤ c.toNat) && decide (c.toNat ≤ 57)) || marksL.contains c
def runB (c : UInt8) : Bool := c == 46 || atomB c

/-- Whether a text is dotted, the byte ahead of it being a dot (or none) or not. -/
def dotS : Bool → List UInt8 → Bool
  | b, [] => !b
  | b, c :: t => if c = 46 then !b && dotS true t else atomB c && dotS false t
def dottedB (l : List UInt8) : Bool := dotS true l
def atomL (l : List UInt8) : Bool := !l.isEmpty && l.all atomB

theorem dotS_plain {p : List UInt8} (h : 46 ∉ p) (b : Bool) : dotS b p = if p.isEmpty then !b else p.all atomB := by
  induction p generalizing b with
  | nil => simp [dotS]
  | cons c t ih =>
    simp only [List.mem_cons, not_or] at h
    have hc : ¬ c = 46 := fun e => h.1 e.symm
    simp only [dotS, if_neg hc, ih h.2, List.isEmpty_cons, List.all_cons]
    cases t <;> simp
theorem dotS_cut {p : List UInt8} (h : 46 ∉ p) (b : Bool) (t : List UInt8) : dotS b (p ++ 46 :: t) = ((if p.isEmpty then !b else p.all atomB) && dotS true t) := by
  induction p generalizing b with
  | nil => simp [dotS]
  | cons c u ih =>
    simp only [List.mem_cons, not_or] at h
    have hc : ¬ c = 46 := fun e => h.1 e.symm
    simp only [List.cons_append, dotS, if_neg hc, ih h.2, List.isEmpty_cons, List.all_cons]
    cases u <;> simp [Bool.and_assoc]
theorem dotted_plain {p : List UInt8} (h : 46 ∉ p) : dottedB p = atomL p := by
  unfold dottedB atomL
  rw [dotS_plain h]
  cases p <;> simp
theorem dotted_cut {p : List UInt8} (h : 46 ∉ p) (t : List UInt8) : dottedB (p ++ 46 :: t) = (atomL p && dottedB t) := by
  unfold dottedB atomL
  rw [dotS_cut h]
  cases p <;> simp

/-- P3.2. -/
def checkA (l d : List UInt8) : Int := if (dottedB l && dottedB d) = false then 3 else if 100 < l.length + 1 + d.length then 1 else 0

/- P3.4. -/
def wblanks (s : List UInt8) : List UInt8 := s.dropWhile blankB
def wrun (s : List UInt8) : List UInt8 := s.takeWhile runB
def wrest (s : List UInt8) : List UInt8 := s.dropWhile runB
theorem wrun_rest (s : List UInt8) : wrun s ++ wrest s = s := List.takeWhile_append_dropWhile
theorem wblanks_len (s : List UInt8) : (wblanks s).length ≤ s.length := (List.dropWhile_suffix _).length_le
theorem wrest_len (s : List UInt8) : (wrest s).length ≤ s.length := (List.dropWhile_suffix _).length_le

abbrev Adr := List UInt8 × List UInt8
def takeP (c : UInt8) : List UInt8 → Option (List UInt8)
  | [] => none
  | x :: t => if x = c then some t else none
theorem takeP_some {c : UInt8} {s r : List UInt8} (h : takeP c s = some r) : s = c :: r := by
  cases s with
  | nil => cases h
  | cons x t =>
    by_cases e : x = c
    · simp only [takeP, if_pos e, Option.some.injEq] at h; rw [e, h]
    · simp only [takeP, if_neg e] at h; cases h
/-- Something quoted, behind its first sign; behind a backslash, or not. -/
def quoteS : Bool → List UInt8 → Option (List UInt8)
  | _, [] => none
  | true, c :: t => if c = 34 ∨ c = 92 then quoteS false t else none
  | false, c :: t => if c = 34 then some t else if c = 92 then quoteS true t else quoteS false t
theorem quoteS_len {b : Bool} {s r : List UInt8} (h : quoteS b s = some r) : r.length < s.length := by
  induction s generalizing b with
  | nil => cases b <;> cases h
  | cons c t ih =>
    cases b with
    | true =>
      unfold quoteS at h
      split at h
      · have := ih h; simp; omega
      · cases h
    | false =>
      unfold quoteS at h
      split at h
      · cases h; simp
      · split at h <;> (have := ih h; simp; omega)

def plainP (s : List UInt8) : Option (Adr × List UInt8) :=
  match takeP 64 (wrest s) with
  | none => none
  | some r => if checkA (wrun s) (wrun r) = 0 then some ((wrun s, wrun r), wrest r) else none
theorem plainP_len {s r : List UInt8} {a : Adr} (h : plainP s = some (a, r)) : r.length ≤ s.length := by
  unfold plainP at h
  split at h
  · cases h
  · rename_i r' hr
    split at h
    · cases h
      have h1 := takeP_some hr
      have h2 := wrest_len s
      rw [h1] at h2
      have h3 := wrest_len r'
      simp at h2; omega
    · cases h
/-- Words, and the blanks between and behind them. -/
def wordsF : Nat → List UInt8 → Option (List UInt8)
  | 0, s => some s
  | _ + 1, [] => some []
  | n + 1, c :: t =>
    if c = 34 then (quoteS false t).bind fun r => wordsF n (wblanks r)
    else if runB c then wordsF n (wblanks (wrest t)) else some (c :: t)
theorem wordsF_more : ∀ (n m : Nat) (s : List UInt8), s.length ≤ n → s.length ≤ m → wordsF n s = wordsF m s := by
  intro n
  induction n with
  | zero =>
    intro m s h1 _
    have e : s = [] := List.length_eq_zero_iff.1 (by omega)
    subst e
    cases m <;> rfl
  | succ n ih =>
    intro m s h1 h2
    cases s with
    | nil => cases m <;> rfl
    | cons c t =>
      cases m with
      | zero => simp at h2
      | succ m =>
        simp only [List.length_cons] at h1 h2
        have h3 := wrest_len t
        have h4 := wblanks_len (wrest t)
        simp only [wordsF]
        rw [ih m (wblanks (wrest t)) (by omega) (by omega)]
        cases hq : quoteS false t with
        | none => rfl
        | some q =>
          have k1 := quoteS_len hq
          have k2 := wblanks_len q
          simp only [Option.bind_some]
          rw [ih m (wblanks q) (by omega) (by omega)]
def wordsP (s : List UInt8) : Option (List UInt8) := wordsF s.length s
theorem wordsP_nil : wordsP [] = some [] := rfl
theorem wordsP_quote (t : List UInt8) : wordsP (34 :: t) = (quoteS false t).bind fun r => wordsP (wblanks r) := by
  show wordsF (t.length + 1) (34 :: t) = _
  simp only [wordsF, if_true]
  cases hq : quoteS false t with
  | none => rfl
  | some q =>
    have k1 := quoteS_len hq
    have k2 := wblanks_len q
    exact wordsF_more _ _ _ (by omega) (Nat.le_refl _)
theorem wordsP_run {c : UInt8} {t : List UInt8} (h : c ≠ 34) (hr : runB c = true) : wordsP (c :: t) = wordsP (wblanks (wrest (c :: t))) := by
  have e : wrest (c :: t) = wrest t := by unfold wrest; rw [List.dropWhile_cons, if_pos hr]
  have h3 := wrest_len t
  have h4 := wblanks_len (wrest t)
  rw [e]
  show wordsF (t.length + 1) (c :: t) = _
  simp only [wordsF, if_neg h, if_pos hr]
  exact wordsF_more _ _ _ (by omega) (Nat.le_refl _)
theorem wordsP_stop {c : UInt8} {t : List UInt8} (h : c ≠ 34) (hr : runB c = false) : wordsP (c :: t) = some (c :: t) := by
  show wordsF (t.length + 1) (c :: t) = _
  simp [wordsF, if_neg h, hr]
theorem wordsP_len (n : Nat) : ∀ (s r : List UInt8), s.length ≤ n → wordsP s = some r → r.length ≤ s.length := by
  induction n with
  | zero =>
    intro s r hn h
    cases s with
    | nil => rw [wordsP_nil] at h; cases h; simp
    | cons c t => simp at hn
  | succ n ih =>
    intro s r hn h
    cases s with
    | nil => rw [wordsP_nil] at h; cases h; simp
    | cons c t =>
      simp only [List.length_cons] at hn
      by_cases hc : c = 34
      · subst hc
        rw [wordsP_quote] at h
        cases hq : quoteS false t with
        | none => rw [hq] at h; cases h
        | some q =>
          rw [hq] at h
          have h1 := quoteS_len hq
          have h2 := wblanks_len q
          have h3 := ih _ _ (by omega) h
          simp; omega
      · cases hr : runB c with
        | true =>
          rw [wordsP_run hc hr] at h
          have e : wrest (c :: t) = wrest t := by unfold wrest; rw [List.dropWhile_cons, if_pos hr]
          rw [e] at h
          have h1 := wrest_len t
          have h2 := wblanks_len (wrest t)
          have h3 := ih _ _ (by omega) h
          simp; omega
        | false =>
          rw [wordsP_stop hc hr] at h
          cases h; simp
def namedP (s : List UInt8) : Option (Adr × List UInt8) :=
  (wordsP s).bind fun r => (takeP 60 r).bind fun r => (plainP r).bind fun x => (takeP 62 x.2).map fun r => (x.1, r)
theorem namedP_len {s r : List UInt8} {a : Adr} (h : namedP s = some (a, r)) : r.length ≤ s.length := by
  unfold namedP at h
  simp only [Option.bind_eq_some_iff, Option.map_eq_some_iff] at h
  obtain ⟨r1, h1, r2, h2, ⟨a3, r3⟩, h3, r4, h4, h5⟩ := h
  cases h5
  have k1 := wordsP_len _ _ _ (Nat.le_refl _) h1
  have k2 := congrArg List.length (takeP_some h2)
  have k3 := plainP_len h3
  have k4 := congrArg List.length (takeP_some h4)
  simp at k2 k4 k3; omega
def addressP (s : List UInt8) : Option (Adr × List UInt8) :=
  (if (takeP 64 (wrest (wblanks s))).isSome then plainP (wblanks s) else namedP (wblanks s)).map fun x => (x.1, wblanks x.2)
theorem addressP_len {s r : List UInt8} {a : Adr} (h : addressP s = some (a, r)) : r.length ≤ s.length := by
  unfold addressP at h
  rw [Option.map_eq_some_iff] at h
  obtain ⟨⟨a1, r1⟩, h1, h2⟩ := h
  cases h2
  have k1 := wblanks_len s
  have k2 := wblanks_len r1
  split at h1
  · have := plainP_len h1; simp only at *; omega
  · have := namedP_len h1; simp only at *; omega
def listF : Nat → List UInt8 → Option (List Adr)
  | 0, _ => none
  | n + 1, s => (addressP s).bind fun x => if x.2 = [] then some [x.1] else (takeP 44 x.2).bind fun r => (listF n r).map (x.1 :: ·)
theorem listF_more : ∀ (n m : Nat) (s : List UInt8), s.length < n → s.length < m → listF n s = listF m s := by
  intro n
  induction n with
  | zero => intro m s h1; omega
  | succ n ih =>
    intro m s h1 h2
    cases m with
    | zero => omega
    | succ m =>
      simp only [listF]
      cases ha : addressP s with
      | none => rfl
      | some x =>
        have k1 := addressP_len (a := x.1) (r := x.2) ha
        simp only [Option.bind_some]
        split
        · rfl
        · cases ht : takeP 44 x.2 with
          | none => rfl
          | some r =>
            have k2 := congrArg List.length (takeP_some ht)
            simp only [List.length_cons] at k2
            simp only [Option.bind_some]
            rw [ih m r (by omega) (by omega)]
def listP (s : List UInt8) : Option (List Adr) := listF (s.length + 1) s
theorem listP_none {s : List UInt8} (h : addressP s = none) : listP s = none := by
  unfold listP; simp only [listF, h]; rfl
theorem listP_one {s : List UInt8} {a : Adr} (h : addressP s = some (a, [])) : listP s = some [a] := by
  unfold listP; simp only [listF, h]; rfl
theorem listP_odd {s r : List UInt8} {a : Adr} (h : addressP s = some (a, r)) (hr : r ≠ []) (h3 : takeP 44 r = none) : listP s = none := by
  unfold listP; simp only [listF, h, Option.bind_some, if_neg hr, h3]; rfl
theorem listP_more {s r : List UInt8} {a : Adr} (h : addressP s = some (a, 44 :: r)) : listP s = (listP r).map (a :: ·) := by
  have k1 := addressP_len h
  simp only [List.length_cons] at k1
  show listF (s.length + 1) s = (listF (r.length + 1) r).map _
  have e : takeP 44 (44 :: r) = some r := by simp [takeP]
  rw [listF, h, Option.bind_some, if_neg (by simp), e, Option.bind_some, listF_more s.length (r.length + 1) r (by omega) (by omega)]
def listM (s : List UInt8) : List Adr × Int :=
  if 2000 < s.length then ([], 1) else match listP s with
    | none => ([], 3)
    | some l => if 20 < l.length then ([], 5) else (l, 0)
end Go.Proofs.YtepfniiojjefhaaGreatDoor

namespace Go.Proofs.YtepfniiojjefhaaGreatDoor
open Go.RowKit

/-- A word of the laws: one to eight small letters. -/
def wordy (l : List UInt8) : Prop := l ≠ [] ∧ l.length ≤ 8 ∧ ∀ c ∈ l, 97 ≤ c.toNat ∧ c.toNat ≤ 122
def orgL : List UInt8 := [46, 111, 114, 103]
/-- Letters and dots: what a Local and a Domain of the laws are made of. -/
def letters (l : List UInt8) : Prop := ∀ c ∈ l, (97 ≤ c.toNat ∧ c.toNat ≤ 122) ∨ c = 46
theorem wordy.letters {l : List UInt8} (h : wordy l) : letters l := fun c hc => Or.inl (h.2.2 c hc)
theorem wordy.org {l : List UInt8} (h : wordy l) : Go.Proofs.YtepfniiojjefhaaGreatDoor.letters (l ++ orgL) := by
  intro c hc
  rcases List.mem_append.1 hc with hc | hc
  · exact Or.inl (h.2.2 c hc)
  · simp [orgL] at hc
    rcases hc with rfl | rfl | rfl | rfl <;> decide
/-- An address of the laws. -/
def lawful (a : Adr) : Prop := wordy a.1 ∧ ∃ d, wordy d ∧ a.2 = d ++ orgL
theorem lawful.len {a : Adr} (h : lawful a) : a.1.length ≤ 8 ∧ a.2.length ≤ 12 := by
  obtain ⟨h1, d, h2, h3⟩ := h
  have l1 := h1.2.1
  have l2 := h2.2.1
  rw [h3]; simp [orgL]; omega
theorem lawful.letters {a : Adr} (h : lawful a) : letters a.1 ∧ Go.Proofs.YtepfniiojjefhaaGreatDoor.letters a.2 := by
  obtain ⟨h1, d, h2, h3⟩ := h
  rw [h3]; exact ⟨h1.letters, h2.org⟩
/-- What an address is put together of. -/
def textA (a : Adr) : List UInt8 := a.1 ++ 64 :: a.2
theorem lawful.size {a : Adr} (h : lawful a) : (textA a).length ≤ 21 := by
  have := h.len
  simp [textA]; omega

/- WhoMany. -/
structure Man where
  adr : Adr
  word : List UInt8
  kind : Nat
  sep : Nat
def Man.ok (x : Man) : Prop := lawful x.adr ∧ wordy x.word
/- WhoFull. -/
end Go.Proofs.YtepfniiojjefhaaGreatDoor

namespace Go.Proofs.YtepfniiojjefhaaGreatDoor
open Go.RowKit Go.Proofs

end Go.Proofs.YtepfniiojjefhaaGreatDoor
namespace Go.Proofs.YtepfniiojjefhaaGreatDoor
open Go.RowKit

/- P6.1. -/
def flagTab : List (List UInt8 × Nat) := [([92, 83, 101, 101, 110], 1), ([92, 65, 110, 115, 119, 101, 114, 101, 100], 2), ([92, 70, 108, 97, 103, 103, 101, 100], 4), ([92, 68, 101, 108, 101, 116, 101, 100], 8), ([92, 68, 114, 97, 102, 116], 16)]
def flagIn : List (List UInt8 × Nat) → List UInt8 → Nat
  | [], _ => 0
  | x :: r, s => if x.1 = s then x.2 else flagIn r s
/-- The flag of a name; 0: none. -/
def flagP (s : List UInt8) : Nat := flagIn flagTab s
/-- The flags of names, some of them told already. -/
def flagsG : Nat → List (List UInt8) → Option Nat
  | n, [] => some n
  | n, s :: r => if flagP s = 0 then none else flagsG (n ||| flagP s) r
def flagsP (l : List (List UInt8)) : Option Nat := flagsG 0 l
theorem flagIn_lt : ∀ (t : List (List UInt8 × Nat)) (s : List UInt8), (∀ x ∈ t, x.2 < 32) → flagIn t s < 32 := by
  intro t
  induction t with
  | nil => intro s _; show 0 < 32; omega
  | cons x t ih =>
    intro s h
    unfold flagIn
    split
    · exact h x (by simp)
    · exact ih s fun y hy => h y (by simp [hy])
theorem flagP_lt (s : List UInt8) : flagP s < 32 := flagIn_lt _ _ (by decide)
theorem lor_lt {a b : Nat} (ha : a < 32) (hb : b < 32) : a ||| b < 32 := Nat.or_lt_two_pow (n := 5) ha hb
/- P6.2. -/
def inName (c : UInt8) : Bool := decide (33 ≤ c.toNat) && decide (c.toNat ≤ 126)
def nameP (s : List UInt8) : Int := if s.length < 1 ∨ 12 < s.length then 1 else if s.all inName then 0 else 3

/- P6.3, P6.4. -/
def fileW : List UInt8 := [102, 105, 108, 101, 105, 110, 116, 111]
def rejW : List UInt8 := [114, 101, 106, 101, 99, 116]
def envW : List UInt8 := [101, 110, 118, 101, 108, 111, 112, 101]
def flgW : List UInt8 := [105, 109, 97, 112, 52, 102, 108, 97, 103, 115]
def fromW : List UInt8 := [102, 114, 111, 109]
def toW : List UInt8 := [116, 111]
def extP (s : List UInt8) : Bool := decide (s = fileW) || decide (s = rejW) || decide (s = envW) || decide (s = flgW)
def partP (s : List UInt8) : Bool := decide (s = fromW) || decide (s = toW)
def needP (k : Int) : List UInt8 := if k = 5 then fileW else if k = 7 then rejW else if k = 8 ∨ k = 9 then flgW else []
def hasP (H : List (List UInt8)) (s : List UInt8) : Bool := s.isEmpty || H.contains s
def longP (l : List (List UInt8)) : Bool := l.any fun s => decide (100 < s.length)
def envP (H : List (List UInt8)) (t : Tst) : Int := if hasP H envW = false then 8 else if t.names.all partP then 0 else 7
def tstA (H : List (List UInt8)) : Nat → Tst → Int
  | 0, _ => 0
  | n + 1, t => if t.kind = 8 ∧ envP H t ≠ 0 then envP H t else if longP t.names ∨ longP t.keys then 1 else firstP (tstA H n) t.tests
def goalP (s : List UInt8) : Int := if (listM s).2 = 0 ∧ (listM s).1.length = 1 then 0 else 3
def cmdA (H : List (List UInt8)) : Nat → Cmd → Int
  | 0, _ => 0
  | n + 1, c =>
    if hasP H (needP c.kind) = false then 8
    else if c.kind = 1 then 3
    else if c.kind = 5 then nameP (c.texts.getD 0 [])
    else if c.kind = 8 ∨ c.kind = 9 then (if flagsP c.texts = none then 7 else 0)
    else if c.kind = 6 then goalP (c.texts.getD 0 [])
    else if c.kind = 2 then
      (if tstA H n c.test ≠ 0 then tstA H n c.test
       else if firstP (cmdA H n) c.thn ≠ 0 then firstP (cmdA H n) c.thn
       else firstP (cmdA H n) c.els)
    else 0
/-- How many Requires stand ahead. -/
def aheadP : List Cmd → Nat
  | [] => 0
  | c :: r => if c.kind = 1 then aheadP r + 1 else 0
def reqsP (l : List Cmd) : List (List UInt8) := (l.take (aheadP l)).flatMap (·.texts)
def ruleM (n : Nat) (l : List Cmd) : Int :=
  if checkM n l ≠ 0 then checkM n l
  else if (reqsP l).all extP = false then 7
  else firstP (cmdA (reqsP l) n) (l.drop (aheadP l))

/- What the laws make. -/
/- The laws' own scripts. -/
theorem fault_all {n d : Nat} {l : List Cmd} (h : faultCmds n d l = 0) : ∀ x ∈ l, faultCmd n d x = 0 := by
  intro x hx
  unfold faultCmds at h
  induction l with
  | nil => cases hx
  | cons y l ih =>
    unfold firstP at h
    by_cases hy : faultCmd n d y = 0
    · rw [if_pos hy] at h
      rcases List.mem_cons.1 hx with e | e
      · rw [e]; exact hy
      · exact ih h e
    · rw [if_neg hy] at h; exact absurd h hy
theorem checkM_ok {n : Nat} {l : List Cmd} (h : checkM n l = 0) : (∀ x ∈ l, faultCmd n 0 x = 0) ∧ (cmdsT n l).length ≤ 400 := by
  unfold checkM at h
  by_cases h1 : faultCmds n 0 l = 0
  · rw [if_neg (by simpa using h1)] at h
    refine ⟨fault_all h1, ?_⟩
    rcases Nat.lt_or_ge 400 (cmdsT n l).length with h2 | h2
    · rw [if_pos h2] at h; simp at h
    · exact h2
  · rw [if_pos h1] at h; exact absurd h h1
end Go.Proofs.YtepfniiojjefhaaGreatDoor

namespace Go.Proofs.YtepfniiojjefhaaGreatDoor
open Go.RowKit

end Go.Proofs.YtepfniiojjefhaaGreatDoor
namespace Go.Proofs.YtepfniiojjefhaaGreatDoor
open Go.RowKit

theorem S_some (c : UInt8) (t : List UInt8) : (S (c :: t)).toList.isEmpty = false := by rw [Lib.toList_data, list_S]; rfl
theorem S_none : (S []).toList.isEmpty = true := by rw [Lib.toList_data, list_S]; rfl
theorem S_pos (c : UInt8) (t : List UInt8) : 0 < (S (c :: t)).size := by rw [size_S]; simp
theorem S_drop (s : List UInt8) (k : Nat) : (S s).extract k (S s).size = S (s.drop k) := by
  rw [Lib.extract_eq, list_S, size_S, List.take_of_length_le (by simp)]; rfl
theorem S_take (s : List UInt8) (k : Nat) : (S s).extract 0 k = S (s.take k) := by
  rw [Lib.extract_eq, list_S]; rfl
theorem S_head (c : UInt8) (t : List UInt8) (h : 0 < (S (c :: t)).size) : (S (c :: t))[0] = c := rfl
theorem byte_round (c : UInt8) : ((c.toNat : Int)).toNat.toUInt8 = c := by simp
theorem wcell_next {w w' : World} {p : Addr} {v : Value} (h : w.cell? p = some v) (hb : Below w.heap.size w w') : w'.cell? p = some v :=
  (hb.cell (World.block_lt_of_cell? w _ h)).trans h
theorem wdrew {B : Nat} {a w : World} (h : Below B a w) (n : Nat) : Below B a (w.drewN n) := h.trans ⟨rfl, rfl, rfl, Nat.le_refl _, fun _ _ => rfl⟩
theorem wnext {B : Nat} {a b c : World} (h : Below B a b) (k : Below b.heap.size b c) (hB : B ≤ a.heap.size) : Below B a c := h.trans (k.mono (Nat.le_trans hB h.size))
end Go.Proofs.YtepfniiojjefhaaGreatDoor
namespace Go.Proofs.YtepfniiojjefhaaGreatDoor
open Go.RowKit

theorem all_take_more {l : List UInt8} {k : Nat} {c : UInt8} (f : UInt8 → Bool) (h : l[k]? = some c) : (l.take (k + 1)).all f = ((l.take k).all f && f c) := by
  have hk : k < l.length := (List.getElem?_eq_some_iff.1 h).1
  have e : l[k] = c := (List.getElem?_eq_some_iff.1 h).2
  rw [List.take_succ_eq_append_getElem hk, List.all_append, e]
  simp
theorem inName_no {c : UInt8} (h : inName c = false) : c.toNat < 33 ∨ 126 < c.toNat := by
  unfold inName at h; simp at h; omega
theorem inName_yes {c : UInt8} (h : inName c = true) : 33 ≤ c.toNat ∧ c.toNat ≤ 126 := by
  unfold inName at h; simpa using h
theorem nameP_bad {s : ByteArray} {c : UInt8} (hc : c ∈ s.data.toList) (h1 : 1 ≤ s.size) (h2 : s.size ≤ 12) (h : inName c = false) : nameP s.data.toList = 3 := by
  unfold nameP
  rw [if_neg (by rw [size_list]; omega), if_neg]
  intro ha
  have := List.all_eq_true.1 ha c hc
  rw [h] at this; cases this
theorem nameP_good {s : ByteArray} (h1 : 1 ≤ s.size) (h2 : s.size ≤ 12) (h : s.data.toList.all inName = true) : nameP s.data.toList = 0 := by
  unfold nameP
  rw [if_neg (by rw [size_list]; omega), if_pos h]
theorem nameP_size {s : ByteArray} (h : s.size < 1 ∨ 12 < s.size) : nameP s.data.toList = 1 := by
  unfold nameP
  rw [if_pos (by rw [size_list]; exact h)]

set_option maxHeartbeats 2000000 in
theorem rname_any (s : ByteArray) (w : World) :
    Calls Tryz.prog 129 #[.string s] w fun e w' => e = .returned (.int .i64 (nameP s.data.toList)) ∧ w' = w := by
  by_cases h0 : s.size < 1
  · have HR : Hid _ := nameP_size (Or.inl h0)
    have i0 : (s.size : Int) < 1 := by omega
    go_enter Tryz.func129, Tryz.ntmps129
    go_wp2
    go_ret
    exact ⟨ret_int HR.out.symm, rfl⟩
  · by_cases h12 : 12 < s.size
    · have HR : Hid _ := nameP_size (Or.inr h12)
      have i0 : ¬ (s.size : Int) < 1 := by omega
      have i1 : (12 : Int) < (s.size : Int) := by omega
      go_enter Tryz.func129, Tryz.ntmps129
      go_wp2
      go_ret
      exact ⟨ret_int HR.out.symm, rfl⟩
    · have i0 : ¬ (s.size : Int) < 1 := by omega
      have i1 : ¬ (12 : Int) < (s.size : Int) := by omega
      go_enter Tryz.func129, Tryz.ntmps129
      go_wp2
      go_loopw [14] (fun i wr => ∃ k : Nat, k ≤ s.size ∧ i = .int .i64 k ∧ Hid ((s.data.toList.take k).all inName = true) ∧ wr = w) (fun i _ => s.size - (intOf i).toNat)
      case atStart => exact ⟨0, Nat.zero_le _, rfl, rfl, rfl⟩
      case round =>
        obtain ⟨k, hk, rfl, HT, rfl⟩ := hrel
        by_cases hlt : k < s.size
        · have hg := get_list s k hlt
          have HS : Hid _ := all_take_more inName hg
          have hlt' : (k : Int) < (s.size : Int) := by omega
          have hk0 : (0 : Int) ≤ (k : Int) := by omega
          cases ha : inName s[k] with
          | true =>
            have HN : Hid ((s.data.toList.take (k + 1)).all inName = true) := by unfold Hid; rw [HS.out, HT.out, ha]; rfl
            obtain ⟨b1, b2⟩ := inName_yes ha
            have c1 : ¬ ((s[k].toNat : Int) < 33) := by omega
            have c2 : ¬ ((126 : Int) < (s[k].toNat : Int)) := by omega
            clear HS hg ha
            go_wp2
            go_roundw
            case rel => first | exact ⟨k + 1, by omega, by go_num, HN, by first | rfl | trivial⟩ | ((repeat apply Exists.intro); exact ⟨⟨k + 1, by omega, by go_num, HN, by first | rfl | trivial⟩, rfl⟩) | (refine ⟨trivial, ?_⟩; (repeat apply Exists.intro); exact ⟨⟨k + 1, by omega, by go_num, HN, by first | rfl | trivial⟩, rfl⟩)
            case measure => simp [intOf]; omega
          | false =>
            have HN : Hid _ := nameP_bad (List.mem_of_getElem? hg) (by omega) (by omega) ha
            rcases inName_no ha with b | b
            · have c1 : ((s[k].toNat : Int) < 33) := by omega
              clear HS hg ha
              go_wp2
              go_ret
              exact ⟨ret_int HN.out.symm, rfl⟩
            · have c1 : ¬ ((s[k].toNat : Int) < 33) := by omega
              have c2 : ((126 : Int) < (s[k].toNat : Int)) := by omega
              clear HS hg ha
              go_wp2
              go_ret
              exact ⟨ret_int HN.out.symm, rfl⟩
        · have hk' : k = s.size := by omega
          have HN : Hid (nameP s.data.toList = 0) := nameP_good (by omega) (by omega) (by have := HT.out; rwa [List.take_of_length_le (by rw [size_list]; omega)] at this)
          have hlt' : ¬ (k : Int) < (s.size : Int) := by omega
          go_wp2
          go_ret
          exact ⟨ret_int HN.out.symm, rfl⟩
end Go.Proofs.YtepfniiojjefhaaGreatDoor
