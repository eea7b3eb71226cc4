
/-
  Plain facts on tokens: what a script is cut into, what tokens are joined to. No program is named here.
  Plain facts on scripts: what commands and tests are, which may be, how they are shown and read. No program is named here.
  Worlds of which all but one block of what was there is as it was. No program is named here.
  Tests and commands in memory: rows within rows. No function of the program is named here.
  Plain facts on scripts: how tokens are read. No program is named here.
-/
import Derived.WalkKit
import Derived.Lib.ItoaNum
import Derived.Test.YtkciflocpelhiaaGreatDoorPure
import Derived.Below
import Derived.Laws.AppendOwn
namespace Go.Proofs.YtkciflocpelhiaaGreatDoor
open Go.RowKit

/- P4.1. -/
structure Tok where
  kind : Int
  text : List UInt8
  num : Int

/- P4.2. -/
/- P4.3. -/
abbrev Cutting := Except Int (Tok × List UInt8)
/- P4.4. -/
/- P4.5. -/
/- P4.6. -/
/- P4.7. -/
end Go.Proofs.YtkciflocpelhiaaGreatDoor

namespace Go.Proofs.YtkciflocpelhiaaGreatDoor
open Go.RowKit

/-- A test. -/
structure Tst where
  kind : Int
  mat : Int
  part : Int
  names : List (List UInt8)
  keys : List (List UInt8)
  over : Bool
  limit : Int
  tests : List Tst
/-- A command. -/
structure Cmd where
  kind : Int
  texts : List (List UInt8)
  test : Tst
  thn : List Cmd
  els : List Cmd
def noneT : Tst := ⟨0, 0, 0, [], [], false, 0, []⟩

/- Words. -/
def wTabs : List (List (List UInt8)) := [
  [[], [114, 101, 113, 117, 105, 114, 101], [105, 102], [107, 101, 101, 112], [100, 105, 115, 99, 97, 114, 100], [102, 105, 108, 101, 105, 110, 116, 111], [114, 101, 100, 105, 114, 101, 99, 116], [114, 101, 106, 101, 99, 116], [115, 101, 116, 102, 108, 97, 103], [97, 100, 100, 102, 108, 97, 103], [115, 116, 111, 112]],
  [[], [116, 114, 117, 101], [102, 97, 108, 115, 101], [110, 111, 116], [97, 108, 108, 111, 102], [97, 110, 121, 111, 102], [104, 101, 97, 100, 101, 114], [97, 100, 100, 114, 101, 115, 115], [101, 110, 118, 101, 108, 111, 112, 101], [101, 120, 105, 115, 116, 115], [115, 105, 122, 101]],
  [[], [105, 115], [99, 111, 110, 116, 97, 105, 110, 115], [109, 97, 116, 99, 104, 101, 115], [], [], [], [], [], [], []],
  [[], [97, 108, 108], [108, 111, 99, 97, 108, 112, 97, 114, 116], [100, 111, 109, 97, 105, 110], [], [], [], [], [], [], []]]
def wordOf (k n : Nat) : List UInt8 := (wTabs.getD k []).getD n []
def numIn : List (List UInt8) → Nat → List UInt8 → Nat
  | [], _, _ => 0
  | x :: r, n, s => if x = s then n else numIn r (n + 1) s
def isNumP (k : Nat) (n : Int) : Bool := decide (0 ≤ n) && decide (n < 11) && !(wordOf k n.toNat).isEmpty
theorem isNum_cmd (n : Int) : isNumP 0 n = (decide (1 ≤ n) && decide (n ≤ 10)) := by
  unfold isNumP
  by_cases h0 : 0 ≤ n
  · by_cases h1 : n < 11
    · obtain ⟨k, rfl⟩ := Int.eq_ofNat_of_zero_le h0
      have hk : k < 11 := by omega
      match k, hk with
      | 0, _ | 1, _ | 2, _ | 3, _ | 4, _ | 5, _ | 6, _ | 7, _ | 8, _ | 9, _ | 10, _ => rfl
    · simp [h1]; omega
  · simp [h0]; omega
theorem isNum_tst (n : Int) : isNumP 1 n = (decide (1 ≤ n) && decide (n ≤ 10)) := by
  unfold isNumP
  by_cases h0 : 0 ≤ n
  · by_cases h1 : n < 11
    · obtain ⟨k, rfl⟩ := Int.eq_ofNat_of_zero_le h0
      have hk : k < 11 := by omega
      match k, hk with
      | 0, _ | 1, _ | 2, _ | 3, _ | 4, _ | 5, _ | 6, _ | 7, _ | 8, _ | 9, _ | 10, _ => rfl
    · simp [h1]; omega
  · simp [h0]; omega
theorem isNum_mat (n : Int) : isNumP 2 n = (decide (1 ≤ n) && decide (n ≤ 3)) := by
  unfold isNumP
  by_cases h0 : 0 ≤ n
  · by_cases h1 : n < 11
    · obtain ⟨k, rfl⟩ := Int.eq_ofNat_of_zero_le h0
      have hk : k < 11 := by omega
      match k, hk with
      | 0, _ | 1, _ | 2, _ | 3, _ | 4, _ | 5, _ | 6, _ | 7, _ | 8, _ | 9, _ | 10, _ => rfl
    · simp [h1]; omega
  · simp [h0]; omega
theorem isNum_part (n : Int) : isNumP 3 n = (decide (1 ≤ n) && decide (n ≤ 3)) := by
  unfold isNumP
  by_cases h0 : 0 ≤ n
  · by_cases h1 : n < 11
    · obtain ⟨k, rfl⟩ := Int.eq_ofNat_of_zero_le h0
      have hk : k < 11 := by omega
      match k, hk with
      | 0, _ | 1, _ | 2, _ | 3, _ | 4, _ | 5, _ | 6, _ | 7, _ | 8, _ | 9, _ | 10, _ => rfl
    · simp [h1]; omega
  · simp [h0]; omega

/- P5.6. -/
def noTst (t : Tst) : Bool := decide (t.kind = 0) && decide (t.mat = 0) && decide (t.part = 0) && decide (t.names.length = 0) && decide (t.keys.length = 0) && !t.over && decide (t.limit = 0) && decide (t.tests.length = 0)
def cmpB (t : Tst) : Bool := isNumP 2 t.mat && decide (0 < t.names.length) && decide (0 < t.keys.length)
/-- A test has just what its kind has. -/
def fitsT (t : Tst) : Bool :=
  if t.kind = 3 then decide (t.tests.length = 1) && noTst { t with kind := 0, tests := [] }
  else if t.kind = 4 ∨ t.kind = 5 then decide (0 < t.tests.length) && noTst { t with kind := 0, tests := [] }
  else if t.kind = 6 then cmpB t && noTst { t with kind := 0, mat := 0, names := [], keys := [] }
  else if t.kind = 7 ∨ t.kind = 8 then cmpB t && isNumP 3 t.part && noTst { t with kind := 0, mat := 0, part := 0, names := [], keys := [] }
  else if t.kind = 9 then decide (0 < t.names.length) && noTst { t with kind := 0, names := [] }
  else if t.kind = 10 then decide (0 ≤ t.limit ∧ t.limit ≤ 2147483647) && noTst { t with kind := 0, over := false, limit := 0 }
  else noTst { t with kind := 0 }
def oneP (k : Bool) (d : Nat) (f : Bool) : Int := if k = false then 2 else if 6 < d then 1 else if f = false then 3 else 0
def firstP {A : Type} (f : A → Int) : List A → Int
  | [] => 0
  | x :: r => if f x = 0 then firstP f r else f x
def faultTst : Nat → Nat → Tst → Int
  | 0, _, _ => 0
  | n + 1, d, t => if oneP (isNumP 1 t.kind) d (fitsT t) = 0 then firstP (faultTst n (d + 1)) t.tests else oneP (isNumP 1 t.kind) d (fitsT t)
def fitsC (c : Cmd) : Bool :=
  if c.kind ≠ 2 ∧ (0 < c.thn.length ∨ 0 < c.els.length ∨ noTst c.test = false) then false
  else if c.kind = 1 ∨ c.kind = 8 ∨ c.kind = 9 then decide (0 < c.texts.length)
  else if c.kind = 5 ∨ c.kind = 6 ∨ c.kind = 7 then decide (c.texts.length = 1)
  else decide (c.texts.length = 0)
def elsifP : List Cmd → Option Cmd
  | [c] => if c.kind = 2 then some c else none
  | _ => none
def faultCmd : Nat → Nat → Cmd → Int
  | 0, _, _ => 0
  | n + 1, d, c =>
    if oneP (isNumP 0 c.kind) d (fitsC c) ≠ 0 then oneP (isNumP 0 c.kind) d (fitsC c)
    else if c.kind ≠ 2 then 0
    else if faultTst n 1 c.test ≠ 0 then faultTst n 1 c.test
    else if firstP (faultCmd n (d + 1)) c.thn ≠ 0 then firstP (faultCmd n (d + 1)) c.thn
    else match elsifP c.els with
      | some x => faultCmd n d x
      | none => firstP (faultCmd n (d + 1)) c.els
theorem faultCmd_step (n d : Nat) (c : Cmd) : faultCmd (n + 1) d c =
    if oneP (isNumP 0 c.kind) d (fitsC c) ≠ 0 then oneP (isNumP 0 c.kind) d (fitsC c)
    else if c.kind ≠ 2 then 0
    else if faultTst n 1 c.test ≠ 0 then faultTst n 1 c.test
    else if firstP (faultCmd n (d + 1)) c.thn ≠ 0 then firstP (faultCmd n (d + 1)) c.thn
    else match elsifP c.els with
      | some x => faultCmd n d x
      | none => firstP (faultCmd n (d + 1)) c.els := rfl
theorem elsifP_some {l : List Cmd} {x : Cmd} (h : elsifP l = some x) : l = [x] ∧ x.kind = 2 := by
  match l with
  | [] => cases h
  | [c] =>
    by_cases hk : c.kind = 2
    · simp only [elsifP, if_pos hk, Option.some.injEq] at h; subst h; exact ⟨rfl, hk⟩
    · simp only [elsifP, if_neg hk] at h; cases h
  | a :: b :: r => cases h
def faultCmds (n d : Nat) (l : List Cmd) : Int := firstP (faultCmd n d) l

/- P5.7. -/
def wordT (s : List UInt8) : Tok := ⟨1, s, 0⟩
def tagT (s : List UInt8) : Tok := ⟨2, s, 0⟩
def strT (s : List UInt8) : Tok := ⟨4, s, 0⟩
def markT (c : UInt8) : Tok := ⟨5, [c], 0⟩
def sepT {A : Type} (f : A → List Tok) : List A → List Tok
  | [] => []
  | x :: r => f x ++ r.flatMap fun y => markT 44 :: f y
def listT : List (List UInt8) → List Tok
  | [x] => [strT x]
  | l => markT 91 :: (sepT (fun x => [strT x]) l ++ [markT 93])
def elsifW : List UInt8 := [101, 108, 115, 105, 102]
def elseW : List UInt8 := [101, 108, 115, 101]
def overW : List UInt8 := [111, 118, 101, 114]
def underW : List UInt8 := [117, 110, 100, 101, 114]
def testT : Nat → Tst → List Tok
  | 0, _ => []
  | n + 1, t =>
    wordT (wordOf 1 t.kind.toNat) ::
      (if t.kind = 3 then (t.tests.head?.map (testT n)).getD []
       else if t.kind = 4 ∨ t.kind = 5 then markT 40 :: (sepT (testT n) t.tests ++ [markT 41])
       else if t.kind = 6 then tagT (wordOf 2 t.mat.toNat) :: (listT t.names ++ listT t.keys)
       else if t.kind = 7 ∨ t.kind = 8 then tagT (wordOf 3 t.part.toNat) :: tagT (wordOf 2 t.mat.toNat) :: (listT t.names ++ listT t.keys)
       else if t.kind = 9 then listT t.names
       else if t.kind = 10 then [tagT (if t.over then overW else underW), ⟨3, [], t.limit⟩]
       else [])
/-- What stands behind a command's word. -/
def restT : Nat → Cmd → List Tok
  | 0, _ => []
  | n + 1, c =>
    if c.kind = 2 then
      testT n c.test ++ (markT 123 :: (c.thn.flatMap fun x => wordT (wordOf 0 x.kind.toNat) :: restT n x) ++ [markT 125]) ++
        (match elsifP c.els with
         | some x => wordT elsifW :: restT n x
         | none => if c.els.length = 0 then [] else wordT elseW :: markT 123 :: (c.els.flatMap fun x => wordT (wordOf 0 x.kind.toNat) :: restT n x) ++ [markT 125])
    else (if c.texts.length = 0 then [] else listT c.texts) ++ [markT 59]
def cmdT (n : Nat) (c : Cmd) : List Tok := wordT (wordOf 0 c.kind.toNat) :: restT n c
def cmdsT (n : Nat) (l : List Cmd) : List Tok := l.flatMap (cmdT n)
def checkM (n : Nat) (l : List Cmd) : Int := if faultCmds n 0 l ≠ 0 then faultCmds n 0 l else if 400 < (cmdsT n l).length then 5 else 0
end Go.Proofs.YtkciflocpelhiaaGreatDoor

namespace Go.Proofs.YtkciflocpelhiaaGreatDoor
open Go.RowKit

/-- All but one block of what was there is as it was. -/
structure But (b : Nat) (w w' : World) : Prop where
  os : w'.os = w.os
  tape : w'.tape = w.tape
  output : w'.output = w.output
  size : w.heap.size ≤ w'.heap.size
  block : ∀ k, k < w.heap.size → k ≠ b → w'.heap[k]? = w.heap[k]?

theorem But.refl (b : Nat) (w : World) : But b w w := ⟨rfl, rfl, rfl, Nat.le_refl _, fun _ _ _ => rfl⟩
theorem But.trans {b : Nat} {x y z : World} (h : But b x y) (k : But b y z) : But b x z :=
  ⟨k.os.trans h.os, k.tape.trans h.tape, k.output.trans h.output, Nat.le_trans h.size k.size, fun i hi hn => (k.block i (Nat.lt_of_lt_of_le hi h.size) hn).trans (h.block i hi hn)⟩
theorem But.of {b : Nat} {w w' : World} (h : Below w.heap.size w w') : But b w w' := ⟨h.os, h.tape, h.output, h.size, fun k hk _ => h.block k hk⟩
theorem But.set {b : Nat} (w : World) (v : Value) : But b w (w.setCell ⟨b, 0, none⟩ v) :=
  ⟨rfl, rfl, rfl, by simp [World.setCell], fun k _ hn => Below.heap_setCell _ _ _ _ hn⟩
theorem But.below {b B : Nat} {w w' : World} (h : But b w w') (hB : B ≤ b) (hw : B ≤ w.heap.size) : Below B w w' :=
  ⟨h.os, h.tape, h.output, h.size, fun k hk => h.block k (by omega) (by omega)⟩
theorem But.cell {b : Nat} {w w' : World} (h : But b w w') {p : Addr} {v : Value} (hp : w.cell? p = some v) (hn : p.block ≠ b) : w'.cell? p = some v :=
  (World.cell?_of_block (w := w) (h.block p.block (World.block_lt_of_cell? w _ hp) hn)).trans hp
theorem But.frozen {b : Nat} {w w' : World} (h : But b w w') {p : Addr} (hl : p.block < w.heap.size) (hp : w.frozen? p = false) (hn : p.block ≠ b) : w'.frozen? p = false :=
  (World.frozen?_of_block (w := w) (h.block p.block hl hn)).trans hp
theorem own_but {w w' : World} {r base : Nat} {e : TypeId} {size : Nat} {v : Value} {n : Nat} {xs : List Value} (h : w.ownsRow base e size v n xs) (hb : But r w w') (hr : r < base) : w'.ownsRow base e size v n xs := by
  refine ⟨h.1, ?_⟩
  rcases h.2 with h' | ⟨g, cap, cur, h1, h2, hg, q⟩
  · exact .inl h'
  · refine .inr ⟨g, cap, cur, h1, h2, ?_, q⟩
    rw [hb.block g (by
      rcases Nat.lt_or_ge g w.heap.size with h' | h'
      · exact h'
      · rw [Array.getElem?_eq_none h'] at hg; cases hg) (by omega)]
    exact hg
/-- A block of one cell: a variable that a closure has captured. -/
def Box (w : World) (b : Nat) (v : Value) (t : TypeId) : Prop := w.heap[b]? = some (.cells #[v] t)
theorem Box.cell {w : World} {b : Nat} {v : Value} {t : TypeId} (h : Box w b v t) : w.cell? ⟨b, 0, none⟩ = some v := by
  unfold Box at h; simp [World.cell?, h]
theorem Box.free {w : World} {b : Nat} {v : Value} {t : TypeId} (h : Box w b v t) : w.frozen? ⟨b, 0, none⟩ = false := by
  unfold Box at h; simp [World.frozen?, h]
theorem Box.lt {w : World} {b : Nat} {v : Value} {t : TypeId} (h : Box w b v t) : b < w.heap.size := World.block_lt_of_cell? w _ h.cell
theorem Box.below {w w' : World} {b B : Nat} {v : Value} {t : TypeId} (h : Box w b v t) (hb : Below B w w') (hB : b < B) : Box w' b v t := (hb.block b hB).trans h
theorem Box.set {w : World} {b : Nat} {v : Value} {t : TypeId} (h : Box w b v t) (u : Value) : Box (w.setCell ⟨b, 0, none⟩ u) b u t := setCell_mark _ h
theorem Box.but {w w' : World} {b r : Nat} {v : Value} {t : TypeId} (h : Box w b v t) (hb : But r w w') (hn : b ≠ r) : Box w' b v t := (hb.block b h.lt hn).trans h
theorem Box.new (w : World) (v : Value) (t : TypeId) : Box (w.alloc (.cells #[v] t)) w.heap.size v t := by
  show (w.heap.push _)[w.heap.size]? = _
  simp
end Go.Proofs.YtkciflocpelhiaaGreatDoor

namespace Go.Proofs.YtkciflocpelhiaaGreatDoor
open Go.RowKit

theorem hid {p : Prop} (h : p) : Hid p := h
/-- What lies in blocks that Q lets is as it was. -/
structure Keeps (Q : Nat → Prop) (w w' : World) : Prop where
  size : w.heap.size ≤ w'.heap.size
  block : ∀ b, b < w.heap.size → Q b → w'.heap[b]? = w.heap[b]?
theorem Keeps.refl (Q : Nat → Prop) (w : World) : Keeps Q w w := ⟨Nat.le_refl _, fun _ _ _ => rfl⟩
theorem Keeps.of_below {Q : Nat → Prop} {w w' : World} (h : Below w.heap.size w w') : Keeps Q w w' := ⟨h.size, fun b hb _ => h.block b hb⟩
theorem Keeps.of_below' {Q : Nat → Prop} {w w' : World} {B : Nat} (h : Below B w w') (hq : ∀ b, Q b → b < B) : Keeps Q w w' := ⟨h.size, fun b _ hb => h.block b (hq b hb)⟩
theorem Keeps.of_but {Q : Nat → Prop} {w w' : World} {r : Nat} (h : But r w w') (hq : ∀ b, Q b → b ≠ r) : Keeps Q w w' := ⟨h.size, fun b hb hQ => h.block b hb (hq b hQ)⟩
theorem Keeps.of_grown {Q : Nat → Prop} {w w' : World} {r : Option Nat} (h : w.grownBy w' r) (hq : ∀ b, Q b → some b ≠ r) : Keeps Q w w' := ⟨h.size, fun b hb hQ => h.block b hb (hq b hQ)⟩
theorem Keeps.trans {Q : Nat → Prop} {x y z : World} (h : Keeps Q x y) (k : Keeps Q y z) : Keeps Q x z :=
  ⟨Nat.le_trans h.size k.size, fun b hb hQ => (k.block b (Nat.lt_of_lt_of_le hb h.size) hQ).trans (h.block b hb hQ)⟩
theorem Keeps.set {Q : Nat → Prop} (w : World) {p : Addr} (v : Value) (hq : ∀ b, Q b → b ≠ p.block) : Keeps Q w (w.setCell p v) :=
  ⟨by simp [World.setCell], fun b _ hQ => Below.heap_setCell _ _ _ _ (hq b hQ)⟩
theorem Keeps.more {Q : Nat → Prop} {w w' : World} (h : Keeps Q w w') (o : Obj) : Keeps Q w (w'.alloc o) :=
  ⟨by have := h.size; simp; omega, fun b hb hQ => ((show (w'.alloc o).heap[b]? = w'.heap[b]? by show (w'.heap.push o)[b]? = _; rw [Array.getElem?_push_lt (Nat.lt_of_lt_of_le hb h.size), Array.getElem?_eq_getElem (Nat.lt_of_lt_of_le hb h.size)])).trans (h.block b hb hQ)⟩

/-- A row of things of so many cells each, in blocks that Q lets. -/
def RowM {A : Type} (Q : Nat → Prop) (k : Nat) (P : A → List Value → Prop) (w : World) (v : Value) (l : List A) : Prop :=
  ∃ a c, v = .slice a l.length c ∧ l.length ≤ maxLen ∧ ∀ (i : Nat) (x : A), l[i]? = some x → ∃ b o cs, a = some ⟨b, o, none⟩ ∧ b < w.heap.size ∧ Q b ∧ cs.length = k ∧ (∀ (j : Nat) u, cs[j]? = some u → w.cell? ⟨b, o + i * k + j, none⟩ = some u) ∧ P x cs
def TxtM (x : List UInt8) (cs : List Value) : Prop := cs = [.string (S x)]
def TxtsM (Q : Nat → Prop) (w : World) (v : Value) (l : List (List UInt8)) : Prop := RowM Q 1 TxtM w v l
def TstM (Q : Nat → Prop) : Nat → World → Tst → List Value → Prop
  | 0, _, _, _ => False
  | n + 1, w, t, cs => ∃ vn vk vt, cs = [.int .i64 t.kind, .int .i64 t.mat, .int .i64 t.part, vn, vk, .bool t.over, .int .i64 t.limit, vt] ∧ TxtsM Q w vn t.names ∧ TxtsM Q w vk t.keys ∧ RowM Q 8 (TstM Q n w) w vt t.tests
def CmdM (Q : Nat → Prop) : Nat → World → Cmd → List Value → Prop
  | 0, _, _, _ => False
  | n + 1, w, c, cs => ∃ vx vn vk vt va ve, cs = [.int .i64 c.kind, vx, .int .i64 c.test.kind, .int .i64 c.test.mat, .int .i64 c.test.part, vn, vk, .bool c.test.over, .int .i64 c.test.limit, vt, va, ve] ∧ TxtsM Q w vx c.texts ∧
      TstM Q n w c.test [.int .i64 c.test.kind, .int .i64 c.test.mat, .int .i64 c.test.part, vn, vk, .bool c.test.over, .int .i64 c.test.limit, vt] ∧ RowM Q 12 (CmdM Q n w) w va c.thn ∧ RowM Q 12 (CmdM Q n w) w ve c.els
abbrev TstsM (Q : Nat → Prop) (n : Nat) (w : World) (v : Value) (l : List Tst) : Prop := RowM Q 8 (TstM Q n w) w v l
abbrev CmdsM (Q : Nat → Prop) (n : Nat) (w : World) (v : Value) (l : List Cmd) : Prop := RowM Q 12 (CmdM Q n w) w v l

theorem RowM.imp {A : Type} {Q Q' : Nat → Prop} {k : Nat} {P P' : A → List Value → Prop} {w w' : World} {v : Value} {l : List A} (h : RowM Q k P w v l) (hq : ∀ b, Q b → Q' b) (hk : Keeps Q w w') (hp : ∀ x cs, P x cs → P' x cs) : RowM Q' k P' w' v l := by
  obtain ⟨a, c, hv, hm, hx⟩ := h
  refine ⟨a, c, hv, hm, fun i x hi => ?_⟩
  obtain ⟨b, o, cs, ha, hb, hQ, hl, hc, hP⟩ := hx i x hi
  exact ⟨b, o, cs, ha, Nat.lt_of_lt_of_le hb hk.size, hq b hQ, hl, fun j u hj => (World.cell?_of_block (hk.block b hb hQ)).trans (hc j u hj), hp x cs hP⟩
theorem TxtsM.imp {Q Q' : Nat → Prop} {w w' : World} {v : Value} {l : List (List UInt8)} (h : TxtsM Q w v l) (hq : ∀ b, Q b → Q' b) (hk : Keeps Q w w') : TxtsM Q' w' v l := RowM.imp h hq hk fun _ _ h => h
theorem TstM.imp {Q Q' : Nat → Prop} {w w' : World} (hq : ∀ b, Q b → Q' b) (hk : Keeps Q w w') : ∀ (n : Nat) (t : Tst) (cs : List Value), TstM Q n w t cs → TstM Q' n w' t cs := by
  intro n
  induction n with
  | zero => intro t cs h; exact h
  | succ n ih =>
    intro t cs h
    obtain ⟨vn, vk, vt, h0, h1, h2, h3⟩ := h
    exact ⟨vn, vk, vt, h0, h1.imp hq hk, h2.imp hq hk, RowM.imp h3 hq hk ih⟩
theorem CmdM.imp {Q Q' : Nat → Prop} {w w' : World} (hq : ∀ b, Q b → Q' b) (hk : Keeps Q w w') : ∀ (n : Nat) (c : Cmd) (cs : List Value), CmdM Q n w c cs → CmdM Q' n w' c cs := by
  intro n
  induction n with
  | zero => intro t cs h; exact h
  | succ n ih =>
    intro t cs h
    obtain ⟨vx, vn, vk, vt, va, ve, h0, h1, h2, h3, h4⟩ := h
    exact ⟨vx, vn, vk, vt, va, ve, h0, h1.imp hq hk, TstM.imp hq hk _ _ _ h2, RowM.imp h3 hq hk ih, RowM.imp h4 hq hk ih⟩
theorem TstM.more {Q : Nat → Prop} {w : World} : ∀ (n m : Nat) (t : Tst) (cs : List Value), n ≤ m → TstM Q n w t cs → TstM Q m w t cs := by
  intro n
  induction n with
  | zero => intro m t cs _ h; exact h.elim
  | succ n ih =>
    intro m t cs hm h
    obtain ⟨vn, vk, vt, h0, h1, h2, h3⟩ := h
    cases m with
    | zero => omega
    | succ m => exact ⟨vn, vk, vt, h0, h1, h2, RowM.imp h3 (fun _ h => h) (Keeps.refl _ _) fun x cs h => ih m x cs (by omega) h⟩
theorem CmdM.more {Q : Nat → Prop} {w : World} : ∀ (n m : Nat) (t : Cmd) (cs : List Value), n ≤ m → CmdM Q n w t cs → CmdM Q m w t cs := by
  intro n
  induction n with
  | zero => intro m t cs _ h; exact h.elim
  | succ n ih =>
    intro m t cs hm h
    obtain ⟨vx, vn, vk, vt, va, ve, h0, h1, h2, h3, h4⟩ := h
    cases m with
    | zero => omega
    | succ m => exact ⟨vx, vn, vk, vt, va, ve, h0, h1, TstM.more _ _ _ _ (by omega) h2, RowM.imp h3 (fun _ h => h) (Keeps.refl _ _) (fun x cs h => ih m x cs (by omega) h), RowM.imp h4 (fun _ h => h) (Keeps.refl _ _) fun x cs h => ih m x cs (by omega) h⟩
abbrev anyB : Nat → Prop := fun _ => True
theorem TstM.next {Q : Nat → Prop} {n : Nat} {w w' : World} {t : Tst} {cs : List Value} (h : TstM Q n w t cs) (hb : Below w.heap.size w w') : TstM Q n w' t cs := TstM.imp (fun _ h => h) (Keeps.of_below hb) _ _ _ h
theorem CmdM.next {Q : Nat → Prop} {n : Nat} {w w' : World} {c : Cmd} {cs : List Value} (h : CmdM Q n w c cs) (hb : Below w.heap.size w w') : CmdM Q n w' c cs := CmdM.imp (fun _ h => h) (Keeps.of_below hb) _ _ _ h
theorem TstsM.next {Q : Nat → Prop} {n : Nat} {w w' : World} {v : Value} {l : List Tst} (h : TstsM Q n w v l) (hb : Below w.heap.size w w') : TstsM Q n w' v l := RowM.imp h (fun _ h => h) (Keeps.of_below hb) fun _ _ h => TstM.next h hb
theorem CmdsM.next {Q : Nat → Prop} {n : Nat} {w w' : World} {v : Value} {l : List Cmd} (h : CmdsM Q n w v l) (hb : Below w.heap.size w w') : CmdsM Q n w' v l := RowM.imp h (fun _ h => h) (Keeps.of_below hb) fun _ _ h => CmdM.next h hb
theorem TxtsM.next {Q : Nat → Prop} {w w' : World} {v : Value} {l : List (List UInt8)} (h : TxtsM Q w v l) (hb : Below w.heap.size w w') : TxtsM Q w' v l := h.imp (fun _ h => h) (Keeps.of_below hb)
theorem RowM.slice {A : Type} {Q : Nat → Prop} {k : Nat} {P : A → List Value → Prop} {w : World} {v : Value} {l : List A} (h : RowM Q k P w v l) : ∃ a c, v = .slice a l.length c := by
  obtain ⟨a, c, hv, _⟩ := h; exact ⟨a, c, hv⟩
theorem rowM_nil {A : Type} (Q : Nat → Prop) (k : Nat) (P : A → List Value → Prop) (w : World) (a : Option Addr) (c : Nat) : RowM Q k P w (.slice a 0 c) ([] : List A) := ⟨a, c, rfl, by simp, fun i x h => by simp at h⟩
theorem RowM.small {A : Type} {Q : Nat → Prop} {k : Nat} {P : A → List Value → Prop} {w : World} {v : Value} {l : List A} (h : RowM Q k P w v l) : l.length ≤ maxLen := by
  obtain ⟨_, _, _, hm, _⟩ := h; exact hm
end Go.Proofs.YtkciflocpelhiaaGreatDoor

namespace Go.Proofs.YtkciflocpelhiaaGreatDoor
open Go.RowKit

/- What is read is taken. -/
end Go.Proofs.YtkciflocpelhiaaGreatDoor
