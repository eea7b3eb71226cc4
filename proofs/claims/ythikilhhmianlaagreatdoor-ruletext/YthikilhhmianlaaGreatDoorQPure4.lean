/-
  Plain facts on bytes and lists: small letters in place of great ones; no program is named here.
  Plain facts on messages as lists of bytes: names, values, lines; what is shown, what is parsed. No program is named here.
  Plain facts on messages: what is parsed of a text, line by line; what is shown is parsed as it was. No program is named here.
  Plain facts on messages: what is parsed may be; a torn text; lines that are none. No program is named here.
  Plain facts on tokens: what a script is cut into, what tokens are joined to. No program is named here.
  Plain facts on scripts: what commands and tests are, which may be, how they are shown and read. No program is named here.
  Worlds of which all but one block of what was there is as it was. No program is named here.
  Tests and commands in memory: rows within rows. No function of the program is named here.
  Plain facts on scripts: how tokens are read. No program is named here.
  Scripts in memory that are not deep: with less fuel.
  Plain facts on tokens: what a script is cut into, what tokens are joined to. No program is named here.
  Plain facts on scripts: what commands and tests are, which may be, how they are shown and read. No program is named here.
  Worlds of which all but one block of what was there is as it was. No program is named here.
  Tests and commands in memory: rows within rows. No function of the program is named here.
  Plain facts on scripts: how tokens are read. No program is named here.
-/
import Derived.WalkKit
import Derived.Lib.SlTrimSet
import Derived.Lib.IndexMore
import Derived.Lib.IndexLaws
import Derived.Lib.ItoaNum
import Derived.Below
import Derived.Laws.AppendOwn
namespace Go.Proofs.YthikilhhmianlaaGreatDoor
open Go.RowKit
def low1 (c : UInt8) : UInt8 := if 65 ≤ (c.toNat : Int) ∧ (c.toNat : Int) ≤ 90 then UInt8.ofNat (c.toNat + 32) else c
def lowL (l : List UInt8) : List UInt8 := l.map low1
def low (s : ByteArray) : ByteArray := ⟨(lowL s.data.toList).toArray⟩
theorem size_list (s : ByteArray) : s.data.toList.length = s.size := by rw [Array.length_toList]; rfl
theorem jhM (s : ByteArray) (k : Nat) (h : k < s.size) : s.data.toList.take (k + 1) = s.data.toList.take k ++ [s[k]] := by
  rw [List.take_succ_eq_append_getElem (by simpa using h)]; rfl
theorem jfG (s : ByteArray) (k : Nat) (h : k < s.size) : s.data.toList[k]? = some s[k] := by
  rw [List.getElem?_eq_getElem (by simpa using h)]; rfl
theorem jj {k : IntKind} {a b : Int} (h : a = b) : Ending.returned (.int k a) = .returned (.int k b) := by rw [h]
theorem jn {a b : Bool} (h : a = b) : Ending.returned (.bool a) = .returned (.bool b) := by rw [h]
theorem jp {w : World} {g i : Nat} {cs : Array Value} {t : TypeId} {fr : Nat × Nat} (v : Value) (hg : w.heap[g]? = some (.cells cs t fr)) :
    (w.setCell ⟨g, i, none⟩ v).heap[g]? = some (.cells (cs.setIfInBounds i v) t fr) := by
  rw [setCell_eq_setRow w g i cs t fr v hg]; exact setRow_heap w g cs _ t _ hg
end Go.Proofs.YthikilhhmianlaaGreatDoor
namespace Go.Proofs.YthikilhhmianlaaGreatDoor
open Go.RowKit
def S (l : List UInt8) : ByteArray := ⟨l.toArray⟩
theorem jax (s : ByteArray) : S s.data.toList = s := by cases s; simp [S]
theorem jW (l : List UInt8) : (S l).data.toList = l := by simp [S]
theorem jB (l : List UInt8) : (S l).size = l.length := by simp [S, ByteArray.size]
def jjX (c : UInt8) : Bool := c == 32 || c == 9
abbrev F := List UInt8 × List UInt8
theorem jh9 {α : Type} {l : List α} {k : Nat} {x : α} (h : l[k]? = some x) : l.take (k + 1) = l.take k ++ [x] := by
  obtain ⟨hk, rfl⟩ := List.getElem?_eq_some_iff.1 h; exact List.take_succ_eq_append_getElem hk
theorem index_one (l : List UInt8) (c : UInt8) : Lib.index l [c] = Lib.indexByte l c := by
  induction l with
  | nil => rfl
  | cons b l ih =>
    unfold Lib.index Lib.indexByte; rw [ih]
    by_cases h : b = c
    · subst h; simp
    · have : (c == b) = false := by simp; exact fun e => h e.symm
      simp [List.isPrefixOf, h, this]
end Go.Proofs.YthikilhhmianlaaGreatDoor
namespace Go.Proofs.YthikilhhmianlaaGreatDoor
open Go.RowKit
end Go.Proofs.YthikilhhmianlaaGreatDoor
namespace Go.Proofs.YthikilhhmianlaaGreatDoor
open Go.RowKit
end Go.Proofs.YthikilhhmianlaaGreatDoor
namespace Go.Proofs.YthikilhhmianlaaGreatDoor
open Go.RowKit
structure Tok where
  kind : Int
  text : List UInt8
  num : Int
abbrev Cutting := Except Int (Tok × List UInt8)
end Go.Proofs.YthikilhhmianlaaGreatDoor
namespace Go.Proofs.YthikilhhmianlaaGreatDoor
open Go.RowKit
structure Tst where
  kind : Int
  mat : Int
  part : Int
  names : List (List UInt8)
  keys : List (List UInt8)
  over : Bool
  limit : Int
  tests : List Tst
structure Cmd where
  kind : Int
  texts : List (List UInt8)
  test : Tst
  thn : List Cmd
  els : List Cmd
def jG : Tst := ⟨0, 0, 0, [], [], false, 0, []⟩
def wTabs : List (List (List UInt8)) := [
  [[], [114, 101, 113, 117, 105, 114, 101], [105, 102], [107, 101, 101, 112], [100, 105, 115, 99, 97, 114, 100], [102, 105, 108, 101, 105, 110, 116, 111], [114, 101, 100, 105, 114, 101, 99, 116], [114, 101, 106, 101, 99, 116], [115, 101, 116, 102, 108, 97, 103], [97, 100, 100, 102, 108, 97, 103], [115, 116, 111, 112]],
  [[], [116, 114, 117, 101], [102, 97, 108, 115, 101], [110, 111, 116], [97, 108, 108, 111, 102], [97, 110, 121, 111, 102], [104, 101, 97, 100, 101, 114], [97, 100, 100, 114, 101, 115, 115], [101, 110, 118, 101, 108, 111, 112, 101], [101, 120, 105, 115, 116, 115], [115, 105, 122, 101]],
  [[], [105, 115], [99, 111, 110, 116, 97, 105, 110, 115], [109, 97, 116, 99, 104, 101, 115], [], [], [], [], [], [], []],
  [[], [97, 108, 108], [108, 111, 99, 97, 108, 112, 97, 114, 116], [100, 111, 109, 97, 105, 110], [], [], [], [], [], [], []]]
def ju (k n : Nat) : List UInt8 := (wTabs.getD k []).getD n []
def jbb : List (List UInt8) → Nat → List UInt8 → Nat
  | [], _, _ => 0
  | x :: r, n, s => if x = s then n else jbb r (n + 1) s
def jP (k : Nat) (n : Int) : Bool := decide (0 ≤ n) && decide (n < 11) && !(ju k n.toNat).isEmpty
theorem jdR (n : Int) : jP 0 n = (decide (1 ≤ n) && decide (n ≤ 10)) := by
  unfold jP
  by_cases h0 : 0 ≤ n
  · by_cases h1 : n < 11
    · obtain ⟨k, rfl⟩ := Int.eq_ofNat_of_zero_le h0; have hk : k < 11 := by omega
      match k, hk with
      | 0, _ | 1, _ | 2, _ | 3, _ | 4, _ | 5, _ | 6, _ | 7, _ | 8, _ | 9, _ | 10, _ => rfl
    · simp [h1]; omega
  · simp [h0]; omega
theorem jb1 (n : Int) : jP 1 n = (decide (1 ≤ n) && decide (n ≤ 10)) := by
  unfold jP
  by_cases h0 : 0 ≤ n
  · by_cases h1 : n < 11
    · obtain ⟨k, rfl⟩ := Int.eq_ofNat_of_zero_le h0; have hk : k < 11 := by omega
      match k, hk with
      | 0, _ | 1, _ | 2, _ | 3, _ | 4, _ | 5, _ | 6, _ | 7, _ | 8, _ | 9, _ | 10, _ => rfl
    · simp [h1]; omega
  · simp [h0]; omega
theorem qu (n : Int) : jP 2 n = (decide (1 ≤ n) && decide (n ≤ 3)) := by
  unfold jP
  by_cases h0 : 0 ≤ n
  · by_cases h1 : n < 11
    · obtain ⟨k, rfl⟩ := Int.eq_ofNat_of_zero_le h0; have hk : k < 11 := by omega
      match k, hk with
      | 0, _ | 1, _ | 2, _ | 3, _ | 4, _ | 5, _ | 6, _ | 7, _ | 8, _ | 9, _ | 10, _ => rfl
    · simp [h1]; omega
  · simp [h0]; omega
theorem qY (n : Int) : jP 3 n = (decide (1 ≤ n) && decide (n ≤ 3)) := by
  unfold jP
  by_cases h0 : 0 ≤ n
  · by_cases h1 : n < 11
    · obtain ⟨k, rfl⟩ := Int.eq_ofNat_of_zero_le h0; have hk : k < 11 := by omega
      match k, hk with
      | 0, _ | 1, _ | 2, _ | 3, _ | 4, _ | 5, _ | 6, _ | 7, _ | 8, _ | 9, _ | 10, _ => rfl
    · simp [h1]; omega
  · simp [h0]; omega
def qz (t : Tst) : Bool := decide (t.kind = 0) && decide (t.mat = 0) && decide (t.part = 0) && decide (t.names.length = 0) && decide (t.keys.length = 0) && !t.over && decide (t.limit = 0) && decide (t.tests.length = 0)
def cmpB (t : Tst) : Bool := jP 2 t.mat && decide (0 < t.names.length) && decide (0 < t.keys.length)
def qw (t : Tst) : Bool :=
  if t.kind = 3 then decide (t.tests.length = 1) && qz { t with kind := 0, tests := [] }
  else if t.kind = 4 ∨ t.kind = 5 then decide (0 < t.tests.length) && qz { t with kind := 0, tests := [] }
  else if t.kind = 6 then cmpB t && qz { t with kind := 0, mat := 0, names := [], keys := [] }
  else if t.kind = 7 ∨ t.kind = 8 then cmpB t && jP 3 t.part && qz { t with kind := 0, mat := 0, part := 0, names := [], keys := [] }
  else if t.kind = 9 then decide (0 < t.names.length) && qz { t with kind := 0, names := [] }
  else if t.kind = 10 then decide (0 ≤ t.limit ∧ t.limit ≤ 2147483647) && qz { t with kind := 0, over := false, limit := 0 }
  else qz { t with kind := 0 }
def oneP (k : Bool) (d : Nat) (f : Bool) : Int := if k = false then 2 else if 6 < d then 1 else if f = false then 3 else 0
def jw {A : Type} (f : A → Int) : List A → Int
  | [] => 0
  | x :: r => if f x = 0 then jw f r else f x
def jt : Nat → Nat → Tst → Int
  | 0, _, _ => 0
  | n + 1, d, t => if oneP (jP 1 t.kind) d (qw t) = 0 then jw (jt n (d + 1)) t.tests else oneP (jP 1 t.kind) d (qw t)
def qa (c : Cmd) : Bool :=
  if c.kind ≠ 2 ∧ (0 < c.thn.length ∨ 0 < c.els.length ∨ qz c.test = false) then false
  else if c.kind = 1 ∨ c.kind = 8 ∨ c.kind = 9 then decide (0 < c.texts.length)
  else if c.kind = 5 ∨ c.kind = 6 ∨ c.kind = 7 then decide (c.texts.length = 1)
  else decide (c.texts.length = 0)
def zj : List Cmd → Option Cmd
  | [c] => if c.kind = 2 then some c else none
  | _ => none
def jm : Nat → Nat → Cmd → Int
  | 0, _, _ => 0
  | n + 1, d, c =>
    if oneP (jP 0 c.kind) d (qa c) ≠ 0 then oneP (jP 0 c.kind) d (qa c)
    else if c.kind ≠ 2 then 0
    else if jt n 1 c.test ≠ 0 then jt n 1 c.test
    else if jw (jm n (d + 1)) c.thn ≠ 0 then jw (jm n (d + 1)) c.thn
    else match zj c.els with
      | some x => jm n d x
      | none => jw (jm n (d + 1)) c.els
theorem zL (n d : Nat) (c : Cmd) : jm (n + 1) d c =
    if oneP (jP 0 c.kind) d (qa c) ≠ 0 then oneP (jP 0 c.kind) d (qa c)
    else if c.kind ≠ 2 then 0
    else if jt n 1 c.test ≠ 0 then jt n 1 c.test
    else if jw (jm n (d + 1)) c.thn ≠ 0 then jw (jm n (d + 1)) c.thn
    else match zj c.els with
      | some x => jm n d x
      | none => jw (jm n (d + 1)) c.els := rfl
theorem zI {l : List Cmd} {x : Cmd} (h : zj l = some x) : l = [x] ∧ x.kind = 2 := by
  match l with
  | [] => cases h
  | [c] =>
    by_cases hk : c.kind = 2
    · simp only [zj, if_pos hk, Option.some.injEq] at h; subst h; exact ⟨rfl, hk⟩
    · simp only [zj, if_neg hk] at h; cases h
  | a :: b :: r => cases h
def jU (n d : Nat) (l : List Cmd) : Int := jw (jm n d) l
def zz (s : List UInt8) : Tok := ⟨1, s, 0⟩
def tagT (s : List UInt8) : Tok := ⟨2, s, 0⟩
def strT (s : List UInt8) : Tok := ⟨4, s, 0⟩
def jx (c : UInt8) : Tok := ⟨5, [c], 0⟩
def sepT {A : Type} (f : A → List Tok) : List A → List Tok
  | [] => []
  | x :: r => f x ++ r.flatMap fun y => jx 44 :: f y
def vg : List (List UInt8) → List Tok
  | [x] => [strT x]
  | l => jx 91 :: (sepT (fun x => [strT x]) l ++ [jx 93])
def ql : List UInt8 := [101, 108, 115, 105, 102]
def jaa : List UInt8 := [101, 108, 115, 101]
def jdq : List UInt8 := [111, 118, 101, 114]
def jaU : List UInt8 := [117, 110, 100, 101, 114]
def jZ : Nat → Tst → List Tok
  | 0, _ => []
  | n + 1, t =>
    zz (ju 1 t.kind.toNat) ::
      (if t.kind = 3 then (t.tests.head?.map (jZ n)).getD []
       else if t.kind = 4 ∨ t.kind = 5 then jx 40 :: (sepT (jZ n) t.tests ++ [jx 41])
       else if t.kind = 6 then tagT (ju 2 t.mat.toNat) :: (vg t.names ++ vg t.keys)
       else if t.kind = 7 ∨ t.kind = 8 then tagT (ju 3 t.part.toNat) :: tagT (ju 2 t.mat.toNat) :: (vg t.names ++ vg t.keys)
       else if t.kind = 9 then vg t.names
       else if t.kind = 10 then [tagT (if t.over then jdq else jaU), ⟨3, [], t.limit⟩]
       else [])
def zC : Nat → Cmd → List Tok
  | 0, _ => []
  | n + 1, c =>
    if c.kind = 2 then
      jZ n c.test ++ (jx 123 :: (c.thn.flatMap fun x => zz (ju 0 x.kind.toNat) :: zC n x) ++ [jx 125]) ++
        (match zj c.els with
         | some x => zz ql :: zC n x
         | none => if c.els.length = 0 then [] else zz jaa :: jx 123 :: (c.els.flatMap fun x => zz (ju 0 x.kind.toNat) :: zC n x) ++ [jx 125])
    else (if c.texts.length = 0 then [] else vg c.texts) ++ [jx 59]
def cmdT (n : Nat) (c : Cmd) : List Tok := zz (ju 0 c.kind.toNat) :: zC n c
def ze (n : Nat) (l : List Cmd) : List Tok := l.flatMap (cmdT n)
def zb (n : Nat) (l : List Cmd) : Int := if jU n 0 l ≠ 0 then jU n 0 l else if 400 < (ze n l).length then 5 else 0
end Go.Proofs.YthikilhhmianlaaGreatDoor
namespace Go.Proofs.YthikilhhmianlaaGreatDoor
open Go.RowKit
structure But (b : Nat) (w w' : World) : Prop where
  os : w'.os = w.os
  tape : w'.tape = w.tape
  output : w'.output = w.output
  size : w.heap.size ≤ w'.heap.size
  block : ∀ k, k < w.heap.size → k ≠ b → w'.heap[k]? = w.heap[k]?
theorem But.refl (b : Nat) (w : World) : But b w w := ⟨rfl, rfl, rfl, Nat.le_refl _, fun _ _ _ => rfl⟩
theorem But.trans {b : Nat} {x y z : World} (h : But b x y) (k : But b y z) : But b x z :=
  ⟨k.os.trans h.os, k.tape.trans h.tape, k.output.trans h.output, Nat.le_trans h.size k.size, fun i hi hn => (k.block i (Nat.lt_of_lt_of_le hi h.size) hn).trans (h.block i hi hn)⟩
theorem But.of {b : Nat} {w w' : World} (h : Below w.heap.size w w') : But b w w' := ⟨h.os, h.tape, h.output, h.size, fun k hk _ => h.block k hk⟩
theorem But.set {b : Nat} (w : World) (v : Value) : But b w (w.setCell ⟨b, 0, none⟩ v) :=
  ⟨rfl, rfl, rfl, by simp [World.setCell], fun k _ hn => Below.heap_setCell _ _ _ _ hn⟩
theorem But.below {b B : Nat} {w w' : World} (h : But b w w') (hB : B ≤ b) (hw : B ≤ w.heap.size) : Below B w w' :=
  ⟨h.os, h.tape, h.output, h.size, fun k hk => h.block k (by omega) (by omega)⟩
theorem But.cell {b : Nat} {w w' : World} (h : But b w w') {p : Addr} {v : Value} (hp : w.cell? p = some v) (hn : p.block ≠ b) : w'.cell? p = some v :=
  (World.cell?_of_block (w := w) (h.block p.block (World.block_lt_of_cell? w _ hp) hn)).trans hp
theorem But.frozen {b : Nat} {w w' : World} (h : But b w w') {p : Addr} (hl : p.block < w.heap.size) (hp : w.frozen? p = false) (hn : p.block ≠ b) : w'.frozen? p = false :=
  (World.frozen?_of_block (w := w) (h.block p.block hl hn)).trans hp
theorem qV {w w' : World} {r base : Nat} {e : TypeId} {size : Nat} {v : Value} {n : Nat} {xs : List Value} (h : w.ownsRow base e size v n xs) (hb : But r w w') (hr : r < base) : w'.ownsRow base e size v n xs := by
  refine ⟨h.1, ?_⟩
  rcases h.2 with h' | ⟨g, cap, cur, h1, h2, hg, q⟩
  · exact .inl h'
  · refine .inr ⟨g, cap, cur, h1, h2, ?_, q⟩; rw [hb.block g (by
      rcases Nat.lt_or_ge g w.heap.size with h' | h'
      · exact h'
      · rw [Array.getElem?_eq_none h'] at hg; cases hg) (by omega)]
    exact hg
def Box (w : World) (b : Nat) (v : Value) (t : TypeId) : Prop := w.heap[b]? = some (.cells #[v] t)
theorem Box.cell {w : World} {b : Nat} {v : Value} {t : TypeId} (h : Box w b v t) : w.cell? ⟨b, 0, none⟩ = some v := by
  unfold Box at h; simp [World.cell?, h]
theorem Box.free {w : World} {b : Nat} {v : Value} {t : TypeId} (h : Box w b v t) : w.frozen? ⟨b, 0, none⟩ = false := by
  unfold Box at h; simp [World.frozen?, h]
theorem Box.lt {w : World} {b : Nat} {v : Value} {t : TypeId} (h : Box w b v t) : b < w.heap.size := World.block_lt_of_cell? w _ h.cell
theorem Box.below {w w' : World} {b B : Nat} {v : Value} {t : TypeId} (h : Box w b v t) (hb : Below B w w') (hB : b < B) : Box w' b v t := (hb.block b hB).trans h
theorem Box.set {w : World} {b : Nat} {v : Value} {t : TypeId} (h : Box w b v t) (u : Value) : Box (w.setCell ⟨b, 0, none⟩ u) b u t := jp _ h
theorem Box.but {w w' : World} {b r : Nat} {v : Value} {t : TypeId} (h : Box w b v t) (hb : But r w w') (hn : b ≠ r) : Box w' b v t := (hb.block b h.lt hn).trans h
theorem Box.new (w : World) (v : Value) (t : TypeId) : Box (w.alloc (.cells #[v] t)) w.heap.size v t := by
  show (w.heap.push _)[w.heap.size]? = _
  simp
end Go.Proofs.YthikilhhmianlaaGreatDoor
namespace Go.Proofs.YthikilhhmianlaaGreatDoor
open Go.RowKit
theorem hid {p : Prop} (h : p) : Hid p := h
structure Keeps (Q : Nat → Prop) (w w' : World) : Prop where
  size : w.heap.size ≤ w'.heap.size
  block : ∀ b, b < w.heap.size → Q b → w'.heap[b]? = w.heap[b]?
theorem Keeps.refl (Q : Nat → Prop) (w : World) : Keeps Q w w := ⟨Nat.le_refl _, fun _ _ _ => rfl⟩
theorem Keeps.of_below {Q : Nat → Prop} {w w' : World} (h : Below w.heap.size w w') : Keeps Q w w' := ⟨h.size, fun b hb _ => h.block b hb⟩
theorem Keeps.of_below' {Q : Nat → Prop} {w w' : World} {B : Nat} (h : Below B w w') (hq : ∀ b, Q b → b < B) : Keeps Q w w' := ⟨h.size, fun b _ hb => h.block b (hq b hb)⟩
theorem Keeps.of_but {Q : Nat → Prop} {w w' : World} {r : Nat} (h : But r w w') (hq : ∀ b, Q b → b ≠ r) : Keeps Q w w' := ⟨h.size, fun b hb hQ => h.block b hb (hq b hQ)⟩
theorem Keeps.trans {Q : Nat → Prop} {x y z : World} (h : Keeps Q x y) (k : Keeps Q y z) : Keeps Q x z :=
  ⟨Nat.le_trans h.size k.size, fun b hb hQ => (k.block b (Nat.lt_of_lt_of_le hb h.size) hQ).trans (h.block b hb hQ)⟩
theorem Keeps.set {Q : Nat → Prop} (w : World) {p : Addr} (v : Value) (hq : ∀ b, Q b → b ≠ p.block) : Keeps Q w (w.setCell p v) :=
  ⟨by simp [World.setCell], fun b _ hQ => Below.heap_setCell _ _ _ _ (hq b hQ)⟩
theorem Keeps.more {Q : Nat → Prop} {w w' : World} (h : Keeps Q w w') (o : Obj) : Keeps Q w (w'.alloc o) :=
  ⟨by have := h.size; simp; omega, fun b hb hQ => ((show (w'.alloc o).heap[b]? = w'.heap[b]? by show (w'.heap.push o)[b]? = _; rw [Array.getElem?_push_lt (Nat.lt_of_lt_of_le hb h.size), Array.getElem?_eq_getElem (Nat.lt_of_lt_of_le hb h.size)])).trans (h.block b hb hQ)⟩
def RowM {A : Type} (Q : Nat → Prop) (k : Nat) (P : A → List Value → Prop) (w : World) (v : Value) (l : List A) : Prop :=
  ∃ a c, v = .slice a l.length c ∧ l.length ≤ maxLen ∧ ∀ (i : Nat) (x : A), l[i]? = some x → ∃ b o cs, a = some ⟨b, o, none⟩ ∧ b < w.heap.size ∧ Q b ∧ cs.length = k ∧ (∀ (j : Nat) u, cs[j]? = some u → w.cell? ⟨b, o + i * k + j, none⟩ = some u) ∧ P x cs
def TxtM (x : List UInt8) (cs : List Value) : Prop := cs = [.string (S x)]
def TxtsM (Q : Nat → Prop) (w : World) (v : Value) (l : List (List UInt8)) : Prop := RowM Q 1 TxtM w v l
def TstM (Q : Nat → Prop) : Nat → World → Tst → List Value → Prop
  | 0, _, _, _ => False
  | n + 1, w, t, cs => ∃ vn vk vt, cs = [.int .i64 t.kind, .int .i64 t.mat, .int .i64 t.part, vn, vk, .bool t.over, .int .i64 t.limit, vt] ∧ TxtsM Q w vn t.names ∧ TxtsM Q w vk t.keys ∧ RowM Q 8 (TstM Q n w) w vt t.tests
def CmdM (Q : Nat → Prop) : Nat → World → Cmd → List Value → Prop
  | 0, _, _, _ => False
  | n + 1, w, c, cs => ∃ vx vn vk vt va ve, cs = [.int .i64 c.kind, vx, .int .i64 c.test.kind, .int .i64 c.test.mat, .int .i64 c.test.part, vn, vk, .bool c.test.over, .int .i64 c.test.limit, vt, va, ve] ∧ TxtsM Q w vx c.texts ∧
      TstM Q n w c.test [.int .i64 c.test.kind, .int .i64 c.test.mat, .int .i64 c.test.part, vn, vk, .bool c.test.over, .int .i64 c.test.limit, vt] ∧ RowM Q 12 (CmdM Q n w) w va c.thn ∧ RowM Q 12 (CmdM Q n w) w ve c.els
abbrev TstsM (Q : Nat → Prop) (n : Nat) (w : World) (v : Value) (l : List Tst) : Prop := RowM Q 8 (TstM Q n w) w v l
abbrev CmdsM (Q : Nat → Prop) (n : Nat) (w : World) (v : Value) (l : List Cmd) : Prop := RowM Q 12 (CmdM Q n w) w v l
theorem RowM.imp {A : Type} {Q Q' : Nat → Prop} {k : Nat} {P P' : A → List Value → Prop} {w w' : World} {v : Value} {l : List A} (h : RowM Q k P w v l) (hq : ∀ b, Q b → Q' b) (hk : Keeps Q w w') (hp : ∀ x cs, P x cs → P' x cs) : RowM Q' k P' w' v l := by
  obtain ⟨a, c, hv, hm, hx⟩ := h; refine ⟨a, c, hv, hm, fun i x hi => ?_⟩; obtain ⟨b, o, cs, ha, hb, hQ, hl, hc, hP⟩ := hx i x hi; exact ⟨b, o, cs, ha, Nat.lt_of_lt_of_le hb hk.size, hq b hQ, hl, fun j u hj => (World.cell?_of_block (hk.block b hb hQ)).trans (hc j u hj), hp x cs hP⟩
theorem TxtsM.imp {Q Q' : Nat → Prop} {w w' : World} {v : Value} {l : List (List UInt8)} (h : TxtsM Q w v l) (hq : ∀ b, Q b → Q' b) (hk : Keeps Q w w') : TxtsM Q' w' v l := RowM.imp h hq hk fun _ _ h => h
theorem TstM.imp {Q Q' : Nat → Prop} {w w' : World} (hq : ∀ b, Q b → Q' b) (hk : Keeps Q w w') : ∀ (n : Nat) (t : Tst) (cs : List Value), TstM Q n w t cs → TstM Q' n w' t cs := by
  intro n
  induction n with
  | zero => intro t cs h; exact h
  | succ n ih =>
    intro t cs h; obtain ⟨vn, vk, vt, h0, h1, h2, h3⟩ := h; exact ⟨vn, vk, vt, h0, h1.imp hq hk, h2.imp hq hk, RowM.imp h3 hq hk ih⟩
theorem CmdM.imp {Q Q' : Nat → Prop} {w w' : World} (hq : ∀ b, Q b → Q' b) (hk : Keeps Q w w') : ∀ (n : Nat) (c : Cmd) (cs : List Value), CmdM Q n w c cs → CmdM Q' n w' c cs := by
  intro n
  induction n with
  | zero => intro t cs h; exact h
  | succ n ih =>
    intro t cs h; obtain ⟨vx, vn, vk, vt, va, ve, h0, h1, h2, h3, h4⟩ := h; exact ⟨vx, vn, vk, vt, va, ve, h0, h1.imp hq hk, TstM.imp hq hk _ _ _ h2, RowM.imp h3 hq hk ih, RowM.imp h4 hq hk ih⟩
theorem TstM.more {Q : Nat → Prop} {w : World} : ∀ (n m : Nat) (t : Tst) (cs : List Value), n ≤ m → TstM Q n w t cs → TstM Q m w t cs := by
  intro n
  induction n with
  | zero => intro m t cs _ h; exact h.elim
  | succ n ih =>
    intro m t cs hm h; obtain ⟨vn, vk, vt, h0, h1, h2, h3⟩ := h; cases m with
    | zero => omega
    | succ m => exact ⟨vn, vk, vt, h0, h1, h2, RowM.imp h3 (fun _ h => h) (Keeps.refl _ _) fun x cs h => ih m x cs (by omega) h⟩
theorem CmdM.more {Q : Nat → Prop} {w : World} : ∀ (n m : Nat) (t : Cmd) (cs : List Value), n ≤ m → CmdM Q n w t cs → CmdM Q m w t cs := by
  intro n
  induction n with
  | zero => intro m t cs _ h; exact h.elim
  | succ n ih =>
    intro m t cs hm h; obtain ⟨vx, vn, vk, vt, va, ve, h0, h1, h2, h3, h4⟩ := h; cases m with
    | zero => omega
    | succ m => exact ⟨vx, vn, vk, vt, va, ve, h0, h1, TstM.more _ _ _ _ (by omega) h2, RowM.imp h3 (fun _ h => h) (Keeps.refl _ _) (fun x cs h => ih m x cs (by omega) h), RowM.imp h4 (fun _ h => h) (Keeps.refl _ _) fun x cs h => ih m x cs (by omega) h⟩
abbrev anyB : Nat → Prop := fun _ => True
theorem TstM.next {Q : Nat → Prop} {n : Nat} {w w' : World} {t : Tst} {cs : List Value} (h : TstM Q n w t cs) (hb : Below w.heap.size w w') : TstM Q n w' t cs := TstM.imp (fun _ h => h) (Keeps.of_below hb) _ _ _ h
theorem CmdM.next {Q : Nat → Prop} {n : Nat} {w w' : World} {c : Cmd} {cs : List Value} (h : CmdM Q n w c cs) (hb : Below w.heap.size w w') : CmdM Q n w' c cs := CmdM.imp (fun _ h => h) (Keeps.of_below hb) _ _ _ h
theorem TstsM.next {Q : Nat → Prop} {n : Nat} {w w' : World} {v : Value} {l : List Tst} (h : TstsM Q n w v l) (hb : Below w.heap.size w w') : TstsM Q n w' v l := RowM.imp h (fun _ h => h) (Keeps.of_below hb) fun _ _ h => TstM.next h hb
theorem CmdsM.next {Q : Nat → Prop} {n : Nat} {w w' : World} {v : Value} {l : List Cmd} (h : CmdsM Q n w v l) (hb : Below w.heap.size w w') : CmdsM Q n w' v l := RowM.imp h (fun _ h => h) (Keeps.of_below hb) fun _ _ h => CmdM.next h hb
theorem TxtsM.next {Q : Nat → Prop} {w w' : World} {v : Value} {l : List (List UInt8)} (h : TxtsM Q w v l) (hb : Below w.heap.size w w') : TxtsM Q w' v l := h.imp (fun _ h => h) (Keeps.of_below hb)
theorem RowM.slice {A : Type} {Q : Nat → Prop} {k : Nat} {P : A → List Value → Prop} {w : World} {v : Value} {l : List A} (h : RowM Q k P w v l) : ∃ a c, v = .slice a l.length c := by
  obtain ⟨a, c, hv, _⟩ := h; exact ⟨a, c, hv⟩
theorem jg {A : Type} (Q : Nat → Prop) (k : Nat) (P : A → List Value → Prop) (w : World) (a : Option Addr) (c : Nat) : RowM Q k P w (.slice a 0 c) ([] : List A) := ⟨a, c, rfl, by simp, fun i x h => by simp at h⟩
theorem RowM.small {A : Type} {Q : Nat → Prop} {k : Nat} {P : A → List Value → Prop} {w : World} {v : Value} {l : List A} (h : RowM Q k P w v l) : l.length ≤ maxLen := by
  obtain ⟨_, _, _, hm, _⟩ := h; exact hm
end Go.Proofs.YthikilhhmianlaaGreatDoor
namespace Go.Proofs.YthikilhhmianlaaGreatDoor
open Go.RowKit
end Go.Proofs.YthikilhhmianlaaGreatDoor
namespace Go.Proofs.YthikilhhmianlaaGreatDoor
open Go.RowKit Go.Proofs
def DeepT : Nat → Tst → Prop
  | 0, _ => False
  | n + 1, t => ∀ x ∈ t.tests, DeepT n x
def DeepC : Nat → Cmd → Prop
  | 0, _ => False
  | n + 1, c => DeepT n c.test ∧ (∀ x ∈ c.thn, DeepC n x) ∧ ∀ x ∈ c.els, DeepC n x
theorem RowM.impM {A : Type} {Q : Nat → Prop} {k : Nat} {P P' : A → List Value → Prop} {w : World} {v : Value} {l : List A} (h : RowM Q k P w v l) (hp : ∀ x ∈ l, ∀ cs, P x cs → P' x cs) : RowM Q k P' w v l := by
  obtain ⟨a, c, hv, hm, hx⟩ := h; refine ⟨a, c, hv, hm, fun i x hi => ?_⟩; obtain ⟨b, o, cs, ha, hb, hQ, hl, hc, hP⟩ := hx i x hi; exact ⟨b, o, cs, ha, hb, hQ, hl, hc, hp x (List.mem_of_getElem? hi) cs hP⟩
theorem TstM.less {Q : Nat → Prop} {w : World} : ∀ (n m : Nat) (t : Tst) (cs : List Value), DeepT n t → TstM Q m w t cs → TstM Q n w t cs := by
  intro n
  induction n with
  | zero => intro m t cs h; exact h.elim
  | succ n ih =>
    intro m t cs hd h; cases m with
    | zero => exact h.elim
    | succ m =>
      obtain ⟨vn, vk, vt, h0, h1, h2, h3⟩ := h; exact ⟨vn, vk, vt, h0, h1, h2, RowM.impM h3 fun x hx cs hc => ih m x cs (hd x hx) hc⟩
theorem CmdM.less {Q : Nat → Prop} {w : World} : ∀ (n m : Nat) (t : Cmd) (cs : List Value), DeepC n t → CmdM Q m w t cs → CmdM Q n w t cs := by
  intro n
  induction n with
  | zero => intro m t cs h; exact h.elim
  | succ n ih =>
    intro m t cs hd h; cases m with
    | zero => exact h.elim
    | succ m =>
      obtain ⟨vx, vn, vk, vt, va, ve, h0, h1, h2, h3, h4⟩ := h; exact ⟨vx, vn, vk, vt, va, ve, h0, h1, TstM.less n m _ _ hd.1 h2, RowM.impM h3 fun x hx cs hc => ih m x cs (hd.2.1 x hx) hc, RowM.impM h4 fun x hx cs hc => ih m x cs (hd.2.2 x hx) hc⟩
theorem CmdsM.less {Q : Nat → Prop} {n m : Nat} {w : World} {v : Value} {l : List Cmd} (hd : ∀ x ∈ l, DeepC n x) (h : CmdsM Q m w v l) : CmdsM Q n w v l := RowM.impM h fun x hx cs hc => CmdM.less n m x cs (hd x hx) hc
end Go.Proofs.YthikilhhmianlaaGreatDoor
namespace Go.Proofs.YthikilhhmianlaaGreatDoor
open Go.RowKit
def jF (c : UInt8) : Bool := (decide (97 ≤ c.toNat) && decide (c.toNat ≤ 122)) || (decide (65 ≤ c.toNat) && decide (c.toNat ≤ 90)) || c == 95
def jr (c : UInt8) : Bool := decide (48 ≤ c.toNat) && decide (c.toNat ≤ 57)
def jH (c : UInt8) : Bool := jF c || jr c
def markL : List UInt8 := [123, 125, 40, 41, 91, 93, 59, 44]
def vy (c : UInt8) : Bool := markL.contains c
def zl (c : UInt8) : Bool := c == 32 || c == 9 || c == 13 || c == 10
def qd : List UInt8 → Option (List UInt8)
  | [] => none
  | [_] => none
  | a :: b :: t => if a = 42 ∧ b = 47 then some t else qd (b :: t)
theorem jac {s r : List UInt8} (h : qd s = some r) : r.length < s.length := by
  induction s with
  | nil => cases h
  | cons a t ih =>
    cases t with
    | nil => cases h
    | cons b t =>
      unfold qd at h; split at h
      · cases h; simp; omega
      · have := ih h; simp at this ⊢; omega
def vA (s : List UInt8) : List UInt8 := s.dropWhile (· != 10)
theorem vE (s : List UInt8) : (vA s).length ≤ s.length := (List.dropWhile_suffix _).length_le
def jaR (t : List UInt8) : Option (List UInt8) := match t with | [] => none | c :: u => if c = 42 then some u else none
theorem jam {t u : List UInt8} (h : jaR t = some u) : t = 42 :: u := by
  cases t with
  | nil => cases h
  | cons c v =>
    by_cases e : c = 42
    · simp only [jaR, if_pos e, Option.some.injEq] at h; rw [e, h]
    · simp only [jaR, if_neg e] at h; cases h
def silF : Nat → List UInt8 → Bool × List UInt8
  | 0, s => (true, s)
  | _ + 1, [] => (true, [])
  | n + 1, c :: t =>
    if zl c then silF n t
    else if c = 35 then silF n (vA t)
    else if c = 47 then
      match jaR t with
      | none => (true, c :: t)
      | some u => (match qd u with | none => (false, c :: t) | some r => silF n r)
    else (true, c :: t)
theorem jd7 : ∀ (n m : Nat) (s : List UInt8), s.length ≤ n → s.length ≤ m → silF n s = silF m s := by
  intro n
  induction n with
  | zero =>
    intro m s h1 _; have e : s = [] := List.length_eq_zero_iff.1 (by omega); subst e; cases m <;> rfl
  | succ n ih =>
    intro m s h1 h2; cases s with
    | nil => cases m <;> rfl
    | cons c t =>
      cases m with
      | zero => simp at h2
      | succ m =>
        simp only [List.length_cons] at h1 h2; have hl := vE t; simp only [silF]; rw [ih m t (by omega) (by omega), ih m (vA t) (by omega) (by omega)]; cases hs : jaR t with
        | none => rfl
        | some u =>
          have hu := congrArg List.length (jam hs); simp only [List.length_cons] at hu; simp only; cases hc : qd u with
          | none => rfl
          | some r =>
            have hr := jac hc; simp only; rw [ih m r (by omega) (by omega)]
def silM (s : List UInt8) : Bool × List UInt8 := silF s.length s
theorem vf (c : UInt8) (t : List UInt8) : silM (c :: t) =
    if zl c then silM t
    else if c = 35 then silM (vA t)
    else if c = 47 then
      match jaR t with
      | none => (true, c :: t)
      | some u => (match qd u with | none => (false, c :: t) | some r => silM r)
    else (true, c :: t) := by
  have hl := vE t
  show silF (t.length + 1) (c :: t) = _
  simp only [silF]; rw [jd7 t.length (vA t).length (vA t) (by omega) (Nat.le_refl _)]; cases hs : jaR t with
  | none => rfl
  | some u =>
    have hu := congrArg List.length (jam hs); simp only [List.length_cons] at hu; simp only; cases hc : qd u with
    | none => rfl
    | some r =>
      have hr := jac hc; simp only; rw [jd7 t.length r.length r (by omega) (Nat.le_refl _)]; rfl
theorem jan : silM [] = (true, []) := rfl
theorem jaf {c : UInt8} (t : List UInt8) (h : zl c = true) : silM (c :: t) = silM t := by rw [vf, if_pos h]
theorem jcm (t : List UInt8) : silM (35 :: t) = silM (vA t) := by
  rw [vf, if_neg (by decide), if_pos rfl]
theorem jaJ {c : UInt8} (t : List UInt8) (h1 : zl c = false) (h2 : c ≠ 35) (h3 : c ≠ 47) : silM (c :: t) = (true, c :: t) := by
  rw [vf, if_neg (by rw [h1]; simp), if_neg h2, if_neg h3]
theorem ja6 {t : List UInt8} (h : jaR t = none) : silM (47 :: t) = (true, 47 :: t) := by
  rw [vf, if_neg (by decide), if_neg (by decide), if_pos rfl, h]
theorem jcb {u : List UInt8} (h : qd u = none) : silM (47 :: 42 :: u) = (false, 47 :: 42 :: u) := by
  have h2 : jaR (42 :: u) = some u := by simp [jaR]
  rw [vf, if_neg (by decide), if_neg (by decide), if_pos rfl, h2]; simp only [h]
theorem jdv {u r : List UInt8} (h : qd u = some r) : silM (47 :: 42 :: u) = silM r := by
  have h2 : jaR (42 :: u) = some u := by simp [jaR]
  rw [vf, if_neg (by decide), if_neg (by decide), if_pos rfl, h2]; simp only [h]
theorem jfL : ∀ (n : Nat) (s : List UInt8), s.length ≤ n → (silM s).2.length ≤ s.length := by
  intro n
  induction n with
  | zero => intro s hs; cases s with
    | nil => rw [jan]; simp
    | cons c t => simp at hs
  | succ n ih =>
    intro s hs; cases s with
    | nil => rw [jan]; simp
    | cons c t =>
      simp only [List.length_cons] at hs; cases h1 : zl c with
      | true => rw [jaf t h1]; have := ih t (by omega); simp; omega
      | false =>
        by_cases h2 : c = 35
        · subst h2; rw [jcm]; have h3 := vE t; have := ih (vA t) (by omega); simp; omega
        · by_cases h3 : c = 47
          · subst h3; cases h4 : jaR t with
            | some u =>
              have h4' := jam h4; subst h4'; cases h5 : qd u with
              | none => rw [jcb h5]; simp
              | some r => rw [jdv h5]; have := jac h5; simp only [List.length_cons] at hs ⊢; have := ih r (by omega); omega
            | none => rw [ja6 h4]; simp
          · rw [jaJ t h1 h2 h3]; simp
def decV (l : List UInt8) : Nat := l.foldl (fun n c => 10 * n + (c.toNat - 48)) 0
def zE (s : List UInt8) : Nat × List UInt8 :=
  match s with
  | [] => (1, [])
  | c :: t => if c = 75 ∨ c = 107 then (1024, t) else if c = 77 ∨ c = 109 then (1048576, t) else (1, c :: t)
theorem jfR (s : List UInt8) : (zE s).2.length ≤ s.length := by
  unfold zE; split
  · simp
  · split
    · simp
    · split <;> simp
def vK (s : List UInt8) : Bool := match s with | [] => false | c :: _ => jH c
def numM (s : List UInt8) : Cutting :=
  let r := zE (s.dropWhile jr)
  if vK r.2 then .error 3
  else if 2147483647 < decV (s.takeWhile jr) * r.1 then .error 6
  else .ok ({ kind := 3, text := [], num := (decV (s.takeWhile jr) * r.1 : Nat) }, r.2)
def strM : Bool → List UInt8 → Option (List UInt8 × List UInt8)
  | _, [] => none
  | true, c :: t => (strM false t).map fun x => (c :: x.1, x.2)
  | false, c :: t => if c = 34 then some ([], t) else if c = 92 then strM true t else (strM false t).map fun x => (c :: x.1, x.2)
theorem jiP {b : Bool} {s : List UInt8} {x : List UInt8 × List UInt8} (h : strM b s = some x) : x.2.length < s.length := by
  induction s generalizing b x with
  | nil => cases b <;> cases h
  | cons c t ih =>
    cases b with
    | true =>
      unfold strM at h; rw [Option.map_eq_some_iff] at h; obtain ⟨y, hy, rfl⟩ := h; have := ih hy; simp; omega
    | false =>
      unfold strM at h; split at h
      · cases h; simp
      · split at h
        · have := ih h; simp; omega
        · rw [Option.map_eq_some_iff] at h; obtain ⟨y, hy, rfl⟩ := h; have := ih hy; simp; omega
def tokM (s : List UInt8) : Cutting :=
  match s with
  | [] => .error 3
  | c :: t =>
    if jF c then .ok ({ kind := 1, text := c :: t.takeWhile jH, num := 0 }, t.dropWhile jH)
    else if c = 58 ∧ (t.head?.map jF).getD false = true then .ok ({ kind := 2, text := t.takeWhile jH, num := 0 }, t.dropWhile jH)
    else if jr c then numM (c :: t)
    else if c = 34 then (match strM false t with | none => .error 4 | some x => .ok ({ kind := 4, text := x.1, num := 0 }, x.2))
    else if vy c then .ok ({ kind := 5, text := [c], num := 0 }, t)
    else .error 3
theorem jbO (p : UInt8 → Bool) (s : List UInt8) : (s.dropWhile p).length ≤ s.length := (List.dropWhile_suffix _).length_le
theorem jdw {s : List UInt8} {x : Tok × List UInt8} (h : tokM s = .ok x) : x.2.length < s.length := by
  cases s with
  | nil => cases h
  | cons c t =>
    simp only [tokM] at h; split at h
    · cases h; have := jbO jH t; simp; omega
    · split at h
      · cases h; have := jbO jH t; simp; omega
      · split at h
        · rename_i hd; unfold numM at h; simp only at h; split at h
          · cases h
          · split at h
            · cases h
            · cases h; have h1 := jfR ((c :: t).dropWhile jr); have h2 : ((c :: t).dropWhile jr).length ≤ t.length := by rw [List.dropWhile_cons, if_pos hd]; exact jbO _ _
              simp; omega
        · split at h
          · split at h
            · cases h
            · rename_i x hx; cases h; have := jiP hx; simp; omega
          · split at h
            · cases h; simp
            · cases h
def begM (s : List UInt8) : Bool := match s with | [] => false | c :: t => jF c || (c == 58 && (t.head?.map jF).getD false) || jr c || c == 34 || vy c
theorem jjG {s : List UInt8} (h : begM s = false) : tokM s = .error 3 := by
  cases s with
  | nil => rfl
  | cons c t =>
    simp only [begM, Bool.or_eq_false_iff, Bool.and_eq_false_iff, beq_eq_false_iff_ne] at h; obtain ⟨⟨⟨⟨h1, h2⟩, h3⟩, h4⟩, h5⟩ := h; simp only [tokM, h1, h3, h5, Bool.false_eq_true, if_false, if_neg h4]; rw [if_neg]; rintro ⟨a, b⟩
    rcases h2 with h2 | h2
    · exact h2 a
    · rw [b] at h2; cases h2
def cutF : Nat → Nat → List UInt8 → Except (Nat × Int) (List Tok)
  | 0, _, _ => .ok []
  | n + 1, k, s =>
    if (silM s).1 = false then .error ((silM s).2.length, 4)
    else if (silM s).2 = [] then .ok []
    else if k = 400 then .error ((silM s).2.length, if begM (silM s).2 then 5 else 3)
    else match tokM (silM s).2 with
      | .error e => .error ((silM s).2.length, e)
      | .ok x => (match cutF n (k + 1) x.2 with | .error e => .error e | .ok l => .ok (x.1 :: l))
theorem jh1 : ∀ (n m k : Nat) (s : List UInt8), s.length < n → s.length < m → cutF n k s = cutF m k s := by
  intro n
  induction n with
  | zero => intro m k s h; omega
  | succ n ih =>
    intro m k s h1 h2; cases m with
    | zero => omega
    | succ m =>
      simp only [cutF]; cases ht : tokM (silM s).2 with
      | error e => rfl
      | ok x =>
        have l1 := jdw ht; have l2 := jfL _ s (Nat.le_refl _); simp only; rw [ih m (k + 1) x.2 (by omega) (by omega)]
def cutP (k : Nat) (s : List UInt8) : Except (Nat × Int) (List Tok) := cutF (s.length + 1) k s
theorem jba (k : Nat) (s : List UInt8) : cutP k s =
    if (silM s).1 = false then .error ((silM s).2.length, 4)
    else if (silM s).2 = [] then .ok []
    else if k = 400 then .error ((silM s).2.length, if begM (silM s).2 then 5 else 3)
    else match tokM (silM s).2 with
      | .error e => .error ((silM s).2.length, e)
      | .ok x => (match cutP (k + 1) x.2 with | .error e => .error e | .ok l => .ok (x.1 :: l)) := by
  show cutF (s.length + 1) k s = _
  simp only [cutF]; cases ht : tokM (silM s).2 with
  | error e => rfl
  | ok x =>
    have l1 := jdw ht; have l2 := jfL _ s (Nat.le_refl _); simp only; rw [jh1 s.length (x.2.length + 1) (k + 1) x.2 (by omega) (by omega)]; rfl
def cutM (s : List UInt8) : List Tok × Int × Int :=
  if 2000 < s.length then ([], 0, 1)
  else match cutP 0 s with
    | .ok l => (l, 0, 0)
    | .error (n, e) => ([], ((s.length - n : Nat) : Int), e)
def jao (l : List UInt8) : Bool := (l.head?.map jF).getD false && l.all jH
def jO (t : Tok) : Int :=
  if ¬ (1 ≤ t.kind ∧ t.kind ≤ 5) then 2
  else if t.kind = 3 then (if ¬ (0 ≤ t.num ∧ t.num ≤ 2147483647) then 6 else if t.text ≠ [] then 3 else 0)
  else if t.num ≠ 0 then 3
  else if t.kind = 5 then (if t.text.length = 1 ∧ t.text.all vy = true then 0 else 3)
  else if t.kind = 4 then 0
  else if jao t.text then 0 else 3
def decL (n : Nat) : List UInt8 := Lib.decDigits n
theorem jcj (n : Nat) : decL n = if n < 10 then [UInt8.ofNat (48 + n)] else decL (n / 10) ++ [UInt8.ofNat (48 + n % 10)] := by
  unfold decL; rw [Lib.decDigits]; split
  · rfl
  · rfl
def zn (l : List UInt8) : List UInt8 := l.flatMap fun c => if c = 34 ∨ c = 92 then [92, c] else [c]
def jS (t : Tok) : List UInt8 :=
  if t.kind = 3 then decL t.num.toNat
  else if t.kind = 2 then 58 :: t.text
  else if t.kind = 4 then 34 :: (zn t.text ++ [34])
  else t.text
def vJ (acc : List UInt8) : List Tok → Except Int (List UInt8)
  | [] => .ok acc
  | t :: ts =>
    if jO t ≠ 0 then .error (jO t)
    else if 2000 < (acc ++ jS t ++ [32]).length then .error 1
    else vJ (acc ++ jS t ++ [32]) ts
def jaA (ts : List Tok) : List UInt8 × Int :=
  if 400 < ts.length then ([], 5)
  else match vJ [] ts with
    | .ok s => (s, 0)
    | .error e => ([], e)
end Go.Proofs.YthikilhhmianlaaGreatDoor
namespace Go.Proofs.YthikilhhmianlaaGreatDoor
open Go.RowKit
def jE (k : Nat) (s : List UInt8) : Nat := jbb (wTabs.getD k []) 0 s
end Go.Proofs.YthikilhhmianlaaGreatDoor
namespace Go.Proofs.YthikilhhmianlaaGreatDoor
open Go.RowKit
end Go.Proofs.YthikilhhmianlaaGreatDoor
namespace Go.Proofs.YthikilhhmianlaaGreatDoor
open Go.RowKit
end Go.Proofs.YthikilhhmianlaaGreatDoor
namespace Go.Proofs.YthikilhhmianlaaGreatDoor
open Go.RowKit
abbrev Rdg (A : Type) := Except (Nat × Int) (A × List Tok)
def jv {A B : Type} (x : Rdg A) (f : A → List Tok → Rdg B) : Rdg B := match x with | .error e => .error e | .ok (a, r) => f a r
def misP (r : List Tok) : Nat × Int := (r.length, if r.isEmpty then 4 else 3)
def qi (k : Int) (r : List Tok) : Rdg Tok := match r with | [] => .error (misP []) | t :: q => if t.kind = k then .ok (t, q) else .error (misP (t :: q))
def za (k : Int) (s : List UInt8) (r : List Tok) : Option (List Tok) := match r with | [] => none | t :: q => if t.kind = k ∧ t.text = s then some q else none
def jK (k : Int) (s : List UInt8) (r : List Tok) : Rdg Unit := match za k s r with | some q => .ok ((), q) | none => .error (misP r)
def zW (r : List Tok) : Rdg (List UInt8) := jv (qi 4 r) fun t q => .ok (t.text, q)
def qo {A : Type} (f : List Tok → Rdg A) : Nat → List A → List Tok → Rdg (List A)
  | 0, acc, r => .ok (acc, r)
  | n + 1, acc, r => match za 5 [44] r with
    | none => .ok (acc, r)
    | some q => jv (f q) fun x q' => qo f n (acc ++ [x]) q'
def zd (r : List Tok) : Rdg (List (List UInt8)) :=
  match za 5 [91] r with
  | none => jv (zW r) fun x q => .ok ([x], q)
  | some q => jv (zW q) fun x q1 => jv (qo zW q1.length [x] q1) fun l q2 => jv (jK 5 [93] q2) fun _ q3 => .ok (l, q3)
def qW (k d : Nat) (r : List Tok) : Rdg Nat :=
  if 6 < d then .error (r.length, 1) else
    match r with
    | [] => .error (misP [])
    | t :: q => if t.kind = 1 ∧ jE k t.text ≠ 0 then .ok (jE k t.text, q) else .error (misP (t :: q))
def zi (b : Bool) : List Tok → Nat → Nat → Rdg (Nat × Nat)
  | [], m, p => .ok ((if m = 0 then 1 else m, if p = 0 ∧ b = true then 1 else p), [])
  | t :: q, m, p =>
    if t.kind = 2 then
      if jE 2 t.text ≠ 0 ∧ m = 0 then zi b q (jE 2 t.text) p
      else if jE 3 t.text ≠ 0 ∧ p = 0 ∧ b = true then zi b q m (jE 3 t.text)
      else .error (misP (t :: q))
    else .ok ((if m = 0 then 1 else m, if p = 0 ∧ b = true then 1 else p), t :: q)
def zG (r : List Tok) : Rdg (Bool × Int) :=
  match za 2 jdq r with
  | some q => jv (qi 3 q) fun t q => .ok ((true, t.num), q)
  | none => jv (jK 2 jaU r) fun _ q => jv (qi 3 q) fun t q => .ok ((false, t.num), q)
def zH (f : List Tok → Rdg Tst) (r : List Tok) : Rdg (List Tst) :=
  jv (jK 5 [40] r) fun _ q => jv (f q) fun x q => jv (qo f q.length [x] q) fun l q => jv (jK 5 [41] q) fun _ q => .ok (l, q)
def jJ : Nat → Nat → List Tok → Rdg Tst
  | 0, _, _ => .error (0, 0)
  | n + 1, d, r => jv (qW 1 d r) fun k q =>
    if k = 3 then jv (jJ n (d + 1) q) fun x q => .ok ({ jG with kind := 3, tests := [x] }, q)
    else if k = 4 ∨ k = 5 then jv (zH (jJ n (d + 1)) q) fun l q => .ok ({ jG with kind := k, tests := l }, q)
    else if k = 6 ∨ k = 7 ∨ k = 8 then jv (zi (decide (k ≠ 6)) q 0 0) fun mp q => jv (zd q) fun a q => jv (zd q) fun b q => .ok ({ jG with kind := k, mat := mp.1, part := mp.2, names := a, keys := b }, q)
    else if k = 9 then jv (zd q) fun a q => .ok ({ jG with kind := 9, names := a }, q)
    else if k = 10 then jv (zG q) fun b q => .ok ({ jG with kind := 10, over := b.1, limit := b.2 }, q)
    else .ok ({ jG with kind := k }, q)
def zP (f : List Tok → Rdg Cmd) : Nat → List Cmd → List Tok → Rdg (List Cmd)
  | 0, _, _ => .error (0, 0)
  | n + 1, acc, r => match za 5 [125] r with
    | some q => .ok (acc, q)
    | none => if r.isEmpty then .error (misP r) else jv (f r) fun c q => zP f n (acc ++ [c]) q
def zx (f : List Tok → Rdg Cmd) (r : List Tok) : Rdg (List Cmd) := jv (jK 5 [123] r) fun _ q => zP f (q.length + 1) [] q
def cmdP : Nat → Bool → Nat → List Tok → Rdg Cmd
  | 0, _, _, _ => .error (0, 0)
  | n + 1, true, d, r => jv (qW 0 d r) fun k q =>
    if k = 2 then cmdP n false d q
    else if k = 1 ∨ k = 8 ∨ k = 9 then jv (zd q) fun l q => jv (jK 5 [59] q) fun _ q => .ok (⟨k, l, jG, [], []⟩, q)
    else if k = 5 ∨ k = 6 ∨ k = 7 then jv (zW q) fun x q => jv (jK 5 [59] q) fun _ q => .ok (⟨k, [x], jG, [], []⟩, q)
    else jv (jK 5 [59] q) fun _ q => .ok (⟨k, [], jG, [], []⟩, q)
  | n + 1, false, d, r => jv (jJ n 1 r) fun t q => jv (zx (cmdP n true (d + 1)) q) fun th q =>
    match za 1 ql q with
    | some q => jv (cmdP n false d q) fun c q => .ok (⟨2, [], t, th, [c]⟩, q)
    | none => match za 1 jaa q with
      | some q => jv (zx (cmdP n true (d + 1)) q) fun el q => .ok (⟨2, [], t, th, el⟩, q)
      | none => .ok (⟨2, [], t, th, []⟩, q)
def zv (f : List Tok → Rdg Cmd) : Nat → List Cmd → List Tok → Rdg (List Cmd)
  | 0, acc, r => .ok (acc, r)
  | n + 1, acc, r => if r.isEmpty then .ok (acc, r) else jv (f r) fun c q => zv f n (acc ++ [c]) q
def zy (r : List Tok) : Rdg (List Cmd) := zv (cmdP (r.length + 2) true 0) r.length [] r
def vj : List Tok → Nat → Option (Nat × Int)
  | [], _ => none
  | t :: r, i => if jO t = 0 then vj r (i + 1) else some (i, jO t)
def zp (l : List Tok) : List Cmd × Int × Int :=
  if 400 < l.length then ([], 0, 5) else
    match vj l 0 with
    | some (i, e) => ([], i, e)
    | none => match zy l with
      | .ok (cs, _) => (cs, 0, 0)
      | .error (m, e) => ([], (l.length - m : Nat), e)
theorem jl {A B : Type} {x : Rdg A} {f : A → List Tok → Rdg B} {y : B × List Tok} (h : jv x f = .ok y) : ∃ a q, x = .ok (a, q) ∧ f a q = .ok y := by
  unfold jv at h; split at h
  · cases h
  · exact ⟨_, _, rfl, h⟩
theorem jaX {k : Int} {s : List UInt8} {r q : List Tok} (h : za k s r = some q) : ∃ t, r = t :: q ∧ t.kind = k ∧ t.text = s := by
  cases r with
  | nil => cases h
  | cons t u =>
    unfold za at h; simp only at h; split at h
    · rename_i hk; cases h; exact ⟨t, rfl, hk⟩
    · cases h
theorem j8 {k : Int} {s : List UInt8} {r q : List Tok} {u : Unit} (h : jK k s r = .ok (u, q)) : za k s r = some q := by
  unfold jK at h; split at h
  · rename_i hs; cases h; exact hs
  · cases h
theorem vP {k : Int} {r q : List Tok} {t : Tok} (h : qi k r = .ok (t, q)) : r = t :: q ∧ t.kind = k := by
  unfold qi at h; split at h
  · cases h
  · split at h
    · rename_i hk; cases h; exact ⟨rfl, hk⟩
    · cases h
theorem jQ {k : Int} {s : List UInt8} {r q : List Tok} (h : za k s r = some q) : q.length < r.length := by
  obtain ⟨t, rfl, _⟩ := jaX h; simp
theorem jfB {r q : List Tok} {x : List UInt8} (h : zW r = .ok (x, q)) : ∃ t, r = t :: q ∧ t.kind = 4 ∧ t.text = x := by
  obtain ⟨t, q', h1, h2⟩ := jl h; cases h2; obtain ⟨rfl, hk⟩ := vP h1; exact ⟨t, rfl, hk, rfl⟩
theorem vb {r q : List Tok} {x : List UInt8} (h : zW r = .ok (x, q)) : q.length < r.length := by
  obtain ⟨t, rfl, _⟩ := jfB h; simp
theorem jdC {A : Type} {f : List Tok → Rdg A} (hf : ∀ r x q, f r = .ok (x, q) → q.length ≤ r.length) : ∀ (n : Nat) (acc l : List A) (r q : List Tok), qo f n acc r = .ok (l, q) → q.length ≤ r.length := by
  intro n
  induction n with
  | zero => intro acc l r q h; cases h; exact Nat.le_refl _
  | succ n ih =>
    intro acc l r q h; unfold qo at h; split at h
    · cases h; exact Nat.le_refl _
    · rename_i q0 hs; obtain ⟨x, q1, h1, h2⟩ := jl h; have a := jQ hs; have b := hf _ _ _ h1; have c := ih _ _ _ _ h2; omega
theorem jaK {r q : List Tok} {l : List (List UInt8)} (h : zd r = .ok (l, q)) : q.length < r.length := by
  unfold zd at h; split at h
  · obtain ⟨x, q1, h1, h2⟩ := jl h; cases h2; exact vb h1
  · rename_i q0 hs; obtain ⟨x, q1, h1, h2⟩ := jl h; obtain ⟨l2, q2, h3, h4⟩ := jl h2; obtain ⟨u, q3, h5, h6⟩ := jl h4; cases h6; have a := jQ hs; have b := vb h1; have c := jdC (fun _ _ _ h => Nat.le_of_lt (vb h)) _ _ _ _ _ h3; have d := jQ (j8 h5); omega
theorem jbA {k d : Nat} {r q : List Tok} {n : Nat} (h : qW k d r = .ok (n, q)) : d ≤ 6 ∧ n ≠ 0 ∧ ∃ t, r = t :: q ∧ t.kind = 1 ∧ jE k t.text = n := by
  unfold qW at h; split at h
  · cases h
  · rename_i hd; split at h
    · cases h
    · split at h
      · rename_i hk; cases h; exact ⟨by omega, hk.2, _, rfl, hk.1, rfl⟩
      · cases h
theorem vp {k d : Nat} {r q : List Tok} {n : Nat} (h : qW k d r = .ok (n, q)) : q.length < r.length := by
  obtain ⟨_, _, t, rfl, _⟩ := jbA h; simp
theorem jhN {b : Bool} : ∀ (r : List Tok) (m p : Nat) (x : Nat × Nat) (q : List Tok), zi b r m p = .ok (x, q) → q.length ≤ r.length := by
  intro r
  induction r with
  | nil => intro m p x q h; unfold zi at h; cases h; exact Nat.le_refl _
  | cons t r ih =>
    intro m p x q h; unfold zi at h; split at h
    · split at h
      · have := ih _ _ _ _ h; simp; omega
      · split at h
        · have := ih _ _ _ _ h; simp; omega
        · cases h
    · cases h; exact Nat.le_refl _
theorem jgN {r q : List Tok} {x : Bool × Int} (h : zG r = .ok (x, q)) : q.length < r.length := by
  unfold zG at h; split at h
  · rename_i q0 hs; obtain ⟨t, q1, h1, h2⟩ := jl h; cases h2; have a := jQ hs; obtain ⟨rfl, _⟩ := vP h1
    simp at a; omega
  · obtain ⟨u, q0, h0, h'⟩ := jl h; obtain ⟨t, q1, h1, h2⟩ := jl h'; cases h2; have a := jQ (j8 h0); obtain ⟨rfl, _⟩ := vP h1
    simp at a; omega
theorem jgo {f : List Tok → Rdg Tst} (hf : ∀ r x q, f r = .ok (x, q) → q.length ≤ r.length) {r q : List Tok} {l : List Tst} (h : zH f r = .ok (l, q)) : q.length < r.length := by
  obtain ⟨u, q1, h1, h2⟩ := jl h; obtain ⟨x, q2, h3, h4⟩ := jl h2; obtain ⟨l', q3, h5, h6⟩ := jl h4; obtain ⟨u', q4, h7, h8⟩ := jl h6; cases h8; have a := jQ (j8 h1); have b := hf _ _ _ h3; have c := jdC hf _ _ _ _ _ h5; have d := jQ (j8 h7); omega
theorem qD : ∀ (n d : Nat) (r : List Tok) (t : Tst) (q : List Tok), jJ n d r = .ok (t, q) → q.length < r.length := by
  intro n
  induction n with
  | zero => intro d r t q h; cases h
  | succ n ih =>
    intro d r t q h; unfold jJ at h; obtain ⟨k, q1, h1, h2⟩ := jl h; have a := vp h1; simp only at h2; split at h2
    · obtain ⟨x, q2, h3, h4⟩ := jl h2; cases h4; have := ih _ _ _ _ h3; omega
    · split at h2
      · obtain ⟨x, q2, h3, h4⟩ := jl h2; cases h4; have := jgo (fun _ _ _ h => Nat.le_of_lt (ih _ _ _ _ h)) h3; omega
      · split at h2
        · obtain ⟨x, q2, h3, h4⟩ := jl h2; obtain ⟨y, q3, h5, h6⟩ := jl h4; obtain ⟨z, q4, h7, h8⟩ := jl h6; cases h8; have b := jhN _ _ _ _ _ h3; have c := jaK h5; have e := jaK h7; omega
        · split at h2
          · obtain ⟨x, q2, h3, h4⟩ := jl h2; cases h4; have := jaK h3; omega
          · split at h2
            · obtain ⟨x, q2, h3, h4⟩ := jl h2; cases h4; have := jgN h3; omega
            · cases h2; omega
theorem jge {f : List Tok → Rdg Cmd} (hf : ∀ r x q, f r = .ok (x, q) → q.length ≤ r.length) : ∀ (n : Nat) (acc l : List Cmd) (r q : List Tok), zP f n acc r = .ok (l, q) → q.length ≤ r.length := by
  intro n
  induction n with
  | zero => intro acc l r q h; cases h
  | succ n ih =>
    intro acc l r q h; unfold zP at h; split at h
    · rename_i q0 hs; cases h; exact Nat.le_of_lt (jQ hs)
    · split at h
      · cases h
      obtain ⟨x, q1, h1, h2⟩ := jl h; have b := hf _ _ _ h1; have c := ih _ _ _ _ h2; omega
theorem jai {f : List Tok → Rdg Cmd} (hf : ∀ r x q, f r = .ok (x, q) → q.length ≤ r.length) {r q : List Tok} {l : List Cmd} (h : zx f r = .ok (l, q)) : q.length < r.length := by
  obtain ⟨u, q1, h1, h2⟩ := jl h; have a := jQ (j8 h1); have b := jge hf _ _ _ _ _ h2; omega
theorem jak : ∀ (n : Nat) (b : Bool) (d : Nat) (r : List Tok) (c : Cmd) (q : List Tok), cmdP n b d r = .ok (c, q) → q.length < r.length := by
  intro n
  induction n with
  | zero => intro b d r t q h; cases h
  | succ n ih =>
    intro b d r t q h; have ih' : ∀ b d r x q, cmdP n b d r = .ok (x, q) → q.length ≤ r.length := fun _ _ _ _ _ h => Nat.le_of_lt (ih _ _ _ _ _ h)
    cases b with
    | true =>
      unfold cmdP at h; obtain ⟨k, q1, h1, h2⟩ := jl h; have a := vp h1; split at h2
      · have := ih _ _ _ _ _ h2; omega
      · split at h2
        · obtain ⟨x, q2, h3, h4⟩ := jl h2; obtain ⟨y, q3, h5, h6⟩ := jl h4; cases h6; have := jaK h3; have := jQ (j8 h5); omega
        · split at h2
          · obtain ⟨x, q2, h3, h4⟩ := jl h2; obtain ⟨y, q3, h5, h6⟩ := jl h4; cases h6; have := vb h3; have := jQ (j8 h5); omega
          · obtain ⟨y, q3, h5, h6⟩ := jl h2; cases h6; have := jQ (j8 h5); omega
    | false =>
      unfold cmdP at h; obtain ⟨x, q1, h1, h2⟩ := jl h; obtain ⟨y, q2, h3, h4⟩ := jl h2; have a := qD _ _ _ _ _ h1; have b := jai (ih' _ _) h3; split at h4
      · rename_i q0 hs; obtain ⟨z, q3, h5, h6⟩ := jl h4; cases h6; have := jQ hs; have := ih _ _ _ _ _ h5; omega
      · split at h4
        · rename_i q0 hs; obtain ⟨z, q3, h5, h6⟩ := jl h4; cases h6; have := jQ hs; have := jai (ih' _ _) h5; omega
        · cases h4; omega
end Go.Proofs.YthikilhhmianlaaGreatDoor
