/-
  A token in a block of its own, as the walks of package token make it.
-/
import Derived.Test.YtkdngmhcfkfppaaGreatDoorRows
import Derived.Test.YtkdngmhcfkfppaaGreatDoorTokPure
import Derived.Test.YtkdngmhcfkfppaaGreatDoorTxt
import Derived.Test.YtkdngmhcfkfppaaGreatDoorBut
import Derived.WalkKit
import Derived.WalkSpells
import Derived.WalkLawsBesides
import Derived.Shelf.Abstract
import Derived.Laws.IdiomStrings
namespace Go.Proofs.YtkdngmhcfkfppaaGreatDoor
open Go.RowKit Go.Proofs

theorem S_get (s : List UInt8) (k : Nat) (h : k < (S s).size) (h' : k < s.length) : (S s)[k]'h = s[k]'h' := by
  have this : (S s)[k]'h = (S s).data.toList[k]'(by simpa using h) := rfl
  rw [this]
  simp [list_S]

/-- A token as it stands in memory. -/
def tokV (t : Tok) : Value := .agg #[.int .i64 t.kind, .string (S t.text), .int .i64 t.num]
def zeroT : Tok := { kind := 0, text := [], num := 0 }
def TokB (w : World) (b : Nat) (t : Tok) : Prop := w.heap[b]? = some (.cells #[.int .i64 t.kind, .string (S t.text), .int .i64 t.num] 206)
theorem TokB.c0 {w : World} {b : Nat} {t : Tok} (h : TokB w b t) : w.cell? ⟨b, 0, none⟩ = some (.int .i64 t.kind) := by unfold TokB at h; simp [World.cell?, h]
theorem TokB.c1 {w : World} {b : Nat} {t : Tok} (h : TokB w b t) : w.cell? ⟨b, 1, none⟩ = some (.string (S t.text)) := by unfold TokB at h; simp [World.cell?, h]
theorem TokB.c2 {w : World} {b : Nat} {t : Tok} (h : TokB w b t) : w.cell? ⟨b, 2, none⟩ = some (.int .i64 t.num) := by unfold TokB at h; simp [World.cell?, h]
theorem TokB.free {w : World} {b : Nat} {t : Tok} (h : TokB w b t) (o : Nat) : w.frozen? ⟨b, o, none⟩ = false := by unfold TokB at h; simp [World.frozen?, h]
theorem TokB.lt {w : World} {b : Nat} {t : Tok} (h : TokB w b t) : b < w.heap.size := World.block_lt_of_cell? w _ h.c0
theorem TokB.far {w : World} {b : Nat} {t : Tok} (h : TokB w b t) {p : Addr} (hn : b ≠ p.block) (v : Value) : TokB (w.setCell p v) b t := (Below.heap_setCell _ _ _ _ hn).trans h
theorem TokB.but {w w' : World} {r b : Nat} {t : Tok} (h : TokB w b t) (hb : But r w w') (hn : b ≠ r) : TokB w' b t := (hb.block b h.lt hn).trans h
theorem TokB.below {w w' : World} {b B : Nat} {t : Tok} (h : TokB w b t) (hb : Below B w w') (hB : b < B) : TokB w' b t := (hb.block b hB).trans h
theorem TokB.next {w w' : World} {b : Nat} {t : Tok} (h : TokB w b t) (hb : Below w.heap.size w w') : TokB w' b t := (hb.block b h.lt).trans h
theorem tokB_new (w : World) (t : Tok) : TokB (w.alloc (.cells #[.int .i64 t.kind, .string (S t.text), .int .i64 t.num] 206)) w.heap.size t := by
  unfold TokB
  show (w.heap.push _)[w.heap.size]? = _
  simp
/-- What reading one token does: the token and how many bytes it takes, or an error. -/
def Tk (w : World) (s : List UInt8) (r : Cutting) (e : Ending) (w' : World) : Prop :=
  match r with
  | .error x => e = .returned (.tuple #[tokV zeroT, .int .i64 0, .int .i64 x]) ∧ Below w.heap.size w w'
  | .ok (t, rest) => e = .returned (.tuple #[tokV t, .int .i64 (s.length - rest.length : Nat), .int .i64 0]) ∧ Below w.heap.size w w'
end Go.Proofs.YtkdngmhcfkfppaaGreatDoor
