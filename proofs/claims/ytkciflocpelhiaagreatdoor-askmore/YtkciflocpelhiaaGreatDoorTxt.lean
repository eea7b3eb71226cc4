/-
  Plain facts on texts of lists of bytes (empty or not, their pieces) and on worlds. No program is named here.
-/
import Derived.Lib.Strings
import Derived.Below
import Derived.Deep.Draws
import Derived.Test.YtkciflocpelhiaaGreatDoorPure
namespace Go.Proofs.YtkciflocpelhiaaGreatDoor
open Go.RowKit

theorem S_some (c : UInt8) (t : List UInt8) : (S (c :: t)).toList.isEmpty = false := by rw [Lib.toList_data, list_S]; rfl
theorem S_none : (S []).toList.isEmpty = true := by rw [Lib.toList_data, list_S]; rfl
theorem S_pos (c : UInt8) (t : List UInt8) : 0 < (S (c :: t)).size := by rw [size_S]; simp
theorem S_drop (s : List UInt8) (k : Nat) : (S s).extract k (S s).size = S (s.drop k) := by
  rw [Lib.extract_eq, list_S, size_S, List.take_of_length_le (by simp)]; rfl
theorem S_take (s : List UInt8) (k : Nat) : (S s).extract 0 k = S (s.take k) := by
  rw [Lib.extract_eq, list_S]; rfl
theorem S_head (c : UInt8) (t : List UInt8) (h : 0 < (S (c :: t)).size) : (S (c :: t))[0] = c := rfl
theorem byte_round (c : UInt8) : ((c.toNat : Int)).toNat.toUInt8 = c := by simp
theorem wcell_more {w : World} {p : Addr} {v : Value} (h : w.cell? p = some v) (o : Obj) : (w.alloc o).cell? p = some v :=
  (((Below.refl w.heap.size w).alloc (Nat.le_refl _) o).cell (World.block_lt_of_cell? w _ h)).trans h
theorem wcell_next {w w' : World} {p : Addr} {v : Value} (h : w.cell? p = some v) (hb : Below w.heap.size w w') : w'.cell? p = some v :=
  (hb.cell (World.block_lt_of_cell? w _ h)).trans h
theorem wdrew {B : Nat} {a w : World} (h : Below B a w) (n : Nat) : Below B a (w.drewN n) := h.trans ⟨rfl, rfl, rfl, Nat.le_refl _, fun _ _ => rfl⟩
theorem wnext {B : Nat} {a b c : World} (h : Below B a b) (k : Below b.heap.size b c) (hB : B ≤ a.heap.size) : Below B a c := h.trans (k.mono (Nat.le_trans hB h.size))
theorem wmore {B : Nat} {a b : World} (h : Below B a b) (hB : B ≤ a.heap.size) (o : Obj) : Below B a (b.alloc o) := h.alloc (Nat.le_trans hB h.size) o
end Go.Proofs.YtkciflocpelhiaaGreatDoor
