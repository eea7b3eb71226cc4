/-
  Plain facts on bytes and lists: small letters in place of great ones; no program is named here.
-/
import Derived.WalkKit
namespace Go.Proofs.YtkdngmhcfkfppaaGreatDoor
open Go.RowKit

/-- One byte with a small letter in place of a great one. -/
def low1 (c : UInt8) : UInt8 := if 65 ≤ (c.toNat : Int) ∧ (c.toNat : Int) ≤ 90 then UInt8.ofNat (c.toNat + 32) else c

/-- A text so, byte by byte. -/
def lowL (l : List UInt8) : List UInt8 := l.map low1
def low (s : ByteArray) : ByteArray := ⟨(lowL s.data.toList).toArray⟩

theorem low1_yes {c : UInt8} (h : 65 ≤ (c.toNat : Int) ∧ (c.toNat : Int) ≤ 90) : ((low1 c).toNat : Int) = c.toNat + 32 := by
  unfold low1
  rw [if_pos h]
  have : c.toNat + 32 < 256 := by omega
  simp [UInt8.toNat_ofNat, Nat.mod_eq_of_lt this]
theorem low1_no {c : UInt8} (h : ¬ (65 ≤ (c.toNat : Int) ∧ (c.toNat : Int) ≤ 90)) : low1 c = c := by
  unfold low1
  rw [if_neg h]

theorem size_list (s : ByteArray) : s.data.toList.length = s.size := by rw [Array.length_toList]; rfl
theorem low_size (s : ByteArray) : (low s).size = s.size := by
  show (lowL s.data.toList).toArray.size = _
  simp only [lowL, List.size_toArray, List.length_map]
  exact size_list s
theorem low_list (s : ByteArray) : (low s).data.toList = lowL s.data.toList := by simp [low]

theorem low1_low1 (c : UInt8) : low1 (low1 c) = low1 c := by
  by_cases h : 65 ≤ (c.toNat : Int) ∧ (c.toNat : Int) ≤ 90
  · have := low1_yes h
    exact low1_no (by omega)
  · rw [low1_no h]; exact low1_no h
theorem lowL_lowL (l : List UInt8) : lowL (lowL l) = lowL l := by
  simp [lowL, low1_low1]
theorem low_low (s : ByteArray) : low (low s) = low s := by
  simp [low, lowL_lowL]

theorem take_snoc (s : ByteArray) (k : Nat) (h : k < s.size) : s.data.toList.take (k + 1) = s.data.toList.take k ++ [s[k]] := by
  rw [List.take_succ_eq_append_getElem (by simpa using h)]; rfl
theorem get_list (s : ByteArray) (k : Nat) (h : k < s.size) : s.data.toList[k]? = some s[k] := by
  rw [List.getElem?_eq_getElem (by simpa using h)]; rfl

theorem ret_int {k : IntKind} {a b : Int} (h : a = b) : Ending.returned (.int k a) = .returned (.int k b) := by rw [h]
theorem ret_bool {a b : Bool} (h : a = b) : Ending.returned (.bool a) = .returned (.bool b) := by rw [h]

/-- A row that bears a mark behind its last cell: no cell of it is frozen. -/
theorem frozen_mark {w : World} {g j n : Nat} {cs : Array Value} {t : TypeId} (hg : w.heap[g]? = some (.cells cs t (n, n + 1))) (hj : j < n) : w.frozen? ⟨g, j, none⟩ = false := by
  simp [World.frozen?, hg]; omega
theorem setCell_mark {w : World} {g i : Nat} {cs : Array Value} {t : TypeId} {fr : Nat × Nat} (v : Value) (hg : w.heap[g]? = some (.cells cs t fr)) :
    (w.setCell ⟨g, i, none⟩ v).heap[g]? = some (.cells (cs.setIfInBounds i v) t fr) := by
  rw [setCell_eq_setRow w g i cs t fr v hg]
  exact setRow_heap w g cs _ t _ hg

end Go.Proofs.YtkdngmhcfkfppaaGreatDoor
