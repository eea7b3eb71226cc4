/-
  Plain facts on a line that is no field: it is told by its place. No program is named here.
-/
import Derived.Test.YtdmjdhnncilaiaaDoorLetLaws
namespace Go.Proofs.YtdmjdhnncilaiaaDoor
open Go.RowKit

def bads : List (List UInt8) := [[110, 111, 99, 111, 108, 111, 110], [58, 118], [97, 32, 98, 58, 32, 99], [127, 58, 32, 118], [99, 97, 102, 233, 58, 32, 118]]
theorem bad_take {bad : List UInt8} (h : bad ∈ bads) (raw : List F) : takeF raw bad = ([], 3) := by
  have hg : goesOn raw bad = false := by
    simp only [bads, List.mem_cons, List.not_mem_nil, or_false] at h
    unfold goesOn
    rcases h with rfl | rfl | rfl | rfl | rfl <;> simp [blankB]
  have hc : (Lib.cut bad [58]).2.2 = false ∨ nameB (Lib.cut bad [58]).1 = false := by
    simp only [bads, List.mem_cons, List.not_mem_nil, or_false] at h
    rcases h with rfl | rfl | rfl | rfl | rfl <;> decide
  unfold takeF
  rw [hg, if_neg (by simp), if_pos hc]
theorem bad_end {bad : List UInt8} (h : bad ∈ bads) : hasEnd bad = false ∧ bad ≠ [] ∧ bad.length ≤ 7 := by
  simp only [bads, List.mem_cons, List.not_mem_nil, or_false] at h
  rcases h with rfl | rfl | rfl | rfl | rfl <;> decide
theorem place_parse {M : List F} {bad r : List UInt8} {k : Nat} (hM : ∀ f ∈ M, mayF f = true) (hl : M.length ≤ 30) (hb : bad ∈ bads) (hk : k ≤ M.length) (hs : (linesC (M.take k) ++ (bad ++ [13, 10] ++ r)).length ≤ 2000) :
    parseM (linesC (M.take k) ++ (bad ++ [13, 10] ++ r)) = ([], [], (k : Int), 3) := by
  have hr : ∀ f ∈ M.take k, rawB f = true := by
    intro f hf
    have := hM f (List.mem_of_mem_take hf)
    simp [mayF, valueB] at this
    simp [rawB, this.1, this.2.1]
  obtain ⟨h1, h2, _⟩ := bad_end hb
  have hlen : (M.take k).length = k := by simp; omega
  unfold parseM
  rw [if_neg (by omega), parse_fields hr (by simp; omega), List.nil_append, parse_bad h1 h2 (by rw [bad_take hb]; decide), bad_take hb, hlen]
  simp
/-- The text so far. -/
def PlaceT (M : List F) (bad : List UInt8) (k i : Nat) (t : List UInt8) : Prop :=
  t.length ≤ 10 + i * 60 ∧ ((i ≤ k ∧ t = linesC (M.take i)) ∨ (k < i ∧ ∃ r, t = linesC (M.take k) ++ (bad ++ [13, 10] ++ r)))
theorem linesC_take {M : List F} {i : Nat} {f : F} (h : M[i]? = some f) : linesC (M.take (i + 1)) = linesC (M.take i) ++ (lineC f ++ [13, 10]) := by
  unfold linesC; rw [take_some h]; simp
theorem place_plain {M : List F} {bad t : List UInt8} {k i : Nat} {f : F} (h : PlaceT M bad k i t) (hf : M[i]? = some f) (hne : i ≠ k) (hl : f.1.length ≤ 8 ∧ f.2.length ≤ 40) : PlaceT M bad k (i + 1) (t ++ (f.1 ++ [58] ++ f.2 ++ [13, 10])) := by
  refine ⟨by have := h.1; simp; omega, ?_⟩
  rcases h.2 with ⟨h1, rfl⟩ | ⟨h1, r, rfl⟩
  · exact .inl ⟨by omega, by rw [linesC_take hf]; simp [lineC]⟩
  · exact .inr ⟨by omega, r ++ (f.1 ++ [58] ++ f.2 ++ [13, 10]), by simp⟩
theorem place_bad {M : List F} {bad t : List UInt8} {k i : Nat} {f : F} (h : PlaceT M bad k i t) (hne : i = k) (hb : bad.length ≤ 7) (hl : f.1.length ≤ 8 ∧ f.2.length ≤ 40) : PlaceT M bad k (i + 1) (t ++ (bad ++ [13, 10]) ++ (f.1 ++ [58] ++ f.2 ++ [13, 10])) := by
  refine ⟨by have := h.1; simp; omega, ?_⟩
  rcases h.2 with ⟨h1, rfl⟩ | ⟨h1, r, rfl⟩
  · exact .inr ⟨by omega, f.1 ++ [58] ++ f.2 ++ [13, 10], by rw [hne]; simp⟩
  · omega
end Go.Proofs.YtdmjdhnncilaiaaDoor
