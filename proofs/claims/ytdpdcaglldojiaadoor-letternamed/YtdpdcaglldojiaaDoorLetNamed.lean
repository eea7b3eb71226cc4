/-
  Plain facts on words of small letters: they are found by their names, of great or small letters.
-/
import Derived.Test.YtdpdcaglldojiaaDoorLetLines
import Derived.Test.YtdpdcaglldojiaaDoorLetVal
namespace Go.Proofs.YtdpdcaglldojiaaDoor
open Go.RowKit

/-- All letters are small ones. -/
def smallB (l : List UInt8) : Prop := ∀ c ∈ l, 97 ≤ c.toNat ∧ c.toNat ≤ 122
theorem word_small (l : List UInt8) : smallB (wordL l) := by
  intro c hc
  unfold wordL at hc
  split at hc
  · simp at hc; subst hc; decide
  · obtain ⟨x, _, rfl⟩ := List.mem_map.1 hc
    have := wordC_nat x
    omega
theorem small_low {l : List UInt8} (h : smallB l) : lowL l = l := by
  unfold lowL
  conv => rhs; rw [← List.map_id l]
  refine List.map_congr_left fun c hc => ?_
  have := h c hc
  exact low1_no (by omega)
def upC (c : UInt8) : UInt8 := UInt8.ofNat (c.toNat - 32)
theorem upC_nat {c : UInt8} (h : 97 ≤ c.toNat ∧ c.toNat ≤ 122) : (upC c).toNat = c.toNat - 32 := by
  unfold upC
  have h2 : c.toNat - 32 < 256 := by omega
  rw [UInt8.toNat_ofNat_of_lt' (by simpa using h2)]
theorem up_low {l : List UInt8} (h : smallB l) : lowL (l.map upC) = l := by
  unfold lowL
  rw [List.map_map]
  conv => rhs; rw [← List.map_id l]
  refine List.map_congr_left fun c hc => ?_
  have h1 := h c hc
  have h2 := upC_nat h1
  have h3 := low1_yes (c := upC c) (by omega)
  show low1 (upC c) = c
  exact UInt8.toNat_inj.1 (by omega)
theorem small_same {n : List UInt8} {f : F} (hn : smallB n) (hf : smallB f.1) : sameN n f = (f.1 == n) := by
  unfold sameN; rw [small_low hn, small_low hf]
theorem up_same {n : List UInt8} (hn : smallB n) (f : F) : sameN (n.map upC) f = sameN n f := by
  unfold sameN; rw [up_low hn, small_low hn]
theorem values_up {n : List UInt8} (hn : smallB n) (fs : List F) : valuesM fs (n.map upC) = valuesM fs n := by
  unfold valuesM
  congr 2
  funext f
  exact up_same hn f
theorem values_more (fs : List F) (n v : List UInt8) : valuesM (fs ++ [(n, v)]) n = valuesM fs n ++ [v] := by
  simp [valuesM, sameN]
end Go.Proofs.YtdpdcaglldojiaaDoor
