/-
  Entries of a chosen kind: plain facts.
-/
import Derived.Test.YtilhjgdmolgmdaaDoorBoxKp
namespace Go.Proofs.YtilhjgdmolgmdaaDoor
open Go.RowKit Go.Proofs

/-- What a law's entry is of chosen kind. -/
theorem entP_k0 (c : Chr) (h : pickN c.kind 6 = 0) : entP c = ⟨1, boxN c.box, 0, 0, [], []⟩ := by unfold entP; rw [h]; rfl
theorem zero_wf : (Lit.int .i64 0).wf = true := by decide
theorem one_wf : (Lit.int .i64 1).wf = true := by decide
theorem two_wf : (Lit.int .i64 2).wf = true := by decide
theorem three_wf : (Lit.int .i64 3).wf = true := by decide
theorem four_wf : (Lit.int .i64 4).wf = true := by decide
theorem five_wf : (Lit.int .i64 5).wf = true := by decide
theorem entP_kind (c : Chr) : (entP c).kind = ((pickN c.kind 6 : Nat) : Int) + 1 := by
  have h := pickN_lt c.kind 6 (by decide)
  unfold entP
  generalize pickN c.kind 6 = k at h ⊢
  match k, h with
  | 0, _ => rfl
  | 1, _ => rfl
  | 2, _ => rfl
  | 3, _ => rfl
  | 4, _ => rfl
  | 5, _ => rfl
theorem empty_le : ByteArray.empty.size ≤ maxLen := by simp [maxLen]
end Go.Proofs.YtilhjgdmolgmdaaDoor
