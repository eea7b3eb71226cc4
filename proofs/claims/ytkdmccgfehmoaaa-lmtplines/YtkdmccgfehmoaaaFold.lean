/-
  What glob.Fold does: the walk.
-/
import Derived.Test.YtkdmccgfehmoaaaSmall
namespace Go.Proofs.Ytkdmccgfehmoaaa
open Go.RowKit

/-- What glob.Fold answers. -/
def foldV (s : ByteArray) : Value := if s.size ≤ 2000 then .tuple #[.string (low s), .int .i64 0] else .tuple #[.string .empty, .int .i64 1]

set_option maxHeartbeats 400000 in
theorem fold_any (s : ByteArray) (w : World) :
    Calls Try.prog 46 #[.string s] w fun e w' => e = .returned (foldV s) ∧ Below w.heap.size w w' := by
  by_cases h : s.size ≤ 2000
  · go_enter Try.func46, Try.ntmps46
    go_wp2_with (go_at_call 52; refine (small_any _ _ (by omega)).mono ?_; rintro e w1 ⟨rfl, hb⟩)
    go_ret2
    exact ⟨by rw [foldV, if_pos h]; rfl, hb⟩
  · go_enter Try.func46, Try.ntmps46
    go_wp2_with (go_at_call 52; refine (small_any _ _ (by omega)).mono ?_; rintro e w1 ⟨rfl, hb⟩)
    go_ret2
    exact ⟨by rw [foldV, if_neg h]; rfl, Below.refl _ _⟩
end Go.Proofs.Ytkdmccgfehmoaaa
