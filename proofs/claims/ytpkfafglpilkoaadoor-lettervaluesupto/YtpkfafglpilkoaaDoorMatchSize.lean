/-
  What glob.Match does with a text or a pattern that is too long: the walk.
-/
import Derived.Test.YtpkfafglpilkoaaDoorMatchIs
namespace Go.Proofs.YtpkfafglpilkoaaDoor
open Go.RowKit

set_option maxHeartbeats 400000 in
theorem match_size (kind : Int) (s p : ByteArray) (w : World) (h1 : 1 ≤ kind) (h2 : kind ≤ 3) (h : 2000 < s.size ∨ 100 < p.size) :
    Calls Tryd.prog 36 #[.int .i64 kind, .string s, .string p] w fun e w' => e = .returned (.tuple #[.bool false, .int .i64 1]) ∧ Below w.heap.size w w' := by
  have hk : kind = 1 ∨ kind = 2 ∨ kind = 3 := by omega
  by_cases hs : 2000 < s.size
  · rcases hk with rfl | rfl | rfl
    all_goals
      go_enter Tryd.func36, Tryd.ntmps36
      go_wp2_with fail
      go_ret2
      exact ⟨rfl, Below.refl _ _⟩
  · have hp : 100 < p.size := by omega
    rcases hk with rfl | rfl | rfl
    all_goals
      go_enter Tryd.func36, Tryd.ntmps36
      go_wp2_with fail
      go_ret2
      exact ⟨rfl, Below.refl _ _⟩


end Go.Proofs.YtpkfafglpilkoaaDoor
