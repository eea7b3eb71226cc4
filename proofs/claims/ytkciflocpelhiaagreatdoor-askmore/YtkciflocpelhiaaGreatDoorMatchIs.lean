/-
  What glob.Match does with the kind Is: the walk.
-/
import Derived.Test.YtkciflocpelhiaaGreatDoorRows
import Derived.Test.YtkciflocpelhiaaGreatDoorSmall
namespace Go.Proofs.YtkciflocpelhiaaGreatDoor
open Go.RowKit

set_option maxRecDepth 100000 in
set_option maxHeartbeats 400000 in
theorem match_is (s p : ByteArray) (w : World) (hs : s.size ≤ 2000) (hp : p.size ≤ 100) :
    Calls Tryz.prog 58 #[.int .i64 1, .string s, .string p] w fun e w' => e = .returned (.tuple #[.bool ((low s).toList == (low p).toList), .int .i64 0]) ∧ Below w.heap.size w w' := by
  go_enter Tryz.func58, Tryz.ntmps58
  go_wp2_with fail
  refine (small_any s _ (by omega)).mono ?_
  rintro e w1 ⟨rfl, hb1⟩
  go_wp2_with fail
  refine (small_any p _ (by omega)).mono ?_
  rintro e w2 ⟨rfl, hb2⟩
  go_wp2
  go_ret2
  exact ⟨rfl, hb1.trans (hb2.mono hb1.size)⟩
end Go.Proofs.YtkciflocpelhiaaGreatDoor
