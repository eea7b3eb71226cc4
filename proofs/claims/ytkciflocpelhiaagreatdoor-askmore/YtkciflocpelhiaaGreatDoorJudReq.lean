/-
  A Require and a command behind it, in memory; what judge.requireOf does: the walk.
-/
import Derived.Test.YtkciflocpelhiaaGreatDoorRulCs
import Derived.Test.YtkciflocpelhiaaGreatDoorScrCk
import Derived.Test.YtkciflocpelhiaaGreatDoorReqMem
namespace Go.Proofs.YtkciflocpelhiaaGreatDoor
open Go.RowKit Go.Proofs

set_option maxHeartbeats 1000000 in
set_option maxRecDepth 100000 in
theorem requireOf_any (a : Option Addr) (n c : Nat) (w : World) :
    Calls Tryz.prog 14 #[.slice a n c] w fun e w' => e = .returned (.agg #[.int .i64 1, .slice a n c, .int .i64 0, .int .i64 0, .int .i64 0, .slice none 0 0, .slice none 0 0, .bool false, .int .i64 0, .slice none 0 0, .slice none 0 0, .slice none 0 0]) ∧ Below w.heap.size w w' := by
  go_enter Tryz.func14, Tryz.ntmps14
  go_wp2
  refine bodyPost_ret (v := .agg #[.int .i64 1, .slice a n c, .int .i64 0, .int .i64 0, .int .i64 0, .slice none 0 0, .slice none 0 0, .bool false, .int .i64 0, .slice none 0 0, .slice none 0 0, .slice none 0 0]) (by simp [results, Tryz.results14, go_sem]) rfl ?_
  exact ⟨rfl, (Below.refl _ _).alloc (Nat.le_refl _) _⟩
end Go.Proofs.YtkciflocpelhiaaGreatDoor
