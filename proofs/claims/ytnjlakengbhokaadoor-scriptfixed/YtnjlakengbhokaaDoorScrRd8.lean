/-
  What the reader's test does, with whatever fuel.
-/
import Derived.Test.YtnjlakengbhokaaDoorScrRd7
namespace Go.Proofs.YtnjlakengbhokaaDoor
open Go.RowKit Go.Proofs

theorem rtest_any (n : Nat) : RdT n := by
  induction n with
  | zero => intro d b A C L r w _ _ _ h _; omega
  | succ n ih => exact rtest_step n ih
end Go.Proofs.YtnjlakengbhokaaDoor
