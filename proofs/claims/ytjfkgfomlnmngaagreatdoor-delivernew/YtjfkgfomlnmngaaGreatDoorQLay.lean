/-
  A variable's cells laid: for the cards.
-/
import Derived.Test.YtjfkgfomlnmngaaGreatDoorQScrCard5
namespace Go.Proofs.YtjfkgfomlnmngaaGreatDoor
def layCells (cs : Array Value) : Obj → Obj
  | .cells _ t frozen => .cells cs t frozen
  | o => o
end Go.Proofs.YtjfkgfomlnmngaaGreatDoor
