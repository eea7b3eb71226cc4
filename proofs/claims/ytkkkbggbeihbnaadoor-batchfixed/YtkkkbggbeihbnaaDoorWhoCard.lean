/-
  What the laws of the layer of addresses want besides their walks: the world in which the two tables of the library lie.
-/
import Derived.Test.YtkkkbggbeihbnaaDoorCards
import Derived.Test.YtkkkbggbeihbnaaDoorTie
import Derived.Test.YtkkkbggbeihbnaaDoorShelf
import Derived.WalkKit
import Derived.ProofKit
import Derived.OpenShut
import Derived.ChangeOld
import Derived.Below
import Derived.Deep.DeepHandedRow
import Derived.Lib.LaidTab
namespace Go.Proofs.YtkkkbggbeihbnaaDoor
open Go.ChangeShapes Go.WideShapes Go.ChangeAt Go.RowKit

theorem own : ownKnob Tryd.prog.godebug = none := by kernel_rfl
theorem laidOut : laidOutB Tryd.prog = true := by kernel_rfl
def layCells (cs : Array Value) : Obj → Obj
  | .cells _ t frozen => .cells cs t frozen
  | o => o
end Go.Proofs.YtkkkbggbeihbnaaDoor
