/-
  What all laws of the letter's layer want besides their walks: the world in which the two tables of the library lie.
-/
import Derived.Test.YtdjdmlcmjdapaaaDoorCards
import Derived.Test.YtdjdmlcmjdapaaaDoorTie
import Derived.Test.YtdjdmlcmjdapaaaDoorLetLines
import Derived.Test.YtdjdmlcmjdapaaaDoorLetLinesX
import Derived.WalkKit
import Derived.ProofKit
import Derived.OpenShut
import Derived.ChangeOld
import Derived.Below
import Derived.Deep.DeepHandedRow
import Derived.Lib.LaidTab
namespace Go.Proofs.YtdjdmlcmjdapaaaDoor
open Go.ChangeShapes Go.WideShapes Go.ChangeAt Go.RowKit

theorem own : ownKnob Tryd.prog.godebug = none := by kernel_rfl
theorem laidOut : laidOutB Tryd.prog = true := by kernel_rfl
def layCells (cs : Array Value) : Obj → Obj
  | .cells _ t frozen => .cells cs t frozen
  | o => o
end Go.Proofs.YtdjdmlcmjdapaaaDoor
