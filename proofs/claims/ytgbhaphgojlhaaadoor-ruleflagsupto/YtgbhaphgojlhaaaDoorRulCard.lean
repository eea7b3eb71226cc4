/-
  What the laws of flags want besides their walks: what the table of flags holds.
-/
import Derived.Test.YtgbhaphgojlhaaaDoorCards
import Derived.Test.YtgbhaphgojlhaaaDoorTie
import Derived.Test.YtgbhaphgojlhaaaDoorRulFlg
import Derived.WalkKit
import Derived.ProofKit
import Derived.OpenShut
import Derived.ChangeOld
import Derived.Below
import Derived.Deep.DeepHandedRow
import Derived.Lib.LaidTab
import Derived.LaidSub
namespace Go.Proofs.YtgbhaphgojlhaaaDoor
open Go.ChangeShapes Go.WideShapes Go.ChangeAt Go.RowKit

theorem own : ownKnob Tryd.prog.godebug = none := by kernel_rfl
theorem laidOut : laidOutB Tryd.prog = true := by kernel_rfl
def layCells (cs : Array Value) : Obj → Obj
  | .cells _ t frozen => .cells cs t frozen
  | o => o
end Go.Proofs.YtgbhaphgojlhaaaDoor
