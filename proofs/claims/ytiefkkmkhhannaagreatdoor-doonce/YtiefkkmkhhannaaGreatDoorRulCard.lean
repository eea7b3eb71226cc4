/-
  What the laws of flags want besides their walks: what the table of flags holds.
-/
import Derived.Test.YtiefkkmkhhannaaGreatDoorCards
import Derived.Test.YtiefkkmkhhannaaGreatDoorTie
import Derived.Test.YtiefkkmkhhannaaGreatDoorRulTabs
import Derived.Test.YtiefkkmkhhannaaGreatDoorScrCard
import Derived.WalkKit
import Derived.ProofKit
import Derived.OpenShut
import Derived.ChangeOld
import Derived.Below
import Derived.Deep.DeepHandedRow
import Derived.Lib.LaidTab
import Derived.LaidSub
namespace Go.Proofs.YtiefkkmkhhannaaGreatDoor
open Go.ChangeShapes Go.WideShapes Go.ChangeAt Go.RowKit

end Go.Proofs.YtiefkkmkhhannaaGreatDoor
