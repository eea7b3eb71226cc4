/-
  What the laws of flags want besides their walks: what the table of flags holds.
-/
import Derived.Test.YtcphpnnhopflgaaGreatDoorCards
import Derived.Test.YtcphpnnhopflgaaGreatDoorTie
import Derived.Test.YtcphpnnhopflgaaGreatDoorRulTabs
import Derived.Test.YtcphpnnhopflgaaGreatDoorScrCard
import Derived.WalkKit
import Derived.ProofKit
import Derived.OpenShut
import Derived.ChangeOld
import Derived.Below
import Derived.Deep.DeepHandedRow
import Derived.Lib.LaidTab
import Derived.LaidSub
namespace Go.Proofs.YtcphpnnhopflgaaGreatDoor
open Go.ChangeShapes Go.WideShapes Go.ChangeAt Go.RowKit

end Go.Proofs.YtcphpnnhopflgaaGreatDoor
