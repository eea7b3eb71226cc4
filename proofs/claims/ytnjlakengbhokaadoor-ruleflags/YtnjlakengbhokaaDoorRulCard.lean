/-
  What the laws of flags want besides their walks: what the table of flags holds.
-/
import Derived.Test.YtnjlakengbhokaaDoorCards
import Derived.Test.YtnjlakengbhokaaDoorTie
import Derived.Test.YtnjlakengbhokaaDoorRulTabs
import Derived.Test.YtnjlakengbhokaaDoorScrCard
import Derived.WalkKit
import Derived.ProofKit
import Derived.OpenShut
import Derived.ChangeOld
import Derived.Below
import Derived.Deep.DeepHandedRow
import Derived.Lib.LaidTab
import Derived.LaidSub
namespace Go.Proofs.YtnjlakengbhokaaDoor
open Go.ChangeShapes Go.WideShapes Go.ChangeAt Go.RowKit

end Go.Proofs.YtnjlakengbhokaaDoor
