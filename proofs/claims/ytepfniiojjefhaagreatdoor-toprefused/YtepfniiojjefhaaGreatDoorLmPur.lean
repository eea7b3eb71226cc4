/-
  Plain facts on sessions (chapter 12). No program is named here.
-/
import Derived.Test.YtepfniiojjefhaaGreatDoorQScrRd135
import Derived.Test.YtepfniiojjefhaaGreatDoorQPure6
namespace Go.Proofs.YtepfniiojjefhaaGreatDoor
open Go.RowKit

/- P12.2, P12.3. -/
/- P12.4. -/
end Go.Proofs.YtepfniiojjefhaaGreatDoor
