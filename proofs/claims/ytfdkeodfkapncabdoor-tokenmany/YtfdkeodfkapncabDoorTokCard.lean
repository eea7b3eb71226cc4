/-
  What the laws of the layer of tokens want besides their walks: what the five tables of the library hold.
-/
import Derived.Test.YtfdkeodfkapncabDoorCards
import Derived.Test.YtfdkeodfkapncabDoorTie
import Derived.Test.YtfdkeodfkapncabDoorTokText
import Derived.WalkKit
import Derived.ProofKit
import Derived.OpenShut
import Derived.ChangeOld
import Derived.Below
import Derived.Deep.DeepHandedRow
import Derived.Lib.LaidTab
import Derived.LaidSub
namespace Go.Proofs.YtfdkeodfkapncabDoor
open Go.ChangeShapes Go.WideShapes Go.ChangeAt Go.RowKit

theorem own : ownKnob Tryd.prog.godebug = none := by kernel_rfl
theorem laidOut : laidOutB Tryd.prog = true := by kernel_rfl
def layCells (cs : Array Value) : Obj → Obj
  | .cells _ t frozen => .cells cs t frozen
  | o => o
def lit1 : DataW Unit → List Value
  | .lit (.int k n) => [.int k n]
  | _ => []
def lit2 : DataW Unit → List Value
  | .agg l => l.flatMap lit1
  | d => lit1 d
def tabCells : DataW Unit → Array Value
  | .agg l => (l.flatMap lit2).toArray
  | _ => #[]
def tabsL : List (String × DataW Unit) := [("math/bits.deBruijn32tab", Rows.laid_math_bits_deBruijn32tab), ("math/bits.deBruijn64tab", Rows.laid_math_bits_deBruijn64tab), ("internal/strconv.uint64pow10", Rows.laid_internal_strconv_uint64pow10), ("unicode/utf8.acceptRanges", Rows.laid_unicode_utf8_acceptRanges), ("unicode/utf8.first", Rows.laid_unicode_utf8_first)]
theorem tabs_pow : tabsL.filter (fun x => x.1 == "internal/strconv.uint64pow10") = [("internal/strconv.uint64pow10", Lib.tabData .u64 Lib.pow10Tab)] := by kernel_rfl
theorem env_of (W : World) (hsh : W.ShapedOpen Tryd.prog) (h : laidMetH Tryd.prog tabsL W) : Env W := by
  refine ⟨maxLenCell_shaped W hsh, ?_⟩
  have h1 : laidMet Tryd.prog tabsL W := h
  have h2 := laidMet.filter (fun x => x.1 == "internal/strconv.uint64pow10") h1
  rw [tabs_pow] at h2
  exact Lib.tabIs_of_head (g := 1) (t := 89) (e := 81) (n := 20) (by kernel_rfl) (by kernel_rfl) Tryd.underlying89 Tryd.underlying81 (by kernel_rfl) (by kernel_rfl) h2
end Go.Proofs.YtfdkeodfkapncabDoor
