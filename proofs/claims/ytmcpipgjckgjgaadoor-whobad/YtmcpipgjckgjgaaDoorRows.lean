/-
  NARROWER THAN 'FOR EVERY INPUT', by the rows' own cells (each row's printed sentence says how): WhoLists: laid · WhoBack: laid · WhoMany: laid · WhoBad: laid.
  DERIVED. THE GIVEN ROWS OF THIS SEAT. 4 by the template 'for every input the law returns true; each argument reads behind the call as it read before'; 0 by the template 'total and deterministic' (their statements: YtmcpipgjckgjgaaDoorTotals.lean).
  GIVEN WITH THE SEED: the statements are not yours to turn. If you find one false, say at which input.
  Laid BY PROGRAM, IN A SANDBOX (cutbox-rows.mjs): the forced cells as the released guide's own fill.sh prints them over the translation ba49c2f4e7dd152a… (all of the seat's roots in one cut). By AI agents, Wed Nov 11 2026. No macro, syntax, notation, axiom, sorry.
-/
import Derived.Test.YtmcpipgjckgjgaaDoorChecked
import GoSem.PinnedTables
import GoSem.Claim
import GoSem.ClaimJoined
import GoSem.ClaimMapViews
import Derived.JoinedTies
import Derived.KernelRfl
namespace Go.Proofs.YtmcpipgjckgjgaaDoor
/- THE CELL 'sum', in the pinned program and in every row, IS THE sha256 OF THE DUMP (.gsa) THAT YtmcpipgjckgjgaaDoorProg.lean LOADS. Nothing in Lean hashes anything: it is a label: what it is worth is what the hold of that sum in a sandbox is worth. -/
noncomputable def Tryd.pinned : Pinned := { name := "ytmcpipgjckgjgaadoor", sum := "ba49c2f4e7dd152acf8dc6084c0531194a44dff8bec183d9b84a5235709cdc01", checked := Tryd.checked }
namespace Rows
def none {H : Type} : Left H := { results := [], args := [] }

/- WHAT THE LISTED PACKAGE-LEVEL VARIABLES READ AS WHEN THE CALL BEGINS. Each datum BY PROGRAM (the guide's laid-datum.mjs) off the statement by which the dump's own 'gosem.cut.vars' lays the variable. In a bare row this is a premise. The card (YtmcpipgjckgjgaaDoorCards.lean) ties it to the program's text. -/
def laid_unicode_utf8_acceptRanges {H : Type} : DataW H := .agg [.agg [.lit (.int .u8 128), .lit (.int .u8 191)], .agg [.lit (.int .u8 160), .lit (.int .u8 191)], .agg [.lit (.int .u8 128), .lit (.int .u8 159)], .agg [.lit (.int .u8 144), .lit (.int .u8 191)], .agg [.lit (.int .u8 128), .lit (.int .u8 143)], .agg [.lit (.int .u8 0), .lit (.int .u8 0)], .agg [.lit (.int .u8 0), .lit (.int .u8 0)], .agg [.lit (.int .u8 0), .lit (.int .u8 0)], .agg [.lit (.int .u8 0), .lit (.int .u8 0)], .agg [.lit (.int .u8 0), .lit (.int .u8 0)], .agg [.lit (.int .u8 0), .lit (.int .u8 0)], .agg [.lit (.int .u8 0), .lit (.int .u8 0)], .agg [.lit (.int .u8 0), .lit (.int .u8 0)], .agg [.lit (.int .u8 0), .lit (.int .u8 0)], .agg [.lit (.int .u8 0), .lit (.int .u8 0)], .agg [.lit (.int .u8 0), .lit (.int .u8 0)]]
/-- One of Go's own tables, pinned by name: the form's constant. -/
def laid_unicode_utf8_first : DataW Unit := Go.Pinned.utf8First

/-- 'postroomlaw.WhoLists': WHATEVER THE INPUT: true; the input reads as it did. -/
def whoListsSpec : ChangeSpec := { name := "whoLists", fn := fun _ => fun
  | [d] => { results := [.lit (.bool true)], args := [d] }
  | _ => none }
def whoListsRow : OpenClaim := { program := "ytmcpipgjckgjgaadoor", sum := "ba49c2f4e7dd152acf8dc6084c0531194a44dff8bec183d9b84a5235709cdc01", func := "postroom/postroomlaw.WhoLists", spec := "whoLists", inPlace := ["internal/bytealg.IndexByteString", "internal/bytealg.IndexString"], unfollowed := true, recurses := true, named := ["unicode/utf8.first", "unicode/utf8.acceptRanges", "internal/bytealg.MaxLen"], apart := false, laid := [("unicode/utf8.acceptRanges", laid_unicode_utf8_acceptRanges), ("unicode/utf8.first", laid_unicode_utf8_first)] }
def WhoListsSaid : Prop := whoListsRow.holds Tryd.pinned (OpenSpec.ofChange whoListsSpec)

/-- ITS FALSE NEIGHBOUR: 'it returns false'. Refute it at one input. -/
def whoListsWrong : ChangeSpec := { name := "whoLists", fn := fun _ => fun
  | [d] => { results := [.lit (.bool false)], args := [d] }
  | _ => none }
def WhoListsWrongFalsely : Prop := whoListsRow.holds Tryd.pinned (OpenSpec.ofChange whoListsWrong)

/-- 'postroomkeep.WhoBack': WHATEVER THE INPUT: true; the input reads as it did. -/
def whoBackSpec : ChangeSpec := { name := "whoBack", fn := fun _ => fun
  | [d] => { results := [.lit (.bool true)], args := [d] }
  | _ => none }
def whoBackRow : OpenClaim := { program := "ytmcpipgjckgjgaadoor", sum := "ba49c2f4e7dd152acf8dc6084c0531194a44dff8bec183d9b84a5235709cdc01", func := "postroom/postroomkeep.WhoBack", spec := "whoBack", inPlace := ["internal/bytealg.IndexByteString", "internal/bytealg.IndexString"], unfollowed := true, recurses := true, named := ["internal/bytealg.MaxLen", "unicode/utf8.first", "unicode/utf8.acceptRanges"], apart := false, laid := [("unicode/utf8.acceptRanges", laid_unicode_utf8_acceptRanges), ("unicode/utf8.first", laid_unicode_utf8_first)] }
def WhoBackSaid : Prop := whoBackRow.holds Tryd.pinned (OpenSpec.ofChange whoBackSpec)

/-- ITS FALSE NEIGHBOUR: 'it returns false'. Refute it at one input. -/
def whoBackWrong : ChangeSpec := { name := "whoBack", fn := fun _ => fun
  | [d] => { results := [.lit (.bool false)], args := [d] }
  | _ => none }
def WhoBackWrongFalsely : Prop := whoBackRow.holds Tryd.pinned (OpenSpec.ofChange whoBackWrong)

/-- 'postroomkeep.WhoMany': WHATEVER THE INPUT: true; the input reads as it did. -/
def whoManySpec : ChangeSpec := { name := "whoMany", fn := fun _ => fun
  | [d] => { results := [.lit (.bool true)], args := [d] }
  | _ => none }
def whoManyRow : OpenClaim := { program := "ytmcpipgjckgjgaadoor", sum := "ba49c2f4e7dd152acf8dc6084c0531194a44dff8bec183d9b84a5235709cdc01", func := "postroom/postroomkeep.WhoMany", spec := "whoMany", inPlace := ["internal/bytealg.IndexByteString", "internal/bytealg.IndexString"], unfollowed := true, recurses := true, named := ["unicode/utf8.first", "unicode/utf8.acceptRanges", "internal/bytealg.MaxLen"], apart := false, laid := [("unicode/utf8.acceptRanges", laid_unicode_utf8_acceptRanges), ("unicode/utf8.first", laid_unicode_utf8_first)] }
def WhoManySaid : Prop := whoManyRow.holds Tryd.pinned (OpenSpec.ofChange whoManySpec)

/-- ITS FALSE NEIGHBOUR: 'it returns false'. Refute it at one input. -/
def whoManyWrong : ChangeSpec := { name := "whoMany", fn := fun _ => fun
  | [d] => { results := [.lit (.bool false)], args := [d] }
  | _ => none }
def WhoManyWrongFalsely : Prop := whoManyRow.holds Tryd.pinned (OpenSpec.ofChange whoManyWrong)

/-- 'postroomkeep.WhoBad': WHATEVER THE INPUT: true; the input reads as it did. -/
def whoBadSpec : ChangeSpec := { name := "whoBad", fn := fun _ => fun
  | [d1, d2] => { results := [.lit (.bool true)], args := [d1, d2] }
  | _ => none }
def whoBadRow : OpenClaim := { program := "ytmcpipgjckgjgaadoor", sum := "ba49c2f4e7dd152acf8dc6084c0531194a44dff8bec183d9b84a5235709cdc01", func := "postroom/postroomkeep.WhoBad", spec := "whoBad", inPlace := ["internal/bytealg.IndexByteString", "internal/bytealg.IndexString"], unfollowed := true, recurses := true, named := ["internal/bytealg.MaxLen", "unicode/utf8.first", "unicode/utf8.acceptRanges"], apart := false, laid := [("unicode/utf8.acceptRanges", laid_unicode_utf8_acceptRanges), ("unicode/utf8.first", laid_unicode_utf8_first)] }
def WhoBadSaid : Prop := whoBadRow.holds Tryd.pinned (OpenSpec.ofChange whoBadSpec)

/-- ITS FALSE NEIGHBOUR: 'it returns false'. Refute it at one input. -/
def whoBadWrong : ChangeSpec := { name := "whoBad", fn := fun _ => fun
  | [d1, d2] => { results := [.lit (.bool false)], args := [d1, d2] }
  | _ => none }
def WhoBadWrongFalsely : Prop := whoBadRow.holds Tryd.pinned (OpenSpec.ofChange whoBadWrong)

/- THE SECOND FORM. 'bulk': how many values and letters a reading holds, each counted each time it is reached (what is shared counts as often as it is met; a slice's spare places count too). A statement '..UptoSaid' is the law's where the arguments, and the package variables that the reading takes, are together of bulk at most 1048576: NARROWER than '..Said'. Prove '..Said' where nothing that the law and all that it calls make is longer than what came in: it says more and counts as full. Else prove '..UptoSaid'. A law counts once. -/
mutual
def uptoBulk {H : Type} : DataW H → Nat
  | .lit (.string bytes) => bytes.length + 1
  | .lit _ => 1
  | .nil => 1
  | .ptr d => uptoBulk d + 1
  | .slice elems spare => uptoBulkAll elems + uptoBulkAll spare + 1
  | .agg parts => uptoBulkAll parts + 1
  | .iface _ d => uptoBulk d + 1
  | .map entries => uptoBulkEntries entries + 1
  | .held _ => 1
def uptoBulkAll {H : Type} : List (DataW H) → Nat
  | [] => 0
  | d :: r => uptoBulk d + uptoBulkAll r
def uptoBulkEntries {H : Type} : List (Lit × DataW H) → Nat
  | [] => 0
  | x :: r => uptoBulkEntry x + uptoBulkEntries r
def uptoBulkEntry {H : Type} : Lit × DataW H → Nat
  | (.string bytes, d) => bytes.length + uptoBulk d + 1
  | (_, d) => uptoBulk d + 1
 end
def uptoSmall : (H : Type) → List (DataW H) → Bool := fun _ ds => decide (uptoBulkAll ds ≤ 1048576)
def OpenSpec.upto (s : _root_.Go.ChangeSpec) : _root_.Go.OpenSpec := { _root_.Go.OpenSpec.ofChange s with cond := some uptoSmall }

/-- 'postroomlaw.WhoLists', WHERE WHAT IT READS IS OF BULK AT MOST 1048576: true; the input reads as it did. -/
def whoListsUptoRow : OpenClaim := { program := "ytmcpipgjckgjgaadoor", sum := "ba49c2f4e7dd152acf8dc6084c0531194a44dff8bec183d9b84a5235709cdc01", func := "postroom/postroomlaw.WhoLists", spec := "whoLists", inPlace := ["internal/bytealg.IndexByteString", "internal/bytealg.IndexString"], unfollowed := true, recurses := true, named := ["unicode/utf8.first", "unicode/utf8.acceptRanges", "internal/bytealg.MaxLen"], apart := false, laid := [("unicode/utf8.acceptRanges", laid_unicode_utf8_acceptRanges), ("unicode/utf8.first", laid_unicode_utf8_first)], narrowed := true }
def WhoListsUptoSaid : Prop := whoListsUptoRow.holds Tryd.pinned (OpenSpec.upto whoListsSpec)

/-- 'postroomkeep.WhoBack', WHERE WHAT IT READS IS OF BULK AT MOST 1048576: true; the input reads as it did. -/
def whoBackUptoRow : OpenClaim := { program := "ytmcpipgjckgjgaadoor", sum := "ba49c2f4e7dd152acf8dc6084c0531194a44dff8bec183d9b84a5235709cdc01", func := "postroom/postroomkeep.WhoBack", spec := "whoBack", inPlace := ["internal/bytealg.IndexByteString", "internal/bytealg.IndexString"], unfollowed := true, recurses := true, named := ["internal/bytealg.MaxLen", "unicode/utf8.first", "unicode/utf8.acceptRanges"], apart := false, laid := [("unicode/utf8.acceptRanges", laid_unicode_utf8_acceptRanges), ("unicode/utf8.first", laid_unicode_utf8_first)], narrowed := true }
def WhoBackUptoSaid : Prop := whoBackUptoRow.holds Tryd.pinned (OpenSpec.upto whoBackSpec)

/-- 'postroomkeep.WhoMany', WHERE WHAT IT READS IS OF BULK AT MOST 1048576: true; the input reads as it did. -/
def whoManyUptoRow : OpenClaim := { program := "ytmcpipgjckgjgaadoor", sum := "ba49c2f4e7dd152acf8dc6084c0531194a44dff8bec183d9b84a5235709cdc01", func := "postroom/postroomkeep.WhoMany", spec := "whoMany", inPlace := ["internal/bytealg.IndexByteString", "internal/bytealg.IndexString"], unfollowed := true, recurses := true, named := ["unicode/utf8.first", "unicode/utf8.acceptRanges", "internal/bytealg.MaxLen"], apart := false, laid := [("unicode/utf8.acceptRanges", laid_unicode_utf8_acceptRanges), ("unicode/utf8.first", laid_unicode_utf8_first)], narrowed := true }
def WhoManyUptoSaid : Prop := whoManyUptoRow.holds Tryd.pinned (OpenSpec.upto whoManySpec)

/-- 'postroomkeep.WhoBad', WHERE WHAT IT READS IS OF BULK AT MOST 1048576: true; the input reads as it did. -/
def whoBadUptoRow : OpenClaim := { program := "ytmcpipgjckgjgaadoor", sum := "ba49c2f4e7dd152acf8dc6084c0531194a44dff8bec183d9b84a5235709cdc01", func := "postroom/postroomkeep.WhoBad", spec := "whoBad", inPlace := ["internal/bytealg.IndexByteString", "internal/bytealg.IndexString"], unfollowed := true, recurses := true, named := ["internal/bytealg.MaxLen", "unicode/utf8.first", "unicode/utf8.acceptRanges"], apart := false, laid := [("unicode/utf8.acceptRanges", laid_unicode_utf8_acceptRanges), ("unicode/utf8.first", laid_unicode_utf8_first)], narrowed := true }
def WhoBadUptoSaid : Prop := whoBadUptoRow.holds Tryd.pinned (OpenSpec.upto whoBadSpec)

end Rows
end Go.Proofs.YtmcpipgjckgjgaaDoor
