/-
  NARROWER THAN 'FOR EVERY INPUT', by the rows' own cells (each row's printed sentence says how): TopQuit: laid · TopSame: laid · TopQuota: laid.
  DERIVED. THE GIVEN ROWS OF THIS SEAT. 3 by the template 'for every input the law returns true; each argument reads behind the call as it read before'; 0 by the template 'total and deterministic' (their statements: YtjdkbdkimbgbfaaGreatDoorTotals.lean).
  GIVEN WITH THE SEED: the statements are not yours to turn. If you find one false, say at which input.
  Laid BY PROGRAM, IN A SANDBOX (cutbox-rows.mjs): the forced cells as the released guide's own fill.sh prints them over the translation 077195d6e0660e3b… (all of the seat's roots in one cut). By AI agents, Wed Nov 11 2026. No macro, syntax, notation, axiom, sorry.
-/
import Derived.Test.YtjdkbdkimbgbfaaGreatDoorChecked
import GoSem.PinnedTables
import GoSem.Claim
import GoSem.ClaimJoined
import GoSem.ClaimMapViews
import Derived.JoinedTies
import Derived.KernelRfl
namespace Go.Proofs.YtjdkbdkimbgbfaaGreatDoor
/- THE CELL 'sum', in the pinned program and in every row, IS THE sha256 OF THE DUMP (.gsa) THAT YtjdkbdkimbgbfaaGreatDoorProg.lean LOADS. Nothing in Lean hashes anything: it is a label: what it is worth is what the hold of that sum in a sandbox is worth. -/
noncomputable def Tryz.pinned : Pinned := { name := "ytjdkbdkimbgbfaagreatdoor", sum := "077195d6e0660e3bdbbc8e464a68e058a40c2c73efbfa3c8225c559e5d18b236", checked := Tryz.checked }
namespace Rows
def none {H : Type} : Left H := { results := [], args := [] }

/- WHAT THE LISTED PACKAGE-LEVEL VARIABLES READ AS WHEN THE CALL BEGINS. Each datum BY PROGRAM (the guide's laid-datum.mjs) off the statement by which the dump's own 'gosem.cut.vars' lays the variable. In a bare row this is a premise. The card (YtjdkbdkimbgbfaaGreatDoorCards.lean) ties it to the program's text. -/
def laid_unicode_utf8_acceptRanges {H : Type} : DataW H := .agg [.agg [.lit (.int .u8 128), .lit (.int .u8 191)], .agg [.lit (.int .u8 160), .lit (.int .u8 191)], .agg [.lit (.int .u8 128), .lit (.int .u8 159)], .agg [.lit (.int .u8 144), .lit (.int .u8 191)], .agg [.lit (.int .u8 128), .lit (.int .u8 143)], .agg [.lit (.int .u8 0), .lit (.int .u8 0)], .agg [.lit (.int .u8 0), .lit (.int .u8 0)], .agg [.lit (.int .u8 0), .lit (.int .u8 0)], .agg [.lit (.int .u8 0), .lit (.int .u8 0)], .agg [.lit (.int .u8 0), .lit (.int .u8 0)], .agg [.lit (.int .u8 0), .lit (.int .u8 0)], .agg [.lit (.int .u8 0), .lit (.int .u8 0)], .agg [.lit (.int .u8 0), .lit (.int .u8 0)], .agg [.lit (.int .u8 0), .lit (.int .u8 0)], .agg [.lit (.int .u8 0), .lit (.int .u8 0)], .agg [.lit (.int .u8 0), .lit (.int .u8 0)]]
def laid_postroom_script_words {H : Type} : DataW H := .agg [.agg [.lit (.string []), .lit (.string [114, 101, 113, 117, 105, 114, 101]), .lit (.string [105, 102]), .lit (.string [107, 101, 101, 112]), .lit (.string [100, 105, 115, 99, 97, 114, 100]), .lit (.string [102, 105, 108, 101, 105, 110, 116, 111]), .lit (.string [114, 101, 100, 105, 114, 101, 99, 116]), .lit (.string [114, 101, 106, 101, 99, 116]), .lit (.string [115, 101, 116, 102, 108, 97, 103]), .lit (.string [97, 100, 100, 102, 108, 97, 103]), .lit (.string [115, 116, 111, 112])], .agg [.lit (.string []), .lit (.string [116, 114, 117, 101]), .lit (.string [102, 97, 108, 115, 101]), .lit (.string [110, 111, 116]), .lit (.string [97, 108, 108, 111, 102]), .lit (.string [97, 110, 121, 111, 102]), .lit (.string [104, 101, 97, 100, 101, 114]), .lit (.string [97, 100, 100, 114, 101, 115, 115]), .lit (.string [101, 110, 118, 101, 108, 111, 112, 101]), .lit (.string [101, 120, 105, 115, 116, 115]), .lit (.string [115, 105, 122, 101])], .agg [.lit (.string []), .lit (.string [105, 115]), .lit (.string [99, 111, 110, 116, 97, 105, 110, 115]), .lit (.string [109, 97, 116, 99, 104, 101, 115]), .lit (.string []), .lit (.string []), .lit (.string []), .lit (.string []), .lit (.string []), .lit (.string []), .lit (.string [])], .agg [.lit (.string []), .lit (.string [97, 108, 108]), .lit (.string [108, 111, 99, 97, 108, 112, 97, 114, 116]), .lit (.string [100, 111, 109, 97, 105, 110]), .lit (.string []), .lit (.string []), .lit (.string []), .lit (.string []), .lit (.string []), .lit (.string []), .lit (.string [])]]
def laid_postroom_rule_requirable {H : Type} : DataW H := .agg [.lit (.string [102, 105, 108, 101, 105, 110, 116, 111]), .lit (.string [114, 101, 106, 101, 99, 116]), .lit (.string [101, 110, 118, 101, 108, 111, 112, 101]), .lit (.string [105, 109, 97, 112, 52, 102, 108, 97, 103, 115])]
def laid_postroom_rule_neededFor {H : Type} : DataW H := .agg [.lit (.string []), .lit (.string []), .lit (.string []), .lit (.string []), .lit (.string []), .lit (.string [102, 105, 108, 101, 105, 110, 116, 111]), .lit (.string []), .lit (.string [114, 101, 106, 101, 99, 116]), .lit (.string [105, 109, 97, 112, 52, 102, 108, 97, 103, 115]), .lit (.string [105, 109, 97, 112, 52, 102, 108, 97, 103, 115]), .lit (.string [])]
def laid_postroom_rule_envelopeParts {H : Type} : DataW H := .agg [.lit (.string [102, 114, 111, 109]), .lit (.string [116, 111])]
def laid_postroom_rule_flagNames {H : Type} : DataW H := .agg [.agg [.lit (.string [92, 83, 101, 101, 110]), .lit (.int .i64 1)], .agg [.lit (.string [92, 65, 110, 115, 119, 101, 114, 101, 100]), .lit (.int .i64 2)], .agg [.lit (.string [92, 70, 108, 97, 103, 103, 101, 100]), .lit (.int .i64 4)], .agg [.lit (.string [92, 68, 101, 108, 101, 116, 101, 100]), .lit (.int .i64 8)], .agg [.lit (.string [92, 68, 114, 97, 102, 116]), .lit (.int .i64 16)]]
/-- One of Go's own tables, pinned by name: the form's constant. -/
def laid_unicode_utf8_first : DataW Unit := Go.Pinned.utf8First

/-- 'postroomtop.TopQuit': WHATEVER THE INPUT: true; the input reads as it did. -/
def topQuitSpec : ChangeSpec := { name := "topQuit", fn := fun _ => fun
  | [d] => { results := [.lit (.bool true)], args := [d] }
  | _ => none }
def topQuitRow : OpenClaim := { program := "ytjdkbdkimbgbfaagreatdoor", sum := "077195d6e0660e3bdbbc8e464a68e058a40c2c73efbfa3c8225c559e5d18b236", func := "postroom/postroomtop.TopQuit", spec := "topQuit", inPlace := ["internal/bytealg.IndexByteString", "internal/bytealg.IndexString"], unfollowed := true, recurses := true, named := ["unicode/utf8.first", "unicode/utf8.acceptRanges", "internal/bytealg.MaxLen", "postroom/script.words", "postroom/rule.requirable", "postroom/rule.neededFor", "postroom/rule.flagNames", "postroom/rule.envelopeParts"], apart := false, laid := [("unicode/utf8.acceptRanges", laid_unicode_utf8_acceptRanges), ("postroom/script.words", laid_postroom_script_words), ("postroom/rule.requirable", laid_postroom_rule_requirable), ("postroom/rule.neededFor", laid_postroom_rule_neededFor), ("postroom/rule.envelopeParts", laid_postroom_rule_envelopeParts), ("postroom/rule.flagNames", laid_postroom_rule_flagNames), ("unicode/utf8.first", laid_unicode_utf8_first)] }
def TopQuitSaid : Prop := topQuitRow.holds Tryz.pinned (OpenSpec.ofChange topQuitSpec)

/-- ITS FALSE NEIGHBOUR: 'it returns false'. Refute it at one input. -/
def topQuitWrong : ChangeSpec := { name := "topQuit", fn := fun _ => fun
  | [d] => { results := [.lit (.bool false)], args := [d] }
  | _ => none }
def TopQuitWrongFalsely : Prop := topQuitRow.holds Tryz.pinned (OpenSpec.ofChange topQuitWrong)

/-- 'postroomtop.TopSame': WHATEVER THE INPUT: true; the input reads as it did. -/
def topSameSpec : ChangeSpec := { name := "topSame", fn := fun _ => fun
  | [d1, d2] => { results := [.lit (.bool true)], args := [d1, d2] }
  | _ => none }
def topSameRow : OpenClaim := { program := "ytjdkbdkimbgbfaagreatdoor", sum := "077195d6e0660e3bdbbc8e464a68e058a40c2c73efbfa3c8225c559e5d18b236", func := "postroom/postroomtop.TopSame", spec := "topSame", inPlace := ["internal/bytealg.IndexByteString", "internal/bytealg.IndexString"], unfollowed := true, recurses := true, named := ["unicode/utf8.first", "unicode/utf8.acceptRanges", "internal/bytealg.MaxLen", "postroom/script.words", "postroom/rule.requirable", "postroom/rule.neededFor", "postroom/rule.flagNames", "postroom/rule.envelopeParts"], apart := false, laid := [("unicode/utf8.acceptRanges", laid_unicode_utf8_acceptRanges), ("postroom/script.words", laid_postroom_script_words), ("postroom/rule.requirable", laid_postroom_rule_requirable), ("postroom/rule.neededFor", laid_postroom_rule_neededFor), ("postroom/rule.envelopeParts", laid_postroom_rule_envelopeParts), ("postroom/rule.flagNames", laid_postroom_rule_flagNames), ("unicode/utf8.first", laid_unicode_utf8_first)] }
def TopSameSaid : Prop := topSameRow.holds Tryz.pinned (OpenSpec.ofChange topSameSpec)

/-- ITS FALSE NEIGHBOUR: 'it returns false'. Refute it at one input. -/
def topSameWrong : ChangeSpec := { name := "topSame", fn := fun _ => fun
  | [d1, d2] => { results := [.lit (.bool false)], args := [d1, d2] }
  | _ => none }
def TopSameWrongFalsely : Prop := topSameRow.holds Tryz.pinned (OpenSpec.ofChange topSameWrong)

/-- 'postroomtop.TopQuota': WHATEVER THE INPUT: true; the input reads as it did. -/
def topQuotaSpec : ChangeSpec := { name := "topQuota", fn := fun _ => fun
  | [d1, d2] => { results := [.lit (.bool true)], args := [d1, d2] }
  | _ => none }
def topQuotaRow : OpenClaim := { program := "ytjdkbdkimbgbfaagreatdoor", sum := "077195d6e0660e3bdbbc8e464a68e058a40c2c73efbfa3c8225c559e5d18b236", func := "postroom/postroomtop.TopQuota", spec := "topQuota", inPlace := ["internal/bytealg.IndexByteString", "internal/bytealg.IndexString"], unfollowed := true, recurses := true, named := ["unicode/utf8.first", "unicode/utf8.acceptRanges", "internal/bytealg.MaxLen", "postroom/script.words", "postroom/rule.requirable", "postroom/rule.neededFor", "postroom/rule.flagNames", "postroom/rule.envelopeParts"], apart := false, laid := [("unicode/utf8.acceptRanges", laid_unicode_utf8_acceptRanges), ("postroom/script.words", laid_postroom_script_words), ("postroom/rule.requirable", laid_postroom_rule_requirable), ("postroom/rule.neededFor", laid_postroom_rule_neededFor), ("postroom/rule.envelopeParts", laid_postroom_rule_envelopeParts), ("postroom/rule.flagNames", laid_postroom_rule_flagNames), ("unicode/utf8.first", laid_unicode_utf8_first)] }
def TopQuotaSaid : Prop := topQuotaRow.holds Tryz.pinned (OpenSpec.ofChange topQuotaSpec)

/-- ITS FALSE NEIGHBOUR: 'it returns false'. Refute it at one input. -/
def topQuotaWrong : ChangeSpec := { name := "topQuota", fn := fun _ => fun
  | [d1, d2] => { results := [.lit (.bool false)], args := [d1, d2] }
  | _ => none }
def TopQuotaWrongFalsely : Prop := topQuotaRow.holds Tryz.pinned (OpenSpec.ofChange topQuotaWrong)

/- THE SECOND FORM. 'bulk': how many values and letters a reading holds, each counted each time it is reached (what is shared counts as often as it is met; a slice's spare places count too). A statement '..UptoSaid' is the law's where the arguments, and the package variables that the reading takes, are together of bulk at most 1048576: NARROWER than '..Said'. Prove '..Said' where nothing that the law and all that it calls make is longer than what came in: it says more and counts as full. Else prove '..UptoSaid'. A law counts once. -/
mutual
def uptoBulk {H : Type} : DataW H → Nat
  | .lit (.string bytes) => bytes.length + 1
  | .lit _ => 1
  | .nil => 1
  | .ptr d => uptoBulk d + 1
  | .slice elems spare => uptoBulkAll elems + uptoBulkAll spare + 1
  | .agg parts => uptoBulkAll parts + 1
  | .iface _ d => uptoBulk d + 1
  | .map entries => uptoBulkEntries entries + 1
  | .held _ => 1
def uptoBulkAll {H : Type} : List (DataW H) → Nat
  | [] => 0
  | d :: r => uptoBulk d + uptoBulkAll r
def uptoBulkEntries {H : Type} : List (Lit × DataW H) → Nat
  | [] => 0
  | x :: r => uptoBulkEntry x + uptoBulkEntries r
def uptoBulkEntry {H : Type} : Lit × DataW H → Nat
  | (.string bytes, d) => bytes.length + uptoBulk d + 1
  | (_, d) => uptoBulk d + 1
 end
def uptoSmall : (H : Type) → List (DataW H) → Bool := fun _ ds => decide (uptoBulkAll ds ≤ 1048576)
def OpenSpec.upto (s : _root_.Go.ChangeSpec) : _root_.Go.OpenSpec := { _root_.Go.OpenSpec.ofChange s with cond := some uptoSmall }

/-- 'postroomtop.TopQuit', WHERE WHAT IT READS IS OF BULK AT MOST 1048576: true; the input reads as it did. -/
def topQuitUptoRow : OpenClaim := { program := "ytjdkbdkimbgbfaagreatdoor", sum := "077195d6e0660e3bdbbc8e464a68e058a40c2c73efbfa3c8225c559e5d18b236", func := "postroom/postroomtop.TopQuit", spec := "topQuit", inPlace := ["internal/bytealg.IndexByteString", "internal/bytealg.IndexString"], unfollowed := true, recurses := true, named := ["unicode/utf8.first", "unicode/utf8.acceptRanges", "internal/bytealg.MaxLen", "postroom/script.words", "postroom/rule.requirable", "postroom/rule.neededFor", "postroom/rule.flagNames", "postroom/rule.envelopeParts"], apart := false, laid := [("unicode/utf8.acceptRanges", laid_unicode_utf8_acceptRanges), ("postroom/script.words", laid_postroom_script_words), ("postroom/rule.requirable", laid_postroom_rule_requirable), ("postroom/rule.neededFor", laid_postroom_rule_neededFor), ("postroom/rule.envelopeParts", laid_postroom_rule_envelopeParts), ("postroom/rule.flagNames", laid_postroom_rule_flagNames), ("unicode/utf8.first", laid_unicode_utf8_first)], narrowed := true }
def TopQuitUptoSaid : Prop := topQuitUptoRow.holds Tryz.pinned (OpenSpec.upto topQuitSpec)

/-- 'postroomtop.TopSame', WHERE WHAT IT READS IS OF BULK AT MOST 1048576: true; the input reads as it did. -/
def topSameUptoRow : OpenClaim := { program := "ytjdkbdkimbgbfaagreatdoor", sum := "077195d6e0660e3bdbbc8e464a68e058a40c2c73efbfa3c8225c559e5d18b236", func := "postroom/postroomtop.TopSame", spec := "topSame", inPlace := ["internal/bytealg.IndexByteString", "internal/bytealg.IndexString"], unfollowed := true, recurses := true, named := ["unicode/utf8.first", "unicode/utf8.acceptRanges", "internal/bytealg.MaxLen", "postroom/script.words", "postroom/rule.requirable", "postroom/rule.neededFor", "postroom/rule.flagNames", "postroom/rule.envelopeParts"], apart := false, laid := [("unicode/utf8.acceptRanges", laid_unicode_utf8_acceptRanges), ("postroom/script.words", laid_postroom_script_words), ("postroom/rule.requirable", laid_postroom_rule_requirable), ("postroom/rule.neededFor", laid_postroom_rule_neededFor), ("postroom/rule.envelopeParts", laid_postroom_rule_envelopeParts), ("postroom/rule.flagNames", laid_postroom_rule_flagNames), ("unicode/utf8.first", laid_unicode_utf8_first)], narrowed := true }
def TopSameUptoSaid : Prop := topSameUptoRow.holds Tryz.pinned (OpenSpec.upto topSameSpec)

/-- 'postroomtop.TopQuota', WHERE WHAT IT READS IS OF BULK AT MOST 1048576: true; the input reads as it did. -/
def topQuotaUptoRow : OpenClaim := { program := "ytjdkbdkimbgbfaagreatdoor", sum := "077195d6e0660e3bdbbc8e464a68e058a40c2c73efbfa3c8225c559e5d18b236", func := "postroom/postroomtop.TopQuota", spec := "topQuota", inPlace := ["internal/bytealg.IndexByteString", "internal/bytealg.IndexString"], unfollowed := true, recurses := true, named := ["unicode/utf8.first", "unicode/utf8.acceptRanges", "internal/bytealg.MaxLen", "postroom/script.words", "postroom/rule.requirable", "postroom/rule.neededFor", "postroom/rule.flagNames", "postroom/rule.envelopeParts"], apart := false, laid := [("unicode/utf8.acceptRanges", laid_unicode_utf8_acceptRanges), ("postroom/script.words", laid_postroom_script_words), ("postroom/rule.requirable", laid_postroom_rule_requirable), ("postroom/rule.neededFor", laid_postroom_rule_neededFor), ("postroom/rule.envelopeParts", laid_postroom_rule_envelopeParts), ("postroom/rule.flagNames", laid_postroom_rule_flagNames), ("unicode/utf8.first", laid_unicode_utf8_first)], narrowed := true }
def TopQuotaUptoSaid : Prop := topQuotaUptoRow.holds Tryz.pinned (OpenSpec.upto topQuotaSpec)

end Rows
end Go.Proofs.YtjdkbdkimbgbfaaGreatDoor
