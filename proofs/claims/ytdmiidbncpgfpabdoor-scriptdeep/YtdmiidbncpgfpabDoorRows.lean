/-
  NARROWER THAN 'FOR EVERY INPUT', by the rows' own cells (each row's printed sentence says how): ScriptDeep: laid · ScriptTags: loops, laid · ScriptElse: loops, laid.
  DERIVED. THE GIVEN ROWS OF THIS SEAT. 3 by the template 'for every input the law returns true; each argument reads behind the call as it read before'; 0 by the template 'total and deterministic' (their statements: YtdmiidbncpgfpabDoorTotals.lean).
  GIVEN WITH THE SEED: the statements are not yours to turn. If you find one false, say at which input.
  Laid BY PROGRAM, IN A SANDBOX (cutbox-rows.mjs): the forced cells as the released guide's own fill.sh prints them over the translation 445b71f354ab0f8a… (all of the seat's roots in one cut). By AI agents, Wed Nov 11 2026. No macro, syntax, notation, axiom, sorry.
-/
import Derived.Test.YtdmiidbncpgfpabDoorChecked
import GoSem.Claim
import GoSem.ClaimJoined
import GoSem.ClaimMapViews
import Derived.JoinedTies
import Derived.KernelRfl
namespace Go.Proofs.YtdmiidbncpgfpabDoor
/- THE CELL 'sum', in the pinned program and in every row, IS THE sha256 OF THE DUMP (.gsa) THAT YtdmiidbncpgfpabDoorProg.lean LOADS. Nothing in Lean hashes anything: it is a label: what it is worth is what the hold of that sum in a sandbox is worth. -/
noncomputable def Tryd.pinned : Pinned := { name := "ytdmiidbncpgfpabdoor", sum := "445b71f354ab0f8a0cc628ddcf08cf33a8d7d9ba7cc7402200b5b62d28887f2b", checked := Tryd.checked }
namespace Rows
def none {H : Type} : Left H := { results := [], args := [] }

/- WHAT THE LISTED PACKAGE-LEVEL VARIABLES READ AS WHEN THE CALL BEGINS. Each datum BY PROGRAM (the guide's laid-datum.mjs) off the statement by which the dump's own 'gosem.cut.vars' lays the variable. In a bare row this is a premise. The card (YtdmiidbncpgfpabDoorCards.lean) ties it to the program's text. -/
def laid_postroom_script_words {H : Type} : DataW H := .agg [.agg [.lit (.string []), .lit (.string [114, 101, 113, 117, 105, 114, 101]), .lit (.string [105, 102]), .lit (.string [107, 101, 101, 112]), .lit (.string [100, 105, 115, 99, 97, 114, 100]), .lit (.string [102, 105, 108, 101, 105, 110, 116, 111]), .lit (.string [114, 101, 100, 105, 114, 101, 99, 116]), .lit (.string [114, 101, 106, 101, 99, 116]), .lit (.string [115, 101, 116, 102, 108, 97, 103]), .lit (.string [97, 100, 100, 102, 108, 97, 103]), .lit (.string [115, 116, 111, 112])], .agg [.lit (.string []), .lit (.string [116, 114, 117, 101]), .lit (.string [102, 97, 108, 115, 101]), .lit (.string [110, 111, 116]), .lit (.string [97, 108, 108, 111, 102]), .lit (.string [97, 110, 121, 111, 102]), .lit (.string [104, 101, 97, 100, 101, 114]), .lit (.string [97, 100, 100, 114, 101, 115, 115]), .lit (.string [101, 110, 118, 101, 108, 111, 112, 101]), .lit (.string [101, 120, 105, 115, 116, 115]), .lit (.string [115, 105, 122, 101])], .agg [.lit (.string []), .lit (.string [105, 115]), .lit (.string [99, 111, 110, 116, 97, 105, 110, 115]), .lit (.string [109, 97, 116, 99, 104, 101, 115]), .lit (.string []), .lit (.string []), .lit (.string []), .lit (.string []), .lit (.string []), .lit (.string []), .lit (.string [])], .agg [.lit (.string []), .lit (.string [97, 108, 108]), .lit (.string [108, 111, 99, 97, 108, 112, 97, 114, 116]), .lit (.string [100, 111, 109, 97, 105, 110]), .lit (.string []), .lit (.string []), .lit (.string []), .lit (.string []), .lit (.string []), .lit (.string []), .lit (.string [])]]

/-- 'postroomkeep.ScriptDeep': WHATEVER THE INPUT: true; the input reads as it did. -/
def scriptDeepSpec : ChangeSpec := { name := "scriptDeep", fn := fun _ => fun
  | [d1, d2] => { results := [.lit (.bool true)], args := [d1, d2] }
  | _ => none }
def scriptDeepRow : OpenClaim := { program := "ytdmiidbncpgfpabdoor", sum := "445b71f354ab0f8a0cc628ddcf08cf33a8d7d9ba7cc7402200b5b62d28887f2b", func := "postroom/postroomkeep.ScriptDeep", spec := "scriptDeep", recurses := true, named := ["postroom/script.words"], apart := false, laid := [("postroom/script.words", laid_postroom_script_words)] }
def ScriptDeepSaid : Prop := scriptDeepRow.holds Tryd.pinned (OpenSpec.ofChange scriptDeepSpec)

/-- ITS FALSE NEIGHBOUR: 'it returns false'. Refute it at one input. -/
def scriptDeepWrong : ChangeSpec := { name := "scriptDeep", fn := fun _ => fun
  | [d1, d2] => { results := [.lit (.bool false)], args := [d1, d2] }
  | _ => none }
def ScriptDeepWrongFalsely : Prop := scriptDeepRow.holds Tryd.pinned (OpenSpec.ofChange scriptDeepWrong)

/-- 'postroomkeep.ScriptTags': WHATEVER THE INPUT: true; the input reads as it did. -/
def scriptTagsSpec : ChangeSpec := { name := "scriptTags", fn := fun _ => fun
  | [d] => { results := [.lit (.bool true)], args := [d] }
  | _ => none }
def scriptTagsRow : OpenClaim := { program := "ytdmiidbncpgfpabdoor", sum := "445b71f354ab0f8a0cc628ddcf08cf33a8d7d9ba7cc7402200b5b62d28887f2b", func := "postroom/postroomkeep.ScriptTags", spec := "scriptTags", inPlace := ["internal/bytealg.IndexByteString", "internal/bytealg.IndexString"], unfollowed := true, recurses := true, named := ["internal/bytealg.MaxLen", "postroom/script.words"], loops := true, apart := false, laid := [("postroom/script.words", laid_postroom_script_words)] }
def ScriptTagsSaid : Prop := scriptTagsRow.holds Tryd.pinned (OpenSpec.ofChange scriptTagsSpec)

/-- ITS FALSE NEIGHBOUR: 'it returns false'. Refute it at one input. -/
def scriptTagsWrong : ChangeSpec := { name := "scriptTags", fn := fun _ => fun
  | [d] => { results := [.lit (.bool false)], args := [d] }
  | _ => none }
def ScriptTagsWrongFalsely : Prop := scriptTagsRow.holds Tryd.pinned (OpenSpec.ofChange scriptTagsWrong)

/-- 'postroomkeep.ScriptElse': WHATEVER THE INPUT: true; the input reads as it did. -/
def scriptElseSpec : ChangeSpec := { name := "scriptElse", fn := fun _ => fun
  | [d1, d2] => { results := [.lit (.bool true)], args := [d1, d2] }
  | _ => none }
def scriptElseRow : OpenClaim := { program := "ytdmiidbncpgfpabdoor", sum := "445b71f354ab0f8a0cc628ddcf08cf33a8d7d9ba7cc7402200b5b62d28887f2b", func := "postroom/postroomkeep.ScriptElse", spec := "scriptElse", recurses := true, named := ["postroom/script.words"], loops := true, apart := false, laid := [("postroom/script.words", laid_postroom_script_words)] }
def ScriptElseSaid : Prop := scriptElseRow.holds Tryd.pinned (OpenSpec.ofChange scriptElseSpec)

/-- ITS FALSE NEIGHBOUR: 'it returns false'. Refute it at one input. -/
def scriptElseWrong : ChangeSpec := { name := "scriptElse", fn := fun _ => fun
  | [d1, d2] => { results := [.lit (.bool false)], args := [d1, d2] }
  | _ => none }
def ScriptElseWrongFalsely : Prop := scriptElseRow.holds Tryd.pinned (OpenSpec.ofChange scriptElseWrong)

/- THE SECOND FORM. 'bulk': how many values and letters a reading holds, each counted each time it is reached (what is shared counts as often as it is met; a slice's spare places count too). A statement '..UptoSaid' is the law's where the arguments, and the package variables that the reading takes, are together of bulk at most 1048576: NARROWER than '..Said'. Prove '..Said' where nothing that the law and all that it calls make is longer than what came in: it says more and counts as full. Else prove '..UptoSaid'. A law counts once. -/
mutual
def uptoBulk {H : Type} : DataW H → Nat
  | .lit (.string bytes) => bytes.length + 1
  | .lit _ => 1
  | .nil => 1
  | .ptr d => uptoBulk d + 1
  | .slice elems spare => uptoBulkAll elems + uptoBulkAll spare + 1
  | .agg parts => uptoBulkAll parts + 1
  | .iface _ d => uptoBulk d + 1
  | .map entries => uptoBulkEntries entries + 1
  | .held _ => 1
def uptoBulkAll {H : Type} : List (DataW H) → Nat
  | [] => 0
  | d :: r => uptoBulk d + uptoBulkAll r
def uptoBulkEntries {H : Type} : List (Lit × DataW H) → Nat
  | [] => 0
  | x :: r => uptoBulkEntry x + uptoBulkEntries r
def uptoBulkEntry {H : Type} : Lit × DataW H → Nat
  | (.string bytes, d) => bytes.length + uptoBulk d + 1
  | (_, d) => uptoBulk d + 1
 end
def uptoSmall : (H : Type) → List (DataW H) → Bool := fun _ ds => decide (uptoBulkAll ds ≤ 1048576)
def OpenSpec.upto (s : _root_.Go.ChangeSpec) : _root_.Go.OpenSpec := { _root_.Go.OpenSpec.ofChange s with cond := some uptoSmall }

/-- 'postroomkeep.ScriptDeep', WHERE WHAT IT READS IS OF BULK AT MOST 1048576: true; the input reads as it did. -/
def scriptDeepUptoRow : OpenClaim := { program := "ytdmiidbncpgfpabdoor", sum := "445b71f354ab0f8a0cc628ddcf08cf33a8d7d9ba7cc7402200b5b62d28887f2b", func := "postroom/postroomkeep.ScriptDeep", spec := "scriptDeep", recurses := true, named := ["postroom/script.words"], apart := false, laid := [("postroom/script.words", laid_postroom_script_words)], narrowed := true }
def ScriptDeepUptoSaid : Prop := scriptDeepUptoRow.holds Tryd.pinned (OpenSpec.upto scriptDeepSpec)

/-- 'postroomkeep.ScriptTags', WHERE WHAT IT READS IS OF BULK AT MOST 1048576: true; the input reads as it did. -/
def scriptTagsUptoRow : OpenClaim := { program := "ytdmiidbncpgfpabdoor", sum := "445b71f354ab0f8a0cc628ddcf08cf33a8d7d9ba7cc7402200b5b62d28887f2b", func := "postroom/postroomkeep.ScriptTags", spec := "scriptTags", inPlace := ["internal/bytealg.IndexByteString", "internal/bytealg.IndexString"], unfollowed := true, recurses := true, named := ["internal/bytealg.MaxLen", "postroom/script.words"], loops := true, apart := false, laid := [("postroom/script.words", laid_postroom_script_words)], narrowed := true }
def ScriptTagsUptoSaid : Prop := scriptTagsUptoRow.holds Tryd.pinned (OpenSpec.upto scriptTagsSpec)

/-- 'postroomkeep.ScriptElse', WHERE WHAT IT READS IS OF BULK AT MOST 1048576: true; the input reads as it did. -/
def scriptElseUptoRow : OpenClaim := { program := "ytdmiidbncpgfpabdoor", sum := "445b71f354ab0f8a0cc628ddcf08cf33a8d7d9ba7cc7402200b5b62d28887f2b", func := "postroom/postroomkeep.ScriptElse", spec := "scriptElse", recurses := true, named := ["postroom/script.words"], loops := true, apart := false, laid := [("postroom/script.words", laid_postroom_script_words)], narrowed := true }
def ScriptElseUptoSaid : Prop := scriptElseUptoRow.holds Tryd.pinned (OpenSpec.upto scriptElseSpec)

end Rows
end Go.Proofs.YtdmiidbncpgfpabDoor
