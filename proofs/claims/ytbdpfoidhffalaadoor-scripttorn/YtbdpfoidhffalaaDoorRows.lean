/-
  NARROWER THAN 'FOR EVERY INPUT', by the rows' own cells (each row's printed sentence says how): ScriptChecks: loops, laid · ScriptShows: loops, laid · ScriptBack: loops, laid · ScriptTorn: loops, laid · ScriptElse: loops, laid · RuleFlags: laid.
  DERIVED. THE GIVEN ROWS OF THIS SEAT. 6 by the template 'for every input the law returns true; each argument reads behind the call as it read before'; 0 by the template 'total and deterministic' (their statements: YtbdpfoidhffalaaDoorTotals.lean).
  GIVEN WITH THE SEED: the statements are not yours to turn. If you find one false, say at which input.
  Laid BY PROGRAM, IN A SANDBOX (cutbox-rows.mjs): the forced cells as the released guide's own fill.sh prints them over the translation db8a0312878a7d4a… (all of the seat's roots in one cut). By AI agents, Wed Nov 11 2026. No macro, syntax, notation, axiom, sorry.
-/
import Derived.Test.YtbdpfoidhffalaaDoorChecked
import GoSem.Claim
import GoSem.ClaimJoined
import GoSem.ClaimMapViews
import Derived.JoinedTies
import Derived.KernelRfl
namespace Go.Proofs.YtbdpfoidhffalaaDoor
/- THE CELL 'sum', in the pinned program and in every row, IS THE sha256 OF THE DUMP (.gsa) THAT YtbdpfoidhffalaaDoorProg.lean LOADS. Nothing in Lean hashes anything: it is a label: what it is worth is what the hold of that sum in a sandbox is worth. -/
noncomputable def Tryd.pinned : Pinned := { name := "ytbdpfoidhffalaadoor", sum := "db8a0312878a7d4acaaf97684ae59bd1f74e1c56e7ae0b5684f68aab9342cd1e", checked := Tryd.checked }
namespace Rows
def none {H : Type} : Left H := { results := [], args := [] }

/- WHAT THE LISTED PACKAGE-LEVEL VARIABLES READ AS WHEN THE CALL BEGINS. Each datum BY PROGRAM (the guide's laid-datum.mjs) off the statement by which the dump's own 'gosem.cut.vars' lays the variable. In a bare row this is a premise. The card (YtbdpfoidhffalaaDoorCards.lean) ties it to the program's text. -/
def laid_postroom_script_words {H : Type} : DataW H := .agg [.agg [.lit (.string []), .lit (.string [114, 101, 113, 117, 105, 114, 101]), .lit (.string [105, 102]), .lit (.string [107, 101, 101, 112]), .lit (.string [100, 105, 115, 99, 97, 114, 100]), .lit (.string [102, 105, 108, 101, 105, 110, 116, 111]), .lit (.string [114, 101, 100, 105, 114, 101, 99, 116]), .lit (.string [114, 101, 106, 101, 99, 116]), .lit (.string [115, 101, 116, 102, 108, 97, 103]), .lit (.string [97, 100, 100, 102, 108, 97, 103]), .lit (.string [115, 116, 111, 112])], .agg [.lit (.string []), .lit (.string [116, 114, 117, 101]), .lit (.string [102, 97, 108, 115, 101]), .lit (.string [110, 111, 116]), .lit (.string [97, 108, 108, 111, 102]), .lit (.string [97, 110, 121, 111, 102]), .lit (.string [104, 101, 97, 100, 101, 114]), .lit (.string [97, 100, 100, 114, 101, 115, 115]), .lit (.string [101, 110, 118, 101, 108, 111, 112, 101]), .lit (.string [101, 120, 105, 115, 116, 115]), .lit (.string [115, 105, 122, 101])], .agg [.lit (.string []), .lit (.string [105, 115]), .lit (.string [99, 111, 110, 116, 97, 105, 110, 115]), .lit (.string [109, 97, 116, 99, 104, 101, 115]), .lit (.string []), .lit (.string []), .lit (.string []), .lit (.string []), .lit (.string []), .lit (.string []), .lit (.string [])], .agg [.lit (.string []), .lit (.string [97, 108, 108]), .lit (.string [108, 111, 99, 97, 108, 112, 97, 114, 116]), .lit (.string [100, 111, 109, 97, 105, 110]), .lit (.string []), .lit (.string []), .lit (.string []), .lit (.string []), .lit (.string []), .lit (.string []), .lit (.string [])]]
def laid_postroom_rule_flagNames {H : Type} : DataW H := .agg [.agg [.lit (.string [92, 83, 101, 101, 110]), .lit (.int .i64 1)], .agg [.lit (.string [92, 65, 110, 115, 119, 101, 114, 101, 100]), .lit (.int .i64 2)], .agg [.lit (.string [92, 70, 108, 97, 103, 103, 101, 100]), .lit (.int .i64 4)], .agg [.lit (.string [92, 68, 101, 108, 101, 116, 101, 100]), .lit (.int .i64 8)], .agg [.lit (.string [92, 68, 114, 97, 102, 116]), .lit (.int .i64 16)]]

/-- 'postroomlaw.ScriptChecks': WHATEVER THE INPUT: true; the input reads as it did. -/
def scriptChecksSpec : ChangeSpec := { name := "scriptChecks", fn := fun _ => fun
  | [d] => { results := [.lit (.bool true)], args := [d] }
  | _ => none }
def scriptChecksRow : OpenClaim := { program := "ytbdpfoidhffalaadoor", sum := "db8a0312878a7d4acaaf97684ae59bd1f74e1c56e7ae0b5684f68aab9342cd1e", func := "postroom/postroomlaw.ScriptChecks", spec := "scriptChecks", recurses := true, named := ["postroom/script.words"], loops := true, apart := false, laid := [("postroom/script.words", laid_postroom_script_words)] }
def ScriptChecksSaid : Prop := scriptChecksRow.holds Tryd.pinned (OpenSpec.ofChange scriptChecksSpec)

/-- ITS FALSE NEIGHBOUR: 'it returns false'. Refute it at one input. -/
def scriptChecksWrong : ChangeSpec := { name := "scriptChecks", fn := fun _ => fun
  | [d] => { results := [.lit (.bool false)], args := [d] }
  | _ => none }
def ScriptChecksWrongFalsely : Prop := scriptChecksRow.holds Tryd.pinned (OpenSpec.ofChange scriptChecksWrong)

/-- 'postroomlaw.ScriptShows': WHATEVER THE INPUT: true; the input reads as it did. -/
def scriptShowsSpec : ChangeSpec := { name := "scriptShows", fn := fun _ => fun
  | [d] => { results := [.lit (.bool true)], args := [d] }
  | _ => none }
def scriptShowsRow : OpenClaim := { program := "ytbdpfoidhffalaadoor", sum := "db8a0312878a7d4acaaf97684ae59bd1f74e1c56e7ae0b5684f68aab9342cd1e", func := "postroom/postroomlaw.ScriptShows", spec := "scriptShows", recurses := true, named := ["postroom/script.words"], loops := true, apart := false, laid := [("postroom/script.words", laid_postroom_script_words)] }
def ScriptShowsSaid : Prop := scriptShowsRow.holds Tryd.pinned (OpenSpec.ofChange scriptShowsSpec)

/-- ITS FALSE NEIGHBOUR: 'it returns false'. Refute it at one input. -/
def scriptShowsWrong : ChangeSpec := { name := "scriptShows", fn := fun _ => fun
  | [d] => { results := [.lit (.bool false)], args := [d] }
  | _ => none }
def ScriptShowsWrongFalsely : Prop := scriptShowsRow.holds Tryd.pinned (OpenSpec.ofChange scriptShowsWrong)

/-- 'postroomkeep.ScriptBack': WHATEVER THE INPUT: true; the input reads as it did. -/
def scriptBackSpec : ChangeSpec := { name := "scriptBack", fn := fun _ => fun
  | [d] => { results := [.lit (.bool true)], args := [d] }
  | _ => none }
def scriptBackRow : OpenClaim := { program := "ytbdpfoidhffalaadoor", sum := "db8a0312878a7d4acaaf97684ae59bd1f74e1c56e7ae0b5684f68aab9342cd1e", func := "postroom/postroomkeep.ScriptBack", spec := "scriptBack", inPlace := ["internal/bytealg.IndexByteString"], unfollowed := true, recurses := true, named := ["postroom/script.words"], loops := true, apart := false, laid := [("postroom/script.words", laid_postroom_script_words)] }
def ScriptBackSaid : Prop := scriptBackRow.holds Tryd.pinned (OpenSpec.ofChange scriptBackSpec)

/-- ITS FALSE NEIGHBOUR: 'it returns false'. Refute it at one input. -/
def scriptBackWrong : ChangeSpec := { name := "scriptBack", fn := fun _ => fun
  | [d] => { results := [.lit (.bool false)], args := [d] }
  | _ => none }
def ScriptBackWrongFalsely : Prop := scriptBackRow.holds Tryd.pinned (OpenSpec.ofChange scriptBackWrong)

/-- 'postroomkeep.ScriptTorn': WHATEVER THE INPUT: true; the input reads as it did. -/
def scriptTornSpec : ChangeSpec := { name := "scriptTorn", fn := fun _ => fun
  | [d1, d2] => { results := [.lit (.bool true)], args := [d1, d2] }
  | _ => none }
def scriptTornRow : OpenClaim := { program := "ytbdpfoidhffalaadoor", sum := "db8a0312878a7d4acaaf97684ae59bd1f74e1c56e7ae0b5684f68aab9342cd1e", func := "postroom/postroomkeep.ScriptTorn", spec := "scriptTorn", inPlace := ["internal/bytealg.IndexByteString"], unfollowed := true, recurses := true, named := ["postroom/script.words"], loops := true, apart := false, laid := [("postroom/script.words", laid_postroom_script_words)] }
def ScriptTornSaid : Prop := scriptTornRow.holds Tryd.pinned (OpenSpec.ofChange scriptTornSpec)

/-- ITS FALSE NEIGHBOUR: 'it returns false'. Refute it at one input. -/
def scriptTornWrong : ChangeSpec := { name := "scriptTorn", fn := fun _ => fun
  | [d1, d2] => { results := [.lit (.bool false)], args := [d1, d2] }
  | _ => none }
def ScriptTornWrongFalsely : Prop := scriptTornRow.holds Tryd.pinned (OpenSpec.ofChange scriptTornWrong)

/-- 'postroomkeep.ScriptElse': WHATEVER THE INPUT: true; the input reads as it did. -/
def scriptElseSpec : ChangeSpec := { name := "scriptElse", fn := fun _ => fun
  | [d1, d2] => { results := [.lit (.bool true)], args := [d1, d2] }
  | _ => none }
def scriptElseRow : OpenClaim := { program := "ytbdpfoidhffalaadoor", sum := "db8a0312878a7d4acaaf97684ae59bd1f74e1c56e7ae0b5684f68aab9342cd1e", func := "postroom/postroomkeep.ScriptElse", spec := "scriptElse", recurses := true, named := ["postroom/script.words"], loops := true, apart := false, laid := [("postroom/script.words", laid_postroom_script_words)] }
def ScriptElseSaid : Prop := scriptElseRow.holds Tryd.pinned (OpenSpec.ofChange scriptElseSpec)

/-- ITS FALSE NEIGHBOUR: 'it returns false'. Refute it at one input. -/
def scriptElseWrong : ChangeSpec := { name := "scriptElse", fn := fun _ => fun
  | [d1, d2] => { results := [.lit (.bool false)], args := [d1, d2] }
  | _ => none }
def ScriptElseWrongFalsely : Prop := scriptElseRow.holds Tryd.pinned (OpenSpec.ofChange scriptElseWrong)

/-- 'postroomlaw.RuleFlags': WHATEVER THE INPUT: true; the input reads as it did. -/
def ruleFlagsSpec : ChangeSpec := { name := "ruleFlags", fn := fun _ => fun
  | [d] => { results := [.lit (.bool true)], args := [d] }
  | _ => none }
def ruleFlagsRow : OpenClaim := { program := "ytbdpfoidhffalaadoor", sum := "db8a0312878a7d4acaaf97684ae59bd1f74e1c56e7ae0b5684f68aab9342cd1e", func := "postroom/postroomlaw.RuleFlags", spec := "ruleFlags", named := ["postroom/rule.flagNames"], apart := false, laid := [("postroom/rule.flagNames", laid_postroom_rule_flagNames)] }
def RuleFlagsSaid : Prop := ruleFlagsRow.holds Tryd.pinned (OpenSpec.ofChange ruleFlagsSpec)

/-- ITS FALSE NEIGHBOUR: 'it returns false'. Refute it at one input. -/
def ruleFlagsWrong : ChangeSpec := { name := "ruleFlags", fn := fun _ => fun
  | [d] => { results := [.lit (.bool false)], args := [d] }
  | _ => none }
def RuleFlagsWrongFalsely : Prop := ruleFlagsRow.holds Tryd.pinned (OpenSpec.ofChange ruleFlagsWrong)

/- THE SECOND FORM. 'bulk': how many values and letters a reading holds, each counted each time it is reached (what is shared counts as often as it is met; a slice's spare places count too). A statement '..UptoSaid' is the law's where the arguments, and the package variables that the reading takes, are together of bulk at most 1048576: NARROWER than '..Said'. Prove '..Said' where nothing that the law and all that it calls make is longer than what came in: it says more and counts as full. Else prove '..UptoSaid'. A law counts once. -/
mutual
def uptoBulk {H : Type} : DataW H → Nat
  | .lit (.string bytes) => bytes.length + 1
  | .lit _ => 1
  | .nil => 1
  | .ptr d => uptoBulk d + 1
  | .slice elems spare => uptoBulkAll elems + uptoBulkAll spare + 1
  | .agg parts => uptoBulkAll parts + 1
  | .iface _ d => uptoBulk d + 1
  | .map entries => uptoBulkEntries entries + 1
  | .held _ => 1
def uptoBulkAll {H : Type} : List (DataW H) → Nat
  | [] => 0
  | d :: r => uptoBulk d + uptoBulkAll r
def uptoBulkEntries {H : Type} : List (Lit × DataW H) → Nat
  | [] => 0
  | x :: r => uptoBulkEntry x + uptoBulkEntries r
def uptoBulkEntry {H : Type} : Lit × DataW H → Nat
  | (.string bytes, d) => bytes.length + uptoBulk d + 1
  | (_, d) => uptoBulk d + 1
 end
def uptoSmall : (H : Type) → List (DataW H) → Bool := fun _ ds => decide (uptoBulkAll ds ≤ 1048576)
def OpenSpec.upto (s : _root_.Go.ChangeSpec) : _root_.Go.OpenSpec := { _root_.Go.OpenSpec.ofChange s with cond := some uptoSmall }

/-- 'postroomlaw.ScriptChecks', WHERE WHAT IT READS IS OF BULK AT MOST 1048576: true; the input reads as it did. -/
def scriptChecksUptoRow : OpenClaim := { program := "ytbdpfoidhffalaadoor", sum := "db8a0312878a7d4acaaf97684ae59bd1f74e1c56e7ae0b5684f68aab9342cd1e", func := "postroom/postroomlaw.ScriptChecks", spec := "scriptChecks", recurses := true, named := ["postroom/script.words"], loops := true, apart := false, laid := [("postroom/script.words", laid_postroom_script_words)], narrowed := true }
def ScriptChecksUptoSaid : Prop := scriptChecksUptoRow.holds Tryd.pinned (OpenSpec.upto scriptChecksSpec)

/-- 'postroomlaw.ScriptShows', WHERE WHAT IT READS IS OF BULK AT MOST 1048576: true; the input reads as it did. -/
def scriptShowsUptoRow : OpenClaim := { program := "ytbdpfoidhffalaadoor", sum := "db8a0312878a7d4acaaf97684ae59bd1f74e1c56e7ae0b5684f68aab9342cd1e", func := "postroom/postroomlaw.ScriptShows", spec := "scriptShows", recurses := true, named := ["postroom/script.words"], loops := true, apart := false, laid := [("postroom/script.words", laid_postroom_script_words)], narrowed := true }
def ScriptShowsUptoSaid : Prop := scriptShowsUptoRow.holds Tryd.pinned (OpenSpec.upto scriptShowsSpec)

/-- 'postroomkeep.ScriptBack', WHERE WHAT IT READS IS OF BULK AT MOST 1048576: true; the input reads as it did. -/
def scriptBackUptoRow : OpenClaim := { program := "ytbdpfoidhffalaadoor", sum := "db8a0312878a7d4acaaf97684ae59bd1f74e1c56e7ae0b5684f68aab9342cd1e", func := "postroom/postroomkeep.ScriptBack", spec := "scriptBack", inPlace := ["internal/bytealg.IndexByteString"], unfollowed := true, recurses := true, named := ["postroom/script.words"], loops := true, apart := false, laid := [("postroom/script.words", laid_postroom_script_words)], narrowed := true }
def ScriptBackUptoSaid : Prop := scriptBackUptoRow.holds Tryd.pinned (OpenSpec.upto scriptBackSpec)

/-- 'postroomkeep.ScriptTorn', WHERE WHAT IT READS IS OF BULK AT MOST 1048576: true; the input reads as it did. -/
def scriptTornUptoRow : OpenClaim := { program := "ytbdpfoidhffalaadoor", sum := "db8a0312878a7d4acaaf97684ae59bd1f74e1c56e7ae0b5684f68aab9342cd1e", func := "postroom/postroomkeep.ScriptTorn", spec := "scriptTorn", inPlace := ["internal/bytealg.IndexByteString"], unfollowed := true, recurses := true, named := ["postroom/script.words"], loops := true, apart := false, laid := [("postroom/script.words", laid_postroom_script_words)], narrowed := true }
def ScriptTornUptoSaid : Prop := scriptTornUptoRow.holds Tryd.pinned (OpenSpec.upto scriptTornSpec)

/-- 'postroomkeep.ScriptElse', WHERE WHAT IT READS IS OF BULK AT MOST 1048576: true; the input reads as it did. -/
def scriptElseUptoRow : OpenClaim := { program := "ytbdpfoidhffalaadoor", sum := "db8a0312878a7d4acaaf97684ae59bd1f74e1c56e7ae0b5684f68aab9342cd1e", func := "postroom/postroomkeep.ScriptElse", spec := "scriptElse", recurses := true, named := ["postroom/script.words"], loops := true, apart := false, laid := [("postroom/script.words", laid_postroom_script_words)], narrowed := true }
def ScriptElseUptoSaid : Prop := scriptElseUptoRow.holds Tryd.pinned (OpenSpec.upto scriptElseSpec)

/-- 'postroomlaw.RuleFlags', WHERE WHAT IT READS IS OF BULK AT MOST 1048576: true; the input reads as it did. -/
def ruleFlagsUptoRow : OpenClaim := { program := "ytbdpfoidhffalaadoor", sum := "db8a0312878a7d4acaaf97684ae59bd1f74e1c56e7ae0b5684f68aab9342cd1e", func := "postroom/postroomlaw.RuleFlags", spec := "ruleFlags", named := ["postroom/rule.flagNames"], apart := false, laid := [("postroom/rule.flagNames", laid_postroom_rule_flagNames)], narrowed := true }
def RuleFlagsUptoSaid : Prop := ruleFlagsUptoRow.holds Tryd.pinned (OpenSpec.upto ruleFlagsSpec)

end Rows
end Go.Proofs.YtbdpfoidhffalaaDoor
