/-
  DERIVED. GIVEN WITH THE SEED: THE CARDS: each row of YtnjlakengbhokaaDoorRows.lean that lists a variable, with what it lists TIED to the program's text (the seventh form; the later family's looks); each row that meets fmt, with fmt's text TOLD by the authors' own Lean function (tested against real Go, not proved from fmt's source: count such statements apart). THE CARD IS WHAT COUNTS. Prove the row's statement (the work); the ties are given (YtnjlakengbhokaaDoorTie.lean); close each card by the builder's one call (the guide's Derived/Test/ToyasCard.lean, 'card_holds'). Laid BY PROGRAM, IN A SANDBOX (cutbox-door.mjs). By AI agents, Wed Nov 11 2026. No macro, syntax, notation, axiom, sorry.
-/
import Derived.Test.YtnjlakengbhokaaDoorRows
import GoSem.ClaimSeven
namespace Go.Proofs.YtnjlakengbhokaaDoor
namespace Rows

/-- THE TIED CARD OF 'postroomlaw.RuleFlags'. -/
def ruleFlagsCard : Claim7 := { stood := { row := ruleFlagsRow, standIns := [], harness := (true, "28b619339d92ea959de356c6e88e8d030199b4684d9db17a040ab154033a97f7"), looks := true }, kinds := [], alts := [], laidByText := true, laidKinds := [.data], laidTests := true, laidLooks := .later }
def RuleFlagsCardSaid : Prop := Claim7.holds Tryd.pinned (.plain (OpenSpec.ofChange ruleFlagsSpec)) ruleFlagsCard

/-- THE TIED CARD OF 'postroomkeep.RuleAllowed'. -/
def ruleAllowedCard : Claim7 := { stood := { row := ruleAllowedRow, standIns := [], harness := (true, "28b619339d92ea959de356c6e88e8d030199b4684d9db17a040ab154033a97f7"), looks := true }, kinds := [], alts := [], laidByText := true, laidKinds := [.data, .data, .data, .data, .data, .data, .pinned], laidTests := true, laidLooks := .later }
def RuleAllowedCardSaid : Prop := Claim7.holds Tryd.pinned (.plain (OpenSpec.ofChange ruleAllowedSpec)) ruleAllowedCard

/-- THE TIED CARD OF 'postroomkeep.RuleNeeds'. -/
def ruleNeedsCard : Claim7 := { stood := { row := ruleNeedsRow, standIns := [], harness := (true, "28b619339d92ea959de356c6e88e8d030199b4684d9db17a040ab154033a97f7"), looks := true }, kinds := [], alts := [], laidByText := true, laidKinds := [.data, .data, .data, .data, .data, .data, .pinned], laidTests := true, laidLooks := .later }
def RuleNeedsCardSaid : Prop := Claim7.holds Tryd.pinned (.plain (OpenSpec.ofChange ruleNeedsSpec)) ruleNeedsCard

/-- THE TIED CARD OF 'postroomkeep.RuleLate'. -/
def ruleLateCard : Claim7 := { stood := { row := ruleLateRow, standIns := [], harness := (true, "28b619339d92ea959de356c6e88e8d030199b4684d9db17a040ab154033a97f7"), looks := true }, kinds := [], alts := [], laidByText := true, laidKinds := [.data, .data, .data, .data, .data, .data, .pinned], laidTests := true, laidLooks := .later }
def RuleLateCardSaid : Prop := Claim7.holds Tryd.pinned (.plain (OpenSpec.ofChange ruleLateSpec)) ruleLateCard

/-- THE TIED CARD OF 'postroomkeep.ScriptFixed'. -/
def scriptFixedCard : Claim7 := { stood := { row := scriptFixedRow, standIns := [], harness := (true, "28b619339d92ea959de356c6e88e8d030199b4684d9db17a040ab154033a97f7"), looks := true }, kinds := [], alts := [], laidByText := true, laidKinds := [.data], laidTests := true, laidLooks := .later }
def ScriptFixedCardSaid : Prop := Claim7.holds Tryd.pinned (.plain (OpenSpec.ofChange scriptFixedSpec)) scriptFixedCard

/-- THE TIED CARD OF 'postroomkeep.ScriptBack'. -/
def scriptBackCard : Claim7 := { stood := { row := scriptBackRow, standIns := [], harness := (true, "28b619339d92ea959de356c6e88e8d030199b4684d9db17a040ab154033a97f7"), looks := true }, kinds := [], alts := [], laidByText := true, laidKinds := [.data], laidTests := true, laidLooks := .later }
def ScriptBackCardSaid : Prop := Claim7.holds Tryd.pinned (.plain (OpenSpec.ofChange scriptBackSpec)) scriptBackCard

/-- THE SECOND FORM's CARD OF 'postroomlaw.RuleFlags'. -/
def ruleFlagsUptoCard : Claim7 := { stood := { row := ruleFlagsUptoRow, standIns := [], harness := (true, "28b619339d92ea959de356c6e88e8d030199b4684d9db17a040ab154033a97f7"), looks := true }, kinds := [], alts := [], laidByText := true, laidKinds := [.data], laidTests := true, laidLooks := .later }
def RuleFlagsUptoCardSaid : Prop := Claim7.holds Tryd.pinned (.plain (OpenSpec.upto ruleFlagsSpec)) ruleFlagsUptoCard

/-- THE SECOND FORM's CARD OF 'postroomkeep.RuleAllowed'. -/
def ruleAllowedUptoCard : Claim7 := { stood := { row := ruleAllowedUptoRow, standIns := [], harness := (true, "28b619339d92ea959de356c6e88e8d030199b4684d9db17a040ab154033a97f7"), looks := true }, kinds := [], alts := [], laidByText := true, laidKinds := [.data, .data, .data, .data, .data, .data, .pinned], laidTests := true, laidLooks := .later }
def RuleAllowedUptoCardSaid : Prop := Claim7.holds Tryd.pinned (.plain (OpenSpec.upto ruleAllowedSpec)) ruleAllowedUptoCard

/-- THE SECOND FORM's CARD OF 'postroomkeep.RuleNeeds'. -/
def ruleNeedsUptoCard : Claim7 := { stood := { row := ruleNeedsUptoRow, standIns := [], harness := (true, "28b619339d92ea959de356c6e88e8d030199b4684d9db17a040ab154033a97f7"), looks := true }, kinds := [], alts := [], laidByText := true, laidKinds := [.data, .data, .data, .data, .data, .data, .pinned], laidTests := true, laidLooks := .later }
def RuleNeedsUptoCardSaid : Prop := Claim7.holds Tryd.pinned (.plain (OpenSpec.upto ruleNeedsSpec)) ruleNeedsUptoCard

/-- THE SECOND FORM's CARD OF 'postroomkeep.RuleLate'. -/
def ruleLateUptoCard : Claim7 := { stood := { row := ruleLateUptoRow, standIns := [], harness := (true, "28b619339d92ea959de356c6e88e8d030199b4684d9db17a040ab154033a97f7"), looks := true }, kinds := [], alts := [], laidByText := true, laidKinds := [.data, .data, .data, .data, .data, .data, .pinned], laidTests := true, laidLooks := .later }
def RuleLateUptoCardSaid : Prop := Claim7.holds Tryd.pinned (.plain (OpenSpec.upto ruleLateSpec)) ruleLateUptoCard

/-- THE SECOND FORM's CARD OF 'postroomkeep.ScriptFixed'. -/
def scriptFixedUptoCard : Claim7 := { stood := { row := scriptFixedUptoRow, standIns := [], harness := (true, "28b619339d92ea959de356c6e88e8d030199b4684d9db17a040ab154033a97f7"), looks := true }, kinds := [], alts := [], laidByText := true, laidKinds := [.data], laidTests := true, laidLooks := .later }
def ScriptFixedUptoCardSaid : Prop := Claim7.holds Tryd.pinned (.plain (OpenSpec.upto scriptFixedSpec)) scriptFixedUptoCard

/-- THE SECOND FORM's CARD OF 'postroomkeep.ScriptBack'. -/
def scriptBackUptoCard : Claim7 := { stood := { row := scriptBackUptoRow, standIns := [], harness := (true, "28b619339d92ea959de356c6e88e8d030199b4684d9db17a040ab154033a97f7"), looks := true }, kinds := [], alts := [], laidByText := true, laidKinds := [.data], laidTests := true, laidLooks := .later }
def ScriptBackUptoCardSaid : Prop := Claim7.holds Tryd.pinned (.plain (OpenSpec.upto scriptBackSpec)) scriptBackUptoCard
end Rows
end Go.Proofs.YtnjlakengbhokaaDoor
