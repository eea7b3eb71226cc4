/-
  DERIVED. GIVEN WITH THE SEED: THE CARDS: each row of YtmnlaijggoojkabGreatDoorRows.lean that lists a variable, with what it lists TIED to the program's text (the seventh form; the later family's looks); each row that meets fmt, with fmt's text TOLD by the authors' own Lean function (tested against real Go, not proved from fmt's source: count such statements apart). THE CARD IS WHAT COUNTS. Prove the row's statement (the work); the ties are given (YtmnlaijggoojkabGreatDoorTie.lean); close each card by the builder's one call (the guide's Derived/Test/ToyasCard.lean, 'card_holds'). Laid BY PROGRAM, IN A SANDBOX (cutbox-door.mjs). By AI agents, Wed Nov 11 2026. No macro, syntax, notation, axiom, sorry.
-/
import Derived.Test.YtmnlaijggoojkabGreatDoorRows
import GoSem.ClaimSeven
namespace Go.Proofs.YtmnlaijggoojkabGreatDoor
namespace Rows

/-- THE TIED CARD OF 'postroomkeep.JudgeKept'. -/
def judgeKeptCard : Claim7 := { stood := { row := judgeKeptRow, standIns := [], harness := (true, "a027f5490accc1039bca02891d9697f0a5b3b8138c5b62f3ffe68ad84199235c"), looks := true }, kinds := [], alts := [], laidByText := true, laidKinds := [.data, .data, .data, .data, .data, .data, .pinned], laidTests := true, laidLooks := .later }
def JudgeKeptCardSaid : Prop := Claim7.holds Tryz.pinned (.plain (OpenSpec.ofChange judgeKeptSpec)) judgeKeptCard

/-- THE TIED CARD OF 'postroomkeep.DoOnce'. -/
def doOnceCard : Claim7 := { stood := { row := doOnceRow, standIns := [], harness := (true, "a027f5490accc1039bca02891d9697f0a5b3b8138c5b62f3ffe68ad84199235c"), looks := true }, kinds := [], alts := [], laidByText := true, laidKinds := [.data, .data, .data, .data, .data, .data, .pinned], laidTests := true, laidLooks := .later }
def DoOnceCardSaid : Prop := Claim7.holds Tryz.pinned (.plain (OpenSpec.ofChange doOnceSpec)) doOnceCard

/-- THE TIED CARD OF 'postroomkeep.JudgeFlags'. -/
def judgeFlagsCard : Claim7 := { stood := { row := judgeFlagsRow, standIns := [], harness := (true, "a027f5490accc1039bca02891d9697f0a5b3b8138c5b62f3ffe68ad84199235c"), looks := true }, kinds := [], alts := [], laidByText := true, laidKinds := [.data, .data, .data, .data, .data, .data, .pinned], laidTests := true, laidLooks := .later }
def JudgeFlagsCardSaid : Prop := Claim7.holds Tryz.pinned (.plain (OpenSpec.ofChange judgeFlagsSpec)) judgeFlagsCard

/-- THE TIED CARD OF 'postroomkeep.CodeSame'. -/
def codeSameCard : Claim7 := { stood := { row := codeSameRow, standIns := [], harness := (true, "a027f5490accc1039bca02891d9697f0a5b3b8138c5b62f3ffe68ad84199235c"), looks := true }, kinds := [], alts := [], laidByText := true, laidKinds := [.data, .data, .data, .data, .data, .data, .pinned], laidTests := true, laidLooks := .later }
def CodeSameCardSaid : Prop := Claim7.holds Tryz.pinned (.plain (OpenSpec.ofChange codeSameSpec)) codeSameCard

/-- THE TIED CARD OF 'postroomkeep.CodeMay'. -/
def codeMayCard : Claim7 := { stood := { row := codeMayRow, standIns := [], harness := (true, "a027f5490accc1039bca02891d9697f0a5b3b8138c5b62f3ffe68ad84199235c"), looks := true }, kinds := [], alts := [], laidByText := true, laidKinds := [.data, .data, .data, .data, .data, .data, .pinned], laidTests := true, laidLooks := .later }
def CodeMayCardSaid : Prop := Claim7.holds Tryz.pinned (.plain (OpenSpec.ofChange codeMaySpec)) codeMayCard

/-- THE SECOND FORM's CARD OF 'postroomkeep.JudgeKept'. -/
def judgeKeptUptoCard : Claim7 := { stood := { row := judgeKeptUptoRow, standIns := [], harness := (true, "a027f5490accc1039bca02891d9697f0a5b3b8138c5b62f3ffe68ad84199235c"), looks := true }, kinds := [], alts := [], laidByText := true, laidKinds := [.data, .data, .data, .data, .data, .data, .pinned], laidTests := true, laidLooks := .later }
def JudgeKeptUptoCardSaid : Prop := Claim7.holds Tryz.pinned (.plain (OpenSpec.upto judgeKeptSpec)) judgeKeptUptoCard

/-- THE SECOND FORM's CARD OF 'postroomkeep.DoOnce'. -/
def doOnceUptoCard : Claim7 := { stood := { row := doOnceUptoRow, standIns := [], harness := (true, "a027f5490accc1039bca02891d9697f0a5b3b8138c5b62f3ffe68ad84199235c"), looks := true }, kinds := [], alts := [], laidByText := true, laidKinds := [.data, .data, .data, .data, .data, .data, .pinned], laidTests := true, laidLooks := .later }
def DoOnceUptoCardSaid : Prop := Claim7.holds Tryz.pinned (.plain (OpenSpec.upto doOnceSpec)) doOnceUptoCard

/-- THE SECOND FORM's CARD OF 'postroomkeep.JudgeFlags'. -/
def judgeFlagsUptoCard : Claim7 := { stood := { row := judgeFlagsUptoRow, standIns := [], harness := (true, "a027f5490accc1039bca02891d9697f0a5b3b8138c5b62f3ffe68ad84199235c"), looks := true }, kinds := [], alts := [], laidByText := true, laidKinds := [.data, .data, .data, .data, .data, .data, .pinned], laidTests := true, laidLooks := .later }
def JudgeFlagsUptoCardSaid : Prop := Claim7.holds Tryz.pinned (.plain (OpenSpec.upto judgeFlagsSpec)) judgeFlagsUptoCard

/-- THE SECOND FORM's CARD OF 'postroomkeep.CodeSame'. -/
def codeSameUptoCard : Claim7 := { stood := { row := codeSameUptoRow, standIns := [], harness := (true, "a027f5490accc1039bca02891d9697f0a5b3b8138c5b62f3ffe68ad84199235c"), looks := true }, kinds := [], alts := [], laidByText := true, laidKinds := [.data, .data, .data, .data, .data, .data, .pinned], laidTests := true, laidLooks := .later }
def CodeSameUptoCardSaid : Prop := Claim7.holds Tryz.pinned (.plain (OpenSpec.upto codeSameSpec)) codeSameUptoCard

/-- THE SECOND FORM's CARD OF 'postroomkeep.CodeMay'. -/
def codeMayUptoCard : Claim7 := { stood := { row := codeMayUptoRow, standIns := [], harness := (true, "a027f5490accc1039bca02891d9697f0a5b3b8138c5b62f3ffe68ad84199235c"), looks := true }, kinds := [], alts := [], laidByText := true, laidKinds := [.data, .data, .data, .data, .data, .data, .pinned], laidTests := true, laidLooks := .later }
def CodeMayUptoCardSaid : Prop := Claim7.holds Tryz.pinned (.plain (OpenSpec.upto codeMaySpec)) codeMayUptoCard
end Rows
end Go.Proofs.YtmnlaijggoojkabGreatDoor
