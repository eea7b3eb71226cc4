/-
  DERIVED. GIVEN WITH THE SEED: THE CARDS: each row of YtlcnfpeabnnjoaaGreatDoorRows.lean that lists a variable, with what it lists TIED to the program's text (the seventh form; the later family's looks); each row that meets fmt, with fmt's text TOLD by the authors' own Lean function (tested against real Go, not proved from fmt's source: count such statements apart). THE CARD IS WHAT COUNTS. Prove the row's statement (the work); the ties are given (YtlcnfpeabnnjoaaGreatDoorTie.lean); close each card by the builder's one call (the guide's Derived/Test/ToyasCard.lean, 'card_holds'). Laid BY PROGRAM, IN A SANDBOX (cutbox-door.mjs). By AI agents, Wed Nov 11 2026. No macro, syntax, notation, axiom, sorry.
-/
import Derived.Test.YtlcnfpeabnnjoaaGreatDoorRows
import GoSem.ClaimSeven
namespace Go.Proofs.YtlcnfpeabnnjoaaGreatDoor
namespace Rows

/-- THE TIED CARD OF 'postroomkeep.AskMore'. -/
def askMoreCard : Claim7 := { stood := { row := askMoreRow, standIns := [], harness := (true, "477c8ac1e5299b7999bd25cc74f8ea39c08404d4ac807f54552192b7558712b4"), looks := true }, kinds := [], alts := [], laidByText := true, laidKinds := [.data, .data, .data, .data, .data, .data, .pinned], laidTests := true, laidLooks := .later }
def AskMoreCardSaid : Prop := Claim7.holds Tryz.pinned (.plain (OpenSpec.ofChange askMoreSpec)) askMoreCard

/-- THE TIED CARD OF 'postroomkeep.JudgeOne'. -/
def judgeOneCard : Claim7 := { stood := { row := judgeOneRow, standIns := [], harness := (true, "477c8ac1e5299b7999bd25cc74f8ea39c08404d4ac807f54552192b7558712b4"), looks := true }, kinds := [], alts := [], laidByText := true, laidKinds := [.data, .data, .data, .data, .data, .data, .pinned], laidTests := true, laidLooks := .later }
def JudgeOneCardSaid : Prop := Claim7.holds Tryz.pinned (.plain (OpenSpec.ofChange judgeOneSpec)) judgeOneCard

/-- THE TIED CARD OF 'postroomkeep.DoOnce'. -/
def doOnceCard : Claim7 := { stood := { row := doOnceRow, standIns := [], harness := (true, "477c8ac1e5299b7999bd25cc74f8ea39c08404d4ac807f54552192b7558712b4"), looks := true }, kinds := [], alts := [], laidByText := true, laidKinds := [.data, .data, .data, .data, .data, .data, .pinned], laidTests := true, laidLooks := .later }
def DoOnceCardSaid : Prop := Claim7.holds Tryz.pinned (.plain (OpenSpec.ofChange doOnceSpec)) doOnceCard

/-- THE TIED CARD OF 'postroomkeep.JudgeFlags'. -/
def judgeFlagsCard : Claim7 := { stood := { row := judgeFlagsRow, standIns := [], harness := (true, "477c8ac1e5299b7999bd25cc74f8ea39c08404d4ac807f54552192b7558712b4"), looks := true }, kinds := [], alts := [], laidByText := true, laidKinds := [.data, .data, .data, .data, .data, .data, .pinned], laidTests := true, laidLooks := .later }
def JudgeFlagsCardSaid : Prop := Claim7.holds Tryz.pinned (.plain (OpenSpec.ofChange judgeFlagsSpec)) judgeFlagsCard

/-- THE TIED CARD OF 'postroomkeep.CodeSame'. -/
def codeSameCard : Claim7 := { stood := { row := codeSameRow, standIns := [], harness := (true, "477c8ac1e5299b7999bd25cc74f8ea39c08404d4ac807f54552192b7558712b4"), looks := true }, kinds := [], alts := [], laidByText := true, laidKinds := [.data, .data, .data, .data, .data, .data, .pinned], laidTests := true, laidLooks := .later }
def CodeSameCardSaid : Prop := Claim7.holds Tryz.pinned (.plain (OpenSpec.ofChange codeSameSpec)) codeSameCard

/-- THE TIED CARD OF 'postroomkeep.CodeMay'. -/
def codeMayCard : Claim7 := { stood := { row := codeMayRow, standIns := [], harness := (true, "477c8ac1e5299b7999bd25cc74f8ea39c08404d4ac807f54552192b7558712b4"), looks := true }, kinds := [], alts := [], laidByText := true, laidKinds := [.data, .data, .data, .data, .data, .data, .pinned], laidTests := true, laidLooks := .later }
def CodeMayCardSaid : Prop := Claim7.holds Tryz.pinned (.plain (OpenSpec.ofChange codeMaySpec)) codeMayCard

/-- THE SECOND FORM's CARD OF 'postroomkeep.AskMore'. -/
def askMoreUptoCard : Claim7 := { stood := { row := askMoreUptoRow, standIns := [], harness := (true, "477c8ac1e5299b7999bd25cc74f8ea39c08404d4ac807f54552192b7558712b4"), looks := true }, kinds := [], alts := [], laidByText := true, laidKinds := [.data, .data, .data, .data, .data, .data, .pinned], laidTests := true, laidLooks := .later }
def AskMoreUptoCardSaid : Prop := Claim7.holds Tryz.pinned (.plain (OpenSpec.upto askMoreSpec)) askMoreUptoCard

/-- THE SECOND FORM's CARD OF 'postroomkeep.JudgeOne'. -/
def judgeOneUptoCard : Claim7 := { stood := { row := judgeOneUptoRow, standIns := [], harness := (true, "477c8ac1e5299b7999bd25cc74f8ea39c08404d4ac807f54552192b7558712b4"), looks := true }, kinds := [], alts := [], laidByText := true, laidKinds := [.data, .data, .data, .data, .data, .data, .pinned], laidTests := true, laidLooks := .later }
def JudgeOneUptoCardSaid : Prop := Claim7.holds Tryz.pinned (.plain (OpenSpec.upto judgeOneSpec)) judgeOneUptoCard

/-- THE SECOND FORM's CARD OF 'postroomkeep.DoOnce'. -/
def doOnceUptoCard : Claim7 := { stood := { row := doOnceUptoRow, standIns := [], harness := (true, "477c8ac1e5299b7999bd25cc74f8ea39c08404d4ac807f54552192b7558712b4"), looks := true }, kinds := [], alts := [], laidByText := true, laidKinds := [.data, .data, .data, .data, .data, .data, .pinned], laidTests := true, laidLooks := .later }
def DoOnceUptoCardSaid : Prop := Claim7.holds Tryz.pinned (.plain (OpenSpec.upto doOnceSpec)) doOnceUptoCard

/-- THE SECOND FORM's CARD OF 'postroomkeep.JudgeFlags'. -/
def judgeFlagsUptoCard : Claim7 := { stood := { row := judgeFlagsUptoRow, standIns := [], harness := (true, "477c8ac1e5299b7999bd25cc74f8ea39c08404d4ac807f54552192b7558712b4"), looks := true }, kinds := [], alts := [], laidByText := true, laidKinds := [.data, .data, .data, .data, .data, .data, .pinned], laidTests := true, laidLooks := .later }
def JudgeFlagsUptoCardSaid : Prop := Claim7.holds Tryz.pinned (.plain (OpenSpec.upto judgeFlagsSpec)) judgeFlagsUptoCard

/-- THE SECOND FORM's CARD OF 'postroomkeep.CodeSame'. -/
def codeSameUptoCard : Claim7 := { stood := { row := codeSameUptoRow, standIns := [], harness := (true, "477c8ac1e5299b7999bd25cc74f8ea39c08404d4ac807f54552192b7558712b4"), looks := true }, kinds := [], alts := [], laidByText := true, laidKinds := [.data, .data, .data, .data, .data, .data, .pinned], laidTests := true, laidLooks := .later }
def CodeSameUptoCardSaid : Prop := Claim7.holds Tryz.pinned (.plain (OpenSpec.upto codeSameSpec)) codeSameUptoCard

/-- THE SECOND FORM's CARD OF 'postroomkeep.CodeMay'. -/
def codeMayUptoCard : Claim7 := { stood := { row := codeMayUptoRow, standIns := [], harness := (true, "477c8ac1e5299b7999bd25cc74f8ea39c08404d4ac807f54552192b7558712b4"), looks := true }, kinds := [], alts := [], laidByText := true, laidKinds := [.data, .data, .data, .data, .data, .data, .pinned], laidTests := true, laidLooks := .later }
def CodeMayUptoCardSaid : Prop := Claim7.holds Tryz.pinned (.plain (OpenSpec.upto codeMaySpec)) codeMayUptoCard
end Rows
end Go.Proofs.YtlcnfpeabnnjoaaGreatDoor
