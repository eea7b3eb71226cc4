/-
  DERIVED. GIVEN WITH THE SEED: THE CARDS: each row of YtmnlaijggoojkaaGreatDoorRows.lean that lists a variable, with what it lists TIED to the program's text (the seventh form; the later family's looks); each row that meets fmt, with fmt's text TOLD by the authors' own Lean function (tested against real Go, not proved from fmt's source: count such statements apart). THE CARD IS WHAT COUNTS. Prove the row's statement (the work); the ties are given (YtmnlaijggoojkaaGreatDoorTie.lean); close each card by the builder's one call (the guide's Derived/Test/ToyasCard.lean, 'card_holds'). Laid BY PROGRAM, IN A SANDBOX (cutbox-door.mjs). By AI agents, Wed Nov 11 2026. No macro, syntax, notation, axiom, sorry.
-/
import Derived.Test.YtmnlaijggoojkaaGreatDoorRows
import GoSem.ClaimSeven
namespace Go.Proofs.YtmnlaijggoojkaaGreatDoor
namespace Rows

/-- THE TIED CARD OF 'postroomkeep.AskLogic'. -/
def askLogicCard : Claim7 := { stood := { row := askLogicRow, standIns := [], harness := (true, "0ce7399434eb02467c8201c3e3bebf33eb8b67c1a3a8edea3d1385b572fc351b"), looks := true }, kinds := [], alts := [], laidByText := true, laidKinds := [.data, .data, .data, .data, .data, .data, .pinned], laidTests := true, laidLooks := .later }
def AskLogicCardSaid : Prop := Claim7.holds Tryz.pinned (.plain (OpenSpec.ofChange askLogicSpec)) askLogicCard

/-- THE TIED CARD OF 'postroomkeep.AskMore'. -/
def askMoreCard : Claim7 := { stood := { row := askMoreRow, standIns := [], harness := (true, "0ce7399434eb02467c8201c3e3bebf33eb8b67c1a3a8edea3d1385b572fc351b"), looks := true }, kinds := [], alts := [], laidByText := true, laidKinds := [.data, .data, .data, .data, .data, .data, .pinned], laidTests := true, laidLooks := .later }
def AskMoreCardSaid : Prop := Claim7.holds Tryz.pinned (.plain (OpenSpec.ofChange askMoreSpec)) askMoreCard

/-- THE TIED CARD OF 'postroomkeep.AskSize'. -/
def askSizeCard : Claim7 := { stood := { row := askSizeRow, standIns := [], harness := (true, "0ce7399434eb02467c8201c3e3bebf33eb8b67c1a3a8edea3d1385b572fc351b"), looks := true }, kinds := [], alts := [], laidByText := true, laidKinds := [.data, .data, .data, .data, .data, .data, .pinned], laidTests := true, laidLooks := .later }
def AskSizeCardSaid : Prop := Claim7.holds Tryz.pinned (.plain (OpenSpec.ofChange askSizeSpec)) askSizeCard

/-- THE TIED CARD OF 'postroomkeep.AskHeader'. -/
def askHeaderCard : Claim7 := { stood := { row := askHeaderRow, standIns := [], harness := (true, "0ce7399434eb02467c8201c3e3bebf33eb8b67c1a3a8edea3d1385b572fc351b"), looks := true }, kinds := [], alts := [], laidByText := true, laidKinds := [.data, .data, .data, .data, .data, .data, .pinned], laidTests := true, laidLooks := .later }
def AskHeaderCardSaid : Prop := Claim7.holds Tryz.pinned (.plain (OpenSpec.ofChange askHeaderSpec)) askHeaderCard

/-- THE TIED CARD OF 'postroomkeep.JudgeStop'. -/
def judgeStopCard : Claim7 := { stood := { row := judgeStopRow, standIns := [], harness := (true, "0ce7399434eb02467c8201c3e3bebf33eb8b67c1a3a8edea3d1385b572fc351b"), looks := true }, kinds := [], alts := [], laidByText := true, laidKinds := [.data, .data, .data, .data, .data, .data, .pinned], laidTests := true, laidLooks := .later }
def JudgeStopCardSaid : Prop := Claim7.holds Tryz.pinned (.plain (OpenSpec.ofChange judgeStopSpec)) judgeStopCard

/-- THE TIED CARD OF 'postroomkeep.JudgeOne'. -/
def judgeOneCard : Claim7 := { stood := { row := judgeOneRow, standIns := [], harness := (true, "0ce7399434eb02467c8201c3e3bebf33eb8b67c1a3a8edea3d1385b572fc351b"), looks := true }, kinds := [], alts := [], laidByText := true, laidKinds := [.data, .data, .data, .data, .data, .data, .pinned], laidTests := true, laidLooks := .later }
def JudgeOneCardSaid : Prop := Claim7.holds Tryz.pinned (.plain (OpenSpec.ofChange judgeOneSpec)) judgeOneCard

/-- THE SECOND FORM's CARD OF 'postroomkeep.AskLogic'. -/
def askLogicUptoCard : Claim7 := { stood := { row := askLogicUptoRow, standIns := [], harness := (true, "0ce7399434eb02467c8201c3e3bebf33eb8b67c1a3a8edea3d1385b572fc351b"), looks := true }, kinds := [], alts := [], laidByText := true, laidKinds := [.data, .data, .data, .data, .data, .data, .pinned], laidTests := true, laidLooks := .later }
def AskLogicUptoCardSaid : Prop := Claim7.holds Tryz.pinned (.plain (OpenSpec.upto askLogicSpec)) askLogicUptoCard

/-- THE SECOND FORM's CARD OF 'postroomkeep.AskMore'. -/
def askMoreUptoCard : Claim7 := { stood := { row := askMoreUptoRow, standIns := [], harness := (true, "0ce7399434eb02467c8201c3e3bebf33eb8b67c1a3a8edea3d1385b572fc351b"), looks := true }, kinds := [], alts := [], laidByText := true, laidKinds := [.data, .data, .data, .data, .data, .data, .pinned], laidTests := true, laidLooks := .later }
def AskMoreUptoCardSaid : Prop := Claim7.holds Tryz.pinned (.plain (OpenSpec.upto askMoreSpec)) askMoreUptoCard

/-- THE SECOND FORM's CARD OF 'postroomkeep.AskSize'. -/
def askSizeUptoCard : Claim7 := { stood := { row := askSizeUptoRow, standIns := [], harness := (true, "0ce7399434eb02467c8201c3e3bebf33eb8b67c1a3a8edea3d1385b572fc351b"), looks := true }, kinds := [], alts := [], laidByText := true, laidKinds := [.data, .data, .data, .data, .data, .data, .pinned], laidTests := true, laidLooks := .later }
def AskSizeUptoCardSaid : Prop := Claim7.holds Tryz.pinned (.plain (OpenSpec.upto askSizeSpec)) askSizeUptoCard

/-- THE SECOND FORM's CARD OF 'postroomkeep.AskHeader'. -/
def askHeaderUptoCard : Claim7 := { stood := { row := askHeaderUptoRow, standIns := [], harness := (true, "0ce7399434eb02467c8201c3e3bebf33eb8b67c1a3a8edea3d1385b572fc351b"), looks := true }, kinds := [], alts := [], laidByText := true, laidKinds := [.data, .data, .data, .data, .data, .data, .pinned], laidTests := true, laidLooks := .later }
def AskHeaderUptoCardSaid : Prop := Claim7.holds Tryz.pinned (.plain (OpenSpec.upto askHeaderSpec)) askHeaderUptoCard

/-- THE SECOND FORM's CARD OF 'postroomkeep.JudgeStop'. -/
def judgeStopUptoCard : Claim7 := { stood := { row := judgeStopUptoRow, standIns := [], harness := (true, "0ce7399434eb02467c8201c3e3bebf33eb8b67c1a3a8edea3d1385b572fc351b"), looks := true }, kinds := [], alts := [], laidByText := true, laidKinds := [.data, .data, .data, .data, .data, .data, .pinned], laidTests := true, laidLooks := .later }
def JudgeStopUptoCardSaid : Prop := Claim7.holds Tryz.pinned (.plain (OpenSpec.upto judgeStopSpec)) judgeStopUptoCard

/-- THE SECOND FORM's CARD OF 'postroomkeep.JudgeOne'. -/
def judgeOneUptoCard : Claim7 := { stood := { row := judgeOneUptoRow, standIns := [], harness := (true, "0ce7399434eb02467c8201c3e3bebf33eb8b67c1a3a8edea3d1385b572fc351b"), looks := true }, kinds := [], alts := [], laidByText := true, laidKinds := [.data, .data, .data, .data, .data, .data, .pinned], laidTests := true, laidLooks := .later }
def JudgeOneUptoCardSaid : Prop := Claim7.holds Tryz.pinned (.plain (OpenSpec.upto judgeOneSpec)) judgeOneUptoCard
end Rows
end Go.Proofs.YtmnlaijggoojkaaGreatDoor
