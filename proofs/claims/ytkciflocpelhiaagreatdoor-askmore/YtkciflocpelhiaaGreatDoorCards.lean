/-
  DERIVED. GIVEN WITH THE SEED: THE CARDS: each row of YtkciflocpelhiaaGreatDoorRows.lean that lists a variable, with what it lists TIED to the program's text (the seventh form; the later family's looks); each row that meets fmt, with fmt's text TOLD by the authors' own Lean function (tested against real Go, not proved from fmt's source: count such statements apart). THE CARD IS WHAT COUNTS. Prove the row's statement (the work); the ties are given (YtkciflocpelhiaaGreatDoorTie.lean); close each card by the builder's one call (the guide's Derived/Test/ToyasCard.lean, 'card_holds'). Laid BY PROGRAM, IN A SANDBOX (cutbox-door.mjs). By AI agents, Wed Nov 11 2026. No macro, syntax, notation, axiom, sorry.
-/
import Derived.Test.YtkciflocpelhiaaGreatDoorRows
import GoSem.ClaimSeven
namespace Go.Proofs.YtkciflocpelhiaaGreatDoor
namespace Rows

/-- THE TIED CARD OF 'postroomkeep.AskMore'. -/
def askMoreCard : Claim7 := { stood := { row := askMoreRow, standIns := [], harness := (true, "e9e61522e200fd7ed66119817b40fee36c02306decc71419e1edf15511a7a5e2"), looks := true }, kinds := [], alts := [], laidByText := true, laidKinds := [.data, .data, .data, .data, .data, .data, .pinned], laidTests := true, laidLooks := .later }
def AskMoreCardSaid : Prop := Claim7.holds Tryz.pinned (.plain (OpenSpec.ofChange askMoreSpec)) askMoreCard

/-- THE SECOND FORM's CARD OF 'postroomkeep.AskMore'. -/
def askMoreUptoCard : Claim7 := { stood := { row := askMoreUptoRow, standIns := [], harness := (true, "e9e61522e200fd7ed66119817b40fee36c02306decc71419e1edf15511a7a5e2"), looks := true }, kinds := [], alts := [], laidByText := true, laidKinds := [.data, .data, .data, .data, .data, .data, .pinned], laidTests := true, laidLooks := .later }
def AskMoreUptoCardSaid : Prop := Claim7.holds Tryz.pinned (.plain (OpenSpec.upto askMoreSpec)) askMoreUptoCard
end Rows
end Go.Proofs.YtkciflocpelhiaaGreatDoor
