/-
  DERIVED. GIVEN WITH THE SEED: THE CARDS: each row of YtcphpnnhopflgaaGreatDoorRows.lean that lists a variable, with what it lists TIED to the program's text (the seventh form; the later family's looks); each row that meets fmt, with fmt's text TOLD by the authors' own Lean function (tested against real Go, not proved from fmt's source: count such statements apart). THE CARD IS WHAT COUNTS. Prove the row's statement (the work); the ties are given (YtcphpnnhopflgaaGreatDoorTie.lean); close each card by the builder's one call (the guide's Derived/Test/ToyasCard.lean, 'card_holds'). Laid BY PROGRAM, IN A SANDBOX (cutbox-door.mjs). By AI agents, Wed Nov 11 2026. No macro, syntax, notation, axiom, sorry.
-/
import Derived.Test.YtcphpnnhopflgaaGreatDoorRows
import GoSem.ClaimSeven
namespace Go.Proofs.YtcphpnnhopflgaaGreatDoor
namespace Rows

/-- THE TIED CARD OF 'postroomkeep.JudgeFlags'. -/
def judgeFlagsCard : Claim7 := { stood := { row := judgeFlagsRow, standIns := [], harness := (true, "5c9e703b7eeda7c6fd19bf8e9bd866fe552330af5365089bac8473d80c7110f6"), looks := true }, kinds := [], alts := [], laidByText := true, laidKinds := [.data, .data, .data, .data, .data, .data, .pinned], laidTests := true, laidLooks := .later }
def JudgeFlagsCardSaid : Prop := Claim7.holds Tryz.pinned (.plain (OpenSpec.ofChange judgeFlagsSpec)) judgeFlagsCard

/-- THE SECOND FORM's CARD OF 'postroomkeep.JudgeFlags'. -/
def judgeFlagsUptoCard : Claim7 := { stood := { row := judgeFlagsUptoRow, standIns := [], harness := (true, "5c9e703b7eeda7c6fd19bf8e9bd866fe552330af5365089bac8473d80c7110f6"), looks := true }, kinds := [], alts := [], laidByText := true, laidKinds := [.data, .data, .data, .data, .data, .data, .pinned], laidTests := true, laidLooks := .later }
def JudgeFlagsUptoCardSaid : Prop := Claim7.holds Tryz.pinned (.plain (OpenSpec.upto judgeFlagsSpec)) judgeFlagsUptoCard
end Rows
end Go.Proofs.YtcphpnnhopflgaaGreatDoor
