/-
  DERIVED. GIVEN WITH THE SEED: THE CARDS: each row of YtmgdnhjemhhleaaGreatDoorRows.lean that lists a variable, with what it lists TIED to the program's text (the seventh form; the later family's looks); each row that meets fmt, with fmt's text TOLD by the authors' own Lean function (tested against real Go, not proved from fmt's source: count such statements apart). THE CARD IS WHAT COUNTS. Prove the row's statement (the work); the ties are given (YtmgdnhjemhhleaaGreatDoorTie.lean); close each card by the builder's one call (the guide's Derived/Test/ToyasCard.lean, 'card_holds'). Laid BY PROGRAM, IN A SANDBOX (cutbox-door.mjs). By AI agents, Wed Nov 11 2026. No macro, syntax, notation, axiom, sorry.
-/
import Derived.Test.YtmgdnhjemhhleaaGreatDoorRows
import GoSem.ClaimSeven
namespace Go.Proofs.YtmgdnhjemhhleaaGreatDoor
namespace Rows

/-- THE TIED CARD OF 'postroomtop.TopOdd'. -/
def topOddCard : Claim7 := { stood := { row := topOddRow, standIns := [], harness := (true, "4e9b686f0fc2e5a4e22358a482b5c86402f7149a34daa78546653a0cc6261e32"), looks := true }, kinds := [], alts := [], laidByText := true, laidKinds := [.data, .data, .data, .data, .data, .data, .pinned], laidTests := true, laidLooks := .later }
def TopOddCardSaid : Prop := Claim7.holds Tryz.pinned (.plain (OpenSpec.ofChange topOddSpec)) topOddCard

/-- THE SECOND FORM's CARD OF 'postroomtop.TopOdd'. -/
def topOddUptoCard : Claim7 := { stood := { row := topOddUptoRow, standIns := [], harness := (true, "4e9b686f0fc2e5a4e22358a482b5c86402f7149a34daa78546653a0cc6261e32"), looks := true }, kinds := [], alts := [], laidByText := true, laidKinds := [.data, .data, .data, .data, .data, .data, .pinned], laidTests := true, laidLooks := .later }
def TopOddUptoCardSaid : Prop := Claim7.holds Tryz.pinned (.plain (OpenSpec.upto topOddSpec)) topOddUptoCard
end Rows
end Go.Proofs.YtmgdnhjemhhleaaGreatDoor
