/-
  DERIVED. GIVEN WITH THE SEED: THE CARDS: each row of YtlfgemnmfhknfaaGreatDoorRows.lean that lists a variable, with what it lists TIED to the program's text (the seventh form; the later family's looks); each row that meets fmt, with fmt's text TOLD by the authors' own Lean function (tested against real Go, not proved from fmt's source: count such statements apart). THE CARD IS WHAT COUNTS. Prove the row's statement (the work); the ties are given (YtlfgemnmfhknfaaGreatDoorTie.lean); close each card by the builder's one call (the guide's Derived/Test/ToyasCard.lean, 'card_holds'). Laid BY PROGRAM, IN A SANDBOX (cutbox-door.mjs). By AI agents, Wed Nov 11 2026. No macro, syntax, notation, axiom, sorry.
-/
import Derived.Test.YtlfgemnmfhknfaaGreatDoorRows
import GoSem.ClaimSeven
namespace Go.Proofs.YtlfgemnmfhknfaaGreatDoor
namespace Rows

/-- THE TIED CARD OF 'postroomtop.TopLines'. -/
def topLinesCard : Claim7 := { stood := { row := topLinesRow, standIns := [], harness := (true, "18bdaeeae265c8ee2499fb9e21cd0fd0f586e7f2aaf858a5e6028ce48be8d550"), looks := true }, kinds := [], alts := [], laidByText := true, laidKinds := [.data, .data, .data, .data, .data, .data, .pinned], laidTests := true, laidLooks := .later }
def TopLinesCardSaid : Prop := Claim7.holds Tryz.pinned (.plain (OpenSpec.ofChange topLinesSpec)) topLinesCard

/-- THE TIED CARD OF 'postroomtop.TopLarge'. -/
def topLargeCard : Claim7 := { stood := { row := topLargeRow, standIns := [], harness := (true, "18bdaeeae265c8ee2499fb9e21cd0fd0f586e7f2aaf858a5e6028ce48be8d550"), looks := true }, kinds := [], alts := [], laidByText := true, laidKinds := [.data, .data, .data, .data, .data, .data, .pinned], laidTests := true, laidLooks := .later }
def TopLargeCardSaid : Prop := Claim7.holds Tryz.pinned (.plain (OpenSpec.ofChange topLargeSpec)) topLargeCard

/-- THE SECOND FORM's CARD OF 'postroomtop.TopLines'. -/
def topLinesUptoCard : Claim7 := { stood := { row := topLinesUptoRow, standIns := [], harness := (true, "18bdaeeae265c8ee2499fb9e21cd0fd0f586e7f2aaf858a5e6028ce48be8d550"), looks := true }, kinds := [], alts := [], laidByText := true, laidKinds := [.data, .data, .data, .data, .data, .data, .pinned], laidTests := true, laidLooks := .later }
def TopLinesUptoCardSaid : Prop := Claim7.holds Tryz.pinned (.plain (OpenSpec.upto topLinesSpec)) topLinesUptoCard

/-- THE SECOND FORM's CARD OF 'postroomtop.TopLarge'. -/
def topLargeUptoCard : Claim7 := { stood := { row := topLargeUptoRow, standIns := [], harness := (true, "18bdaeeae265c8ee2499fb9e21cd0fd0f586e7f2aaf858a5e6028ce48be8d550"), looks := true }, kinds := [], alts := [], laidByText := true, laidKinds := [.data, .data, .data, .data, .data, .data, .pinned], laidTests := true, laidLooks := .later }
def TopLargeUptoCardSaid : Prop := Claim7.holds Tryz.pinned (.plain (OpenSpec.upto topLargeSpec)) topLargeUptoCard
end Rows
end Go.Proofs.YtlfgemnmfhknfaaGreatDoor
