/-
  DERIVED. GIVEN WITH THE SEED: THE CARDS: each row of YtaaenhjhjclilabDoorRows.lean that lists a variable, with what it lists TIED to the program's text (the seventh form; the later family's looks); each row that meets fmt, with fmt's text TOLD by the authors' own Lean function (tested against real Go, not proved from fmt's source: count such statements apart). THE CARD IS WHAT COUNTS. Prove the row's statement (the work); the ties are given (YtaaenhjhjclilabDoorTie.lean); close each card by the builder's one call (the guide's Derived/Test/ToyasCard.lean, 'card_holds'). Laid BY PROGRAM, IN A SANDBOX (cutbox-door.mjs). By AI agents, Wed Nov 11 2026. No macro, syntax, notation, axiom, sorry.
-/
import Derived.Test.YtaaenhjhjclilabDoorRows
import GoSem.ClaimSeven
namespace Go.Proofs.YtaaenhjhjclilabDoor
namespace Rows

/-- THE TIED CARD OF 'postroomkeep.FoldParts'. -/
def foldPartsCard : Claim7 := { stood := { row := foldPartsRow, standIns := [], harness := (true, "47b46bc04dc9e946836af8724529a362a5fdb2d8e1dd85ed4da361b86bf02629"), looks := true }, kinds := [], alts := [], laidByText := true, laidKinds := [.data, .pinned], laidTests := true, laidLooks := .later }
def FoldPartsCardSaid : Prop := Claim7.holds Tryd.pinned (.plain (OpenSpec.ofChange foldPartsSpec)) foldPartsCard

/-- THE TIED CARD OF 'postroomkeep.BookSynced'. -/
def bookSyncedCard : Claim7 := { stood := { row := bookSyncedRow, standIns := [], harness := (true, "47b46bc04dc9e946836af8724529a362a5fdb2d8e1dd85ed4da361b86bf02629"), looks := true }, kinds := [], alts := [], laidByText := true, laidKinds := [.data, .pinned], laidTests := true, laidLooks := .later }
def BookSyncedCardSaid : Prop := Claim7.holds Tryd.pinned (.plain (OpenSpec.ofChange bookSyncedSpec)) bookSyncedCard

/-- THE SECOND FORM's CARD OF 'postroomkeep.FoldParts'. -/
def foldPartsUptoCard : Claim7 := { stood := { row := foldPartsUptoRow, standIns := [], harness := (true, "47b46bc04dc9e946836af8724529a362a5fdb2d8e1dd85ed4da361b86bf02629"), looks := true }, kinds := [], alts := [], laidByText := true, laidKinds := [.data, .pinned], laidTests := true, laidLooks := .later }
def FoldPartsUptoCardSaid : Prop := Claim7.holds Tryd.pinned (.plain (OpenSpec.upto foldPartsSpec)) foldPartsUptoCard

/-- THE SECOND FORM's CARD OF 'postroomkeep.BookSynced'. -/
def bookSyncedUptoCard : Claim7 := { stood := { row := bookSyncedUptoRow, standIns := [], harness := (true, "47b46bc04dc9e946836af8724529a362a5fdb2d8e1dd85ed4da361b86bf02629"), looks := true }, kinds := [], alts := [], laidByText := true, laidKinds := [.data, .pinned], laidTests := true, laidLooks := .later }
def BookSyncedUptoCardSaid : Prop := Claim7.holds Tryd.pinned (.plain (OpenSpec.upto bookSyncedSpec)) bookSyncedUptoCard
end Rows
end Go.Proofs.YtaaenhjhjclilabDoor
