/-
  DERIVED. GIVEN WITH THE SEED: THE CARDS: each row of YtilhjgdmolgmdabDoorRows.lean that lists a variable, with what it lists TIED to the program's text (the seventh form; the later family's looks); each row that meets fmt, with fmt's text TOLD by the authors' own Lean function (tested against real Go, not proved from fmt's source: count such statements apart). THE CARD IS WHAT COUNTS. Prove the row's statement (the work); the ties are given (YtilhjgdmolgmdabDoorTie.lean); close each card by the builder's one call (the guide's Derived/Test/ToyasCard.lean, 'card_holds'). Laid BY PROGRAM, IN A SANDBOX (cutbox-door.mjs). By AI agents, Wed Nov 11 2026. No macro, syntax, notation, axiom, sorry.
-/
import Derived.Test.YtilhjgdmolgmdabDoorRows
import GoSem.ClaimSeven
namespace Go.Proofs.YtilhjgdmolgmdabDoor
namespace Rows

/-- THE TIED CARD OF 'postroomkeep.AllParts'. -/
def allPartsCard : Claim7 := { stood := { row := allPartsRow, standIns := [], harness := (true, "8acf3babd5e7be44965237da6b8077802a2f2b6db9058f6fac7029b5fe515b29"), looks := true }, kinds := [], alts := [], laidByText := true, laidKinds := [.data, .pinned], laidTests := true, laidLooks := .later }
def AllPartsCardSaid : Prop := Claim7.holds Tryd.pinned (.plain (OpenSpec.ofChange allPartsSpec)) allPartsCard

/-- THE TIED CARD OF 'postroomkeep.SpoolLast'. -/
def spoolLastCard : Claim7 := { stood := { row := spoolLastRow, standIns := [], harness := (true, "8acf3babd5e7be44965237da6b8077802a2f2b6db9058f6fac7029b5fe515b29"), looks := true }, kinds := [], alts := [], laidByText := true, laidKinds := [.data, .pinned], laidTests := true, laidLooks := .later }
def SpoolLastCardSaid : Prop := Claim7.holds Tryd.pinned (.plain (OpenSpec.ofChange spoolLastSpec)) spoolLastCard

/-- THE SECOND FORM's CARD OF 'postroomkeep.AllParts'. -/
def allPartsUptoCard : Claim7 := { stood := { row := allPartsUptoRow, standIns := [], harness := (true, "8acf3babd5e7be44965237da6b8077802a2f2b6db9058f6fac7029b5fe515b29"), looks := true }, kinds := [], alts := [], laidByText := true, laidKinds := [.data, .pinned], laidTests := true, laidLooks := .later }
def AllPartsUptoCardSaid : Prop := Claim7.holds Tryd.pinned (.plain (OpenSpec.upto allPartsSpec)) allPartsUptoCard

/-- THE SECOND FORM's CARD OF 'postroomkeep.SpoolLast'. -/
def spoolLastUptoCard : Claim7 := { stood := { row := spoolLastUptoRow, standIns := [], harness := (true, "8acf3babd5e7be44965237da6b8077802a2f2b6db9058f6fac7029b5fe515b29"), looks := true }, kinds := [], alts := [], laidByText := true, laidKinds := [.data, .pinned], laidTests := true, laidLooks := .later }
def SpoolLastUptoCardSaid : Prop := Claim7.holds Tryd.pinned (.plain (OpenSpec.upto spoolLastSpec)) spoolLastUptoCard
end Rows
end Go.Proofs.YtilhjgdmolgmdabDoor
