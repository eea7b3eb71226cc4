/-
  DERIVED. GIVEN WITH THE SEED: THE CARDS: each row of YtlcnfpeabnnjoabDoorRows.lean that lists a variable, with what it lists TIED to the program's text (the seventh form; the later family's looks); each row that meets fmt, with fmt's text TOLD by the authors' own Lean function (tested against real Go, not proved from fmt's source: count such statements apart). THE CARD IS WHAT COUNTS. Prove the row's statement (the work); the ties are given (YtlcnfpeabnnjoabDoorTie.lean); close each card by the builder's one call (the guide's Derived/Test/ToyasCard.lean, 'card_holds'). Laid BY PROGRAM, IN A SANDBOX (cutbox-door.mjs). By AI agents, Wed Nov 11 2026. No macro, syntax, notation, axiom, sorry.
-/
import Derived.Test.YtlcnfpeabnnjoabDoorRows
import GoSem.ClaimSeven
namespace Go.Proofs.YtlcnfpeabnnjoabDoor
namespace Rows

/-- THE TIED CARD OF 'postroomkeep.CodeCount'. -/
def codeCountCard : Claim7 := { stood := { row := codeCountRow, standIns := [], harness := (true, "2fdb43ed8b0998f9cfd687042cc6c7d78025476a8a2553e0a0d2f0e40913ef31"), looks := true }, kinds := [], alts := [], laidByText := true, laidKinds := [.data, .data, .data, .data, .data, .data, .pinned], laidTests := true, laidLooks := .later }
def CodeCountCardSaid : Prop := Claim7.holds Tryd.pinned (.plain (OpenSpec.ofChange codeCountSpec)) codeCountCard

/-- THE SECOND FORM's CARD OF 'postroomkeep.CodeCount'. -/
def codeCountUptoCard : Claim7 := { stood := { row := codeCountUptoRow, standIns := [], harness := (true, "2fdb43ed8b0998f9cfd687042cc6c7d78025476a8a2553e0a0d2f0e40913ef31"), looks := true }, kinds := [], alts := [], laidByText := true, laidKinds := [.data, .data, .data, .data, .data, .data, .pinned], laidTests := true, laidLooks := .later }
def CodeCountUptoCardSaid : Prop := Claim7.holds Tryd.pinned (.plain (OpenSpec.upto codeCountSpec)) codeCountUptoCard
end Rows
end Go.Proofs.YtlcnfpeabnnjoabDoor
