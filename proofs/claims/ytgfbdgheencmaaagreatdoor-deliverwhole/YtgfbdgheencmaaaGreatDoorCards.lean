/-
  DERIVED. GIVEN WITH THE SEED: THE CARDS: each row of YtgfbdgheencmaaaGreatDoorRows.lean that lists a variable, with what it lists TIED to the program's text (the seventh form; the later family's looks); each row that meets fmt, with fmt's text TOLD by the authors' own Lean function (tested against real Go, not proved from fmt's source: count such statements apart). THE CARD IS WHAT COUNTS. Prove the row's statement (the work); the ties are given (YtgfbdgheencmaaaGreatDoorTie.lean); close each card by the builder's one call (the guide's Derived/Test/ToyasCard.lean, 'card_holds'). Laid BY PROGRAM, IN A SANDBOX (cutbox-door.mjs). By AI agents, Wed Nov 11 2026. No macro, syntax, notation, axiom, sorry.
-/
import Derived.Test.YtgfbdgheencmaaaGreatDoorRows
import GoSem.ClaimSeven
namespace Go.Proofs.YtgfbdgheencmaaaGreatDoor
namespace Rows

/-- THE TIED CARD OF 'postroomkeep.DeliverWhole'. -/
def deliverWholeCard : Claim7 := { stood := { row := deliverWholeRow, standIns := [], harness := (true, "2ea1f50276ccaf1101c356756c80a60a2cf9ce476dbb4b7a4971de681f5db472"), looks := true }, kinds := [], alts := [], laidByText := true, laidKinds := [.data, .data, .data, .data, .data, .data, .pinned], laidTests := true, laidLooks := .later }
def DeliverWholeCardSaid : Prop := Claim7.holds Tryz.pinned (.plain (OpenSpec.ofChange deliverWholeSpec)) deliverWholeCard

/-- THE SECOND FORM's CARD OF 'postroomkeep.DeliverWhole'. -/
def deliverWholeUptoCard : Claim7 := { stood := { row := deliverWholeUptoRow, standIns := [], harness := (true, "2ea1f50276ccaf1101c356756c80a60a2cf9ce476dbb4b7a4971de681f5db472"), looks := true }, kinds := [], alts := [], laidByText := true, laidKinds := [.data, .data, .data, .data, .data, .data, .pinned], laidTests := true, laidLooks := .later }
def DeliverWholeUptoCardSaid : Prop := Claim7.holds Tryz.pinned (.plain (OpenSpec.upto deliverWholeSpec)) deliverWholeUptoCard
end Rows
end Go.Proofs.YtgfbdgheencmaaaGreatDoor
