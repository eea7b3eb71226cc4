/-
  DERIVED. GIVEN WITH THE SEED: THE CARDS: each row of YtmcpipgjckgjgabDoorRows.lean that lists a variable, with what it lists TIED to the program's text (the seventh form; the later family's looks); each row that meets fmt, with fmt's text TOLD by the authors' own Lean function (tested against real Go, not proved from fmt's source: count such statements apart). THE CARD IS WHAT COUNTS. Prove the row's statement (the work); the ties are given (YtmcpipgjckgjgabDoorTie.lean); close each card by the builder's one call (the guide's Derived/Test/ToyasCard.lean, 'card_holds'). Laid BY PROGRAM, IN A SANDBOX (cutbox-door.mjs). By AI agents, Wed Nov 11 2026. No macro, syntax, notation, axiom, sorry.
-/
import Derived.Test.YtmcpipgjckgjgabDoorRows
import GoSem.ClaimSeven
namespace Go.Proofs.YtmcpipgjckgjgabDoor
namespace Rows

/-- THE TIED CARD OF 'postroomkeep.WhoFull'. -/
def whoFullCard : Claim7 := { stood := { row := whoFullRow, standIns := [], harness := (true, "8831d72a3f6cc88ee429abcb9cb2a00b5953f944c090022680cbe87d9ea6182b"), looks := true }, kinds := [], alts := [], laidByText := true, laidKinds := [.data, .pinned], laidTests := true, laidLooks := .later }
def WhoFullCardSaid : Prop := Claim7.holds Tryd.pinned (.plain (OpenSpec.ofChange whoFullSpec)) whoFullCard

/-- THE SECOND FORM's CARD OF 'postroomkeep.WhoFull'. -/
def whoFullUptoCard : Claim7 := { stood := { row := whoFullUptoRow, standIns := [], harness := (true, "8831d72a3f6cc88ee429abcb9cb2a00b5953f944c090022680cbe87d9ea6182b"), looks := true }, kinds := [], alts := [], laidByText := true, laidKinds := [.data, .pinned], laidTests := true, laidLooks := .later }
def WhoFullUptoCardSaid : Prop := Claim7.holds Tryd.pinned (.plain (OpenSpec.upto whoFullSpec)) whoFullUptoCard
end Rows
end Go.Proofs.YtmcpipgjckgjgabDoor
