/-
  DERIVED. GIVEN WITH THE SEED: THE CARDS: each row of YtaelgmibjiocfaaDoorRows.lean that lists a variable, with what it lists TIED to the program's text (the seventh form; the later family's looks); each row that meets fmt, with fmt's text TOLD by the authors' own Lean function (tested against real Go, not proved from fmt's source: count such statements apart). THE CARD IS WHAT COUNTS. Prove the row's statement (the work); the ties are given (YtaelgmibjiocfaaDoorTie.lean); close each card by the builder's one call (the guide's Derived/Test/ToyasCard.lean, 'card_holds'). Laid BY PROGRAM, IN A SANDBOX (cutbox-door.mjs). By AI agents, Wed Nov 11 2026. No macro, syntax, notation, axiom, sorry.
-/
import Derived.Test.YtaelgmibjiocfaaDoorRows
import GoSem.ClaimSeven
namespace Go.Proofs.YtaelgmibjiocfaaDoor
namespace Rows

/-- THE TIED CARD OF 'postroomkeep.ScriptElse'. -/
def scriptElseCard : Claim7 := { stood := { row := scriptElseRow, standIns := [], harness := (true, "494f5bca3ac00f9865ce2dfb30fa0d99cea82a151d4ef55f881e8e85a4692d03"), looks := false }, kinds := [], alts := [], laidByText := true, laidKinds := [.data], laidTests := true, laidLooks := .later }
def ScriptElseCardSaid : Prop := Claim7.holds Tryd.pinned (.plain (OpenSpec.ofChange scriptElseSpec)) scriptElseCard

/-- THE SECOND FORM's CARD OF 'postroomkeep.ScriptElse'. -/
def scriptElseUptoCard : Claim7 := { stood := { row := scriptElseUptoRow, standIns := [], harness := (true, "494f5bca3ac00f9865ce2dfb30fa0d99cea82a151d4ef55f881e8e85a4692d03"), looks := false }, kinds := [], alts := [], laidByText := true, laidKinds := [.data], laidTests := true, laidLooks := .later }
def ScriptElseUptoCardSaid : Prop := Claim7.holds Tryd.pinned (.plain (OpenSpec.upto scriptElseSpec)) scriptElseUptoCard
end Rows
end Go.Proofs.YtaelgmibjiocfaaDoor
