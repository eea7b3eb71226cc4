/-
  DERIVED. GIVEN WITH THE SEED: THE CARDS: each row of YtaapmpchcfcniaaGreatDoorRows.lean that lists a variable, with what it lists TIED to the program's text (the seventh form; the later family's looks); each row that meets fmt, with fmt's text TOLD by the authors' own Lean function (tested against real Go, not proved from fmt's source: count such statements apart). THE CARD IS WHAT COUNTS. Prove the row's statement (the work); the ties are given (YtaapmpchcfcniaaGreatDoorTie.lean); close each card by the builder's one call (the guide's Derived/Test/ToyasCard.lean, 'card_holds'). Laid BY PROGRAM, IN A SANDBOX (cutbox-door.mjs). By AI agents, Wed Nov 11 2026. No macro, syntax, notation, axiom, sorry.
-/
import Derived.Test.YtaapmpchcfcniaaGreatDoorRows
import GoSem.ClaimSeven
namespace Go.Proofs.YtaapmpchcfcniaaGreatDoor
namespace Rows

/-- THE TIED CARD OF 'postroomkeep.CodeSame'. -/
def codeSameCard : Claim7 := { stood := { row := codeSameRow, standIns := [], harness := (true, "a2974f0014d5d1a11e1724eb55624cfc4523c62281ee09eafdbef54e5d02d617"), looks := true }, kinds := [], alts := [], laidByText := true, laidKinds := [.data, .data, .data, .data, .data, .data, .pinned], laidTests := true, laidLooks := .later }
def CodeSameCardSaid : Prop := Claim7.holds Tryz.pinned (.plain (OpenSpec.ofChange codeSameSpec)) codeSameCard

/-- THE TIED CARD OF 'postroomkeep.CodeNots'. -/
def codeNotsCard : Claim7 := { stood := { row := codeNotsRow, standIns := [], harness := (true, "a2974f0014d5d1a11e1724eb55624cfc4523c62281ee09eafdbef54e5d02d617"), looks := true }, kinds := [], alts := [], laidByText := true, laidKinds := [.data, .data, .data, .data, .data, .data, .pinned], laidTests := true, laidLooks := .later }
def CodeNotsCardSaid : Prop := Claim7.holds Tryz.pinned (.plain (OpenSpec.ofChange codeNotsSpec)) codeNotsCard

/-- THE SECOND FORM's CARD OF 'postroomkeep.CodeSame'. -/
def codeSameUptoCard : Claim7 := { stood := { row := codeSameUptoRow, standIns := [], harness := (true, "a2974f0014d5d1a11e1724eb55624cfc4523c62281ee09eafdbef54e5d02d617"), looks := true }, kinds := [], alts := [], laidByText := true, laidKinds := [.data, .data, .data, .data, .data, .data, .pinned], laidTests := true, laidLooks := .later }
def CodeSameUptoCardSaid : Prop := Claim7.holds Tryz.pinned (.plain (OpenSpec.upto codeSameSpec)) codeSameUptoCard

/-- THE SECOND FORM's CARD OF 'postroomkeep.CodeNots'. -/
def codeNotsUptoCard : Claim7 := { stood := { row := codeNotsUptoRow, standIns := [], harness := (true, "a2974f0014d5d1a11e1724eb55624cfc4523c62281ee09eafdbef54e5d02d617"), looks := true }, kinds := [], alts := [], laidByText := true, laidKinds := [.data, .data, .data, .data, .data, .data, .pinned], laidTests := true, laidLooks := .later }
def CodeNotsUptoCardSaid : Prop := Claim7.holds Tryz.pinned (.plain (OpenSpec.upto codeNotsSpec)) codeNotsUptoCard
end Rows
end Go.Proofs.YtaapmpchcfcniaaGreatDoor
