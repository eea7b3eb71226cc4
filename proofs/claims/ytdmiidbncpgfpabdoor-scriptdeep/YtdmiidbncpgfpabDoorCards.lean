/-
  DERIVED. GIVEN WITH THE SEED: THE CARDS: each row of YtdmiidbncpgfpabDoorRows.lean that lists a variable, with what it lists TIED to the program's text (the seventh form; the later family's looks); each row that meets fmt, with fmt's text TOLD by the authors' own Lean function (tested against real Go, not proved from fmt's source: count such statements apart). THE CARD IS WHAT COUNTS. Prove the row's statement (the work); the ties are given (YtdmiidbncpgfpabDoorTie.lean); close each card by the builder's one call (the guide's Derived/Test/ToyasCard.lean, 'card_holds'). Laid BY PROGRAM, IN A SANDBOX (cutbox-door.mjs). By AI agents, Wed Nov 11 2026. No macro, syntax, notation, axiom, sorry.
-/
import Derived.Test.YtdmiidbncpgfpabDoorRows
import GoSem.ClaimSeven
namespace Go.Proofs.YtdmiidbncpgfpabDoor
namespace Rows

/-- THE TIED CARD OF 'postroomkeep.ScriptDeep'. -/
def scriptDeepCard : Claim7 := { stood := { row := scriptDeepRow, standIns := [], harness := (true, "9c398cebacb786a369af77573475e3f0f78d8f956f55b7fe2e805b08ea72cb3e"), looks := true }, kinds := [], alts := [], laidByText := true, laidKinds := [.data], laidTests := true, laidLooks := .later }
def ScriptDeepCardSaid : Prop := Claim7.holds Tryd.pinned (.plain (OpenSpec.ofChange scriptDeepSpec)) scriptDeepCard

/-- THE TIED CARD OF 'postroomkeep.ScriptTags'. -/
def scriptTagsCard : Claim7 := { stood := { row := scriptTagsRow, standIns := [], harness := (true, "9c398cebacb786a369af77573475e3f0f78d8f956f55b7fe2e805b08ea72cb3e"), looks := true }, kinds := [], alts := [], laidByText := true, laidKinds := [.data], laidTests := true, laidLooks := .later }
def ScriptTagsCardSaid : Prop := Claim7.holds Tryd.pinned (.plain (OpenSpec.ofChange scriptTagsSpec)) scriptTagsCard

/-- THE TIED CARD OF 'postroomkeep.ScriptElse'. -/
def scriptElseCard : Claim7 := { stood := { row := scriptElseRow, standIns := [], harness := (true, "9c398cebacb786a369af77573475e3f0f78d8f956f55b7fe2e805b08ea72cb3e"), looks := true }, kinds := [], alts := [], laidByText := true, laidKinds := [.data], laidTests := true, laidLooks := .later }
def ScriptElseCardSaid : Prop := Claim7.holds Tryd.pinned (.plain (OpenSpec.ofChange scriptElseSpec)) scriptElseCard

/-- THE SECOND FORM's CARD OF 'postroomkeep.ScriptDeep'. -/
def scriptDeepUptoCard : Claim7 := { stood := { row := scriptDeepUptoRow, standIns := [], harness := (true, "9c398cebacb786a369af77573475e3f0f78d8f956f55b7fe2e805b08ea72cb3e"), looks := true }, kinds := [], alts := [], laidByText := true, laidKinds := [.data], laidTests := true, laidLooks := .later }
def ScriptDeepUptoCardSaid : Prop := Claim7.holds Tryd.pinned (.plain (OpenSpec.upto scriptDeepSpec)) scriptDeepUptoCard

/-- THE SECOND FORM's CARD OF 'postroomkeep.ScriptTags'. -/
def scriptTagsUptoCard : Claim7 := { stood := { row := scriptTagsUptoRow, standIns := [], harness := (true, "9c398cebacb786a369af77573475e3f0f78d8f956f55b7fe2e805b08ea72cb3e"), looks := true }, kinds := [], alts := [], laidByText := true, laidKinds := [.data], laidTests := true, laidLooks := .later }
def ScriptTagsUptoCardSaid : Prop := Claim7.holds Tryd.pinned (.plain (OpenSpec.upto scriptTagsSpec)) scriptTagsUptoCard

/-- THE SECOND FORM's CARD OF 'postroomkeep.ScriptElse'. -/
def scriptElseUptoCard : Claim7 := { stood := { row := scriptElseUptoRow, standIns := [], harness := (true, "9c398cebacb786a369af77573475e3f0f78d8f956f55b7fe2e805b08ea72cb3e"), looks := true }, kinds := [], alts := [], laidByText := true, laidKinds := [.data], laidTests := true, laidLooks := .later }
def ScriptElseUptoCardSaid : Prop := Claim7.holds Tryd.pinned (.plain (OpenSpec.upto scriptElseSpec)) scriptElseUptoCard
end Rows
end Go.Proofs.YtdmiidbncpgfpabDoor
