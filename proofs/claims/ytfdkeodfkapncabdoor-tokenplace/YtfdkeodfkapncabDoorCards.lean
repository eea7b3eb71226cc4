/-
  DERIVED. GIVEN WITH THE SEED: THE CARDS: each row of YtfdkeodfkapncabDoorRows.lean that lists a variable, with what it lists TIED to the program's text (the seventh form; the later family's looks); each row that meets fmt, with fmt's text TOLD by the authors' own Lean function (tested against real Go, not proved from fmt's source: count such statements apart). THE CARD IS WHAT COUNTS. Prove the row's statement (the work); the ties are given (YtfdkeodfkapncabDoorTie.lean); close each card by the builder's one call (the guide's Derived/Test/ToyasCard.lean, 'card_holds'). Laid BY PROGRAM, IN A SANDBOX (cutbox-door.mjs). By AI agents, Wed Nov 11 2026. No macro, syntax, notation, axiom, sorry.
-/
import Derived.Test.YtfdkeodfkapncabDoorRows
import GoSem.ClaimSeven
namespace Go.Proofs.YtfdkeodfkapncabDoor
namespace Rows

/-- THE TIED CARD OF 'postroomkeep.TokenPlace'. -/
def tokenPlaceCard : Claim7 := { stood := { row := tokenPlaceRow, standIns := [], harness := (true, "4adcfe4a9b02ba6f3ef8c27044282071e52a416e35e91ff9b0a23b14e6ebc813"), looks := false }, kinds := [], alts := [], laidByText := true, laidKinds := [.data, .data, .data, .data, .pinned], laidTests := true, laidLooks := .later }
def TokenPlaceCardSaid : Prop := Claim7.holds Tryd.pinned (.plain (OpenSpec.ofChange tokenPlaceSpec)) tokenPlaceCard

/-- THE TIED CARD OF 'postroomkeep.TokenMany'. -/
def tokenManyCard : Claim7 := { stood := { row := tokenManyRow, standIns := [], harness := (true, "4adcfe4a9b02ba6f3ef8c27044282071e52a416e35e91ff9b0a23b14e6ebc813"), looks := false }, kinds := [], alts := [], laidByText := true, laidKinds := [.data, .data, .data, .data, .pinned], laidTests := true, laidLooks := .later }
def TokenManyCardSaid : Prop := Claim7.holds Tryd.pinned (.plain (OpenSpec.ofChange tokenManySpec)) tokenManyCard

/-- THE SECOND FORM's CARD OF 'postroomkeep.TokenPlace'. -/
def tokenPlaceUptoCard : Claim7 := { stood := { row := tokenPlaceUptoRow, standIns := [], harness := (true, "4adcfe4a9b02ba6f3ef8c27044282071e52a416e35e91ff9b0a23b14e6ebc813"), looks := false }, kinds := [], alts := [], laidByText := true, laidKinds := [.data, .data, .data, .data, .pinned], laidTests := true, laidLooks := .later }
def TokenPlaceUptoCardSaid : Prop := Claim7.holds Tryd.pinned (.plain (OpenSpec.upto tokenPlaceSpec)) tokenPlaceUptoCard

/-- THE SECOND FORM's CARD OF 'postroomkeep.TokenMany'. -/
def tokenManyUptoCard : Claim7 := { stood := { row := tokenManyUptoRow, standIns := [], harness := (true, "4adcfe4a9b02ba6f3ef8c27044282071e52a416e35e91ff9b0a23b14e6ebc813"), looks := false }, kinds := [], alts := [], laidByText := true, laidKinds := [.data, .data, .data, .data, .pinned], laidTests := true, laidLooks := .later }
def TokenManyUptoCardSaid : Prop := Claim7.holds Tryd.pinned (.plain (OpenSpec.upto tokenManySpec)) tokenManyUptoCard
end Rows
end Go.Proofs.YtfdkeodfkapncabDoor
