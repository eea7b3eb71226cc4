/-
  DERIVED. GIVEN WITH THE SEED: THE CARDS: each row of YtdpdcaglldojiaaDoorRows.lean that lists a variable, with what it lists TIED to the program's text (the seventh form; the later family's looks); each row that meets fmt, with fmt's text TOLD by the authors' own Lean function (tested against real Go, not proved from fmt's source: count such statements apart). THE CARD IS WHAT COUNTS. Prove the row's statement (the work); the ties are given (YtdpdcaglldojiaaDoorTie.lean); close each card by the builder's one call (the guide's Derived/Test/ToyasCard.lean, 'card_holds'). Laid BY PROGRAM, IN A SANDBOX (cutbox-door.mjs). By AI agents, Wed Nov 11 2026. No macro, syntax, notation, axiom, sorry.
-/
import Derived.Test.YtdpdcaglldojiaaDoorRows
import GoSem.ClaimSeven
namespace Go.Proofs.YtdpdcaglldojiaaDoor
namespace Rows

/-- THE TIED CARD OF 'postroomkeep.LetterFolded'. -/
def letterFoldedCard : Claim7 := { stood := { row := letterFoldedRow, standIns := [], harness := (true, "583ee94c7a5a83b414291a1876cebea1da135fbca5bad58a4cb7f5171c7f8c45"), looks := false }, kinds := [], alts := [], laidByText := true, laidKinds := [.data, .pinned], laidTests := true, laidLooks := .later }
def LetterFoldedCardSaid : Prop := Claim7.holds Tryd.pinned (.plain (OpenSpec.ofChange letterFoldedSpec)) letterFoldedCard

/-- THE TIED CARD OF 'postroomkeep.LetterTorn'. -/
def letterTornCard : Claim7 := { stood := { row := letterTornRow, standIns := [], harness := (true, "583ee94c7a5a83b414291a1876cebea1da135fbca5bad58a4cb7f5171c7f8c45"), looks := false }, kinds := [], alts := [], laidByText := true, laidKinds := [.data, .pinned], laidTests := true, laidLooks := .later }
def LetterTornCardSaid : Prop := Claim7.holds Tryd.pinned (.plain (OpenSpec.ofChange letterTornSpec)) letterTornCard

/-- THE TIED CARD OF 'postroomkeep.LetterNamed'. -/
def letterNamedCard : Claim7 := { stood := { row := letterNamedRow, standIns := [], harness := (true, "583ee94c7a5a83b414291a1876cebea1da135fbca5bad58a4cb7f5171c7f8c45"), looks := false }, kinds := [], alts := [], laidByText := true, laidKinds := [.data, .pinned], laidTests := true, laidLooks := .later }
def LetterNamedCardSaid : Prop := Claim7.holds Tryd.pinned (.plain (OpenSpec.ofChange letterNamedSpec)) letterNamedCard

/-- THE TIED CARD OF 'postroomkeep.LetterPlace'. -/
def letterPlaceCard : Claim7 := { stood := { row := letterPlaceRow, standIns := [], harness := (true, "583ee94c7a5a83b414291a1876cebea1da135fbca5bad58a4cb7f5171c7f8c45"), looks := false }, kinds := [], alts := [], laidByText := true, laidKinds := [.data, .pinned], laidTests := true, laidLooks := .later }
def LetterPlaceCardSaid : Prop := Claim7.holds Tryd.pinned (.plain (OpenSpec.ofChange letterPlaceSpec)) letterPlaceCard

/-- THE TIED CARD OF 'postroomkeep.LetterBodies'. -/
def letterBodiesCard : Claim7 := { stood := { row := letterBodiesRow, standIns := [], harness := (true, "583ee94c7a5a83b414291a1876cebea1da135fbca5bad58a4cb7f5171c7f8c45"), looks := false }, kinds := [], alts := [], laidByText := true, laidKinds := [.data, .pinned], laidTests := true, laidLooks := .later }
def LetterBodiesCardSaid : Prop := Claim7.holds Tryd.pinned (.plain (OpenSpec.ofChange letterBodiesSpec)) letterBodiesCard

/-- THE SECOND FORM's CARD OF 'postroomkeep.LetterFolded'. -/
def letterFoldedUptoCard : Claim7 := { stood := { row := letterFoldedUptoRow, standIns := [], harness := (true, "583ee94c7a5a83b414291a1876cebea1da135fbca5bad58a4cb7f5171c7f8c45"), looks := false }, kinds := [], alts := [], laidByText := true, laidKinds := [.data, .pinned], laidTests := true, laidLooks := .later }
def LetterFoldedUptoCardSaid : Prop := Claim7.holds Tryd.pinned (.plain (OpenSpec.upto letterFoldedSpec)) letterFoldedUptoCard

/-- THE SECOND FORM's CARD OF 'postroomkeep.LetterTorn'. -/
def letterTornUptoCard : Claim7 := { stood := { row := letterTornUptoRow, standIns := [], harness := (true, "583ee94c7a5a83b414291a1876cebea1da135fbca5bad58a4cb7f5171c7f8c45"), looks := false }, kinds := [], alts := [], laidByText := true, laidKinds := [.data, .pinned], laidTests := true, laidLooks := .later }
def LetterTornUptoCardSaid : Prop := Claim7.holds Tryd.pinned (.plain (OpenSpec.upto letterTornSpec)) letterTornUptoCard

/-- THE SECOND FORM's CARD OF 'postroomkeep.LetterNamed'. -/
def letterNamedUptoCard : Claim7 := { stood := { row := letterNamedUptoRow, standIns := [], harness := (true, "583ee94c7a5a83b414291a1876cebea1da135fbca5bad58a4cb7f5171c7f8c45"), looks := false }, kinds := [], alts := [], laidByText := true, laidKinds := [.data, .pinned], laidTests := true, laidLooks := .later }
def LetterNamedUptoCardSaid : Prop := Claim7.holds Tryd.pinned (.plain (OpenSpec.upto letterNamedSpec)) letterNamedUptoCard

/-- THE SECOND FORM's CARD OF 'postroomkeep.LetterPlace'. -/
def letterPlaceUptoCard : Claim7 := { stood := { row := letterPlaceUptoRow, standIns := [], harness := (true, "583ee94c7a5a83b414291a1876cebea1da135fbca5bad58a4cb7f5171c7f8c45"), looks := false }, kinds := [], alts := [], laidByText := true, laidKinds := [.data, .pinned], laidTests := true, laidLooks := .later }
def LetterPlaceUptoCardSaid : Prop := Claim7.holds Tryd.pinned (.plain (OpenSpec.upto letterPlaceSpec)) letterPlaceUptoCard

/-- THE SECOND FORM's CARD OF 'postroomkeep.LetterBodies'. -/
def letterBodiesUptoCard : Claim7 := { stood := { row := letterBodiesUptoRow, standIns := [], harness := (true, "583ee94c7a5a83b414291a1876cebea1da135fbca5bad58a4cb7f5171c7f8c45"), looks := false }, kinds := [], alts := [], laidByText := true, laidKinds := [.data, .pinned], laidTests := true, laidLooks := .later }
def LetterBodiesUptoCardSaid : Prop := Claim7.holds Tryd.pinned (.plain (OpenSpec.upto letterBodiesSpec)) letterBodiesUptoCard
end Rows
end Go.Proofs.YtdpdcaglldojiaaDoor
