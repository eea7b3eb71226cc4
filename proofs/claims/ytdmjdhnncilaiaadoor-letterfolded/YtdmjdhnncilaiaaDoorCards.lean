/-
  DERIVED. GIVEN WITH THE SEED: THE CARDS: each row of YtdmjdhnncilaiaaDoorRows.lean that lists a variable, with what it lists TIED to the program's text (the seventh form; the later family's looks); each row that meets fmt, with fmt's text TOLD by the authors' own Lean function (tested against real Go, not proved from fmt's source: count such statements apart). THE CARD IS WHAT COUNTS. Prove the row's statement (the work); the ties are given (YtdmjdhnncilaiaaDoorTie.lean); close each card by the builder's one call (the guide's Derived/Test/ToyasCard.lean, 'card_holds'). Laid BY PROGRAM, IN A SANDBOX (cutbox-door.mjs). By AI agents, Wed Nov 11 2026. No macro, syntax, notation, axiom, sorry.
-/
import Derived.Test.YtdmjdhnncilaiaaDoorRows
import GoSem.ClaimSeven
namespace Go.Proofs.YtdmjdhnncilaiaaDoor
namespace Rows

/-- THE TIED CARD OF 'postroomkeep.LetterFolded'. -/
def letterFoldedCard : Claim7 := { stood := { row := letterFoldedRow, standIns := [], harness := (true, "1ecc55921d36e97a3f9130614c120b1990ac418d1c4faa99d7e4fc5ff53fef42"), looks := false }, kinds := [], alts := [], laidByText := true, laidKinds := [.data, .pinned], laidTests := true, laidLooks := .later }
def LetterFoldedCardSaid : Prop := Claim7.holds Tryd.pinned (.plain (OpenSpec.ofChange letterFoldedSpec)) letterFoldedCard

/-- THE TIED CARD OF 'postroomkeep.LetterTorn'. -/
def letterTornCard : Claim7 := { stood := { row := letterTornRow, standIns := [], harness := (true, "1ecc55921d36e97a3f9130614c120b1990ac418d1c4faa99d7e4fc5ff53fef42"), looks := false }, kinds := [], alts := [], laidByText := true, laidKinds := [.data, .pinned], laidTests := true, laidLooks := .later }
def LetterTornCardSaid : Prop := Claim7.holds Tryd.pinned (.plain (OpenSpec.ofChange letterTornSpec)) letterTornCard

/-- THE TIED CARD OF 'postroomkeep.LetterPlace'. -/
def letterPlaceCard : Claim7 := { stood := { row := letterPlaceRow, standIns := [], harness := (true, "1ecc55921d36e97a3f9130614c120b1990ac418d1c4faa99d7e4fc5ff53fef42"), looks := false }, kinds := [], alts := [], laidByText := true, laidKinds := [.data, .pinned], laidTests := true, laidLooks := .later }
def LetterPlaceCardSaid : Prop := Claim7.holds Tryd.pinned (.plain (OpenSpec.ofChange letterPlaceSpec)) letterPlaceCard

/-- THE TIED CARD OF 'postroomkeep.LetterBodies'. -/
def letterBodiesCard : Claim7 := { stood := { row := letterBodiesRow, standIns := [], harness := (true, "1ecc55921d36e97a3f9130614c120b1990ac418d1c4faa99d7e4fc5ff53fef42"), looks := false }, kinds := [], alts := [], laidByText := true, laidKinds := [.data, .pinned], laidTests := true, laidLooks := .later }
def LetterBodiesCardSaid : Prop := Claim7.holds Tryd.pinned (.plain (OpenSpec.ofChange letterBodiesSpec)) letterBodiesCard

/-- THE SECOND FORM's CARD OF 'postroomkeep.LetterFolded'. -/
def letterFoldedUptoCard : Claim7 := { stood := { row := letterFoldedUptoRow, standIns := [], harness := (true, "1ecc55921d36e97a3f9130614c120b1990ac418d1c4faa99d7e4fc5ff53fef42"), looks := false }, kinds := [], alts := [], laidByText := true, laidKinds := [.data, .pinned], laidTests := true, laidLooks := .later }
def LetterFoldedUptoCardSaid : Prop := Claim7.holds Tryd.pinned (.plain (OpenSpec.upto letterFoldedSpec)) letterFoldedUptoCard

/-- THE SECOND FORM's CARD OF 'postroomkeep.LetterTorn'. -/
def letterTornUptoCard : Claim7 := { stood := { row := letterTornUptoRow, standIns := [], harness := (true, "1ecc55921d36e97a3f9130614c120b1990ac418d1c4faa99d7e4fc5ff53fef42"), looks := false }, kinds := [], alts := [], laidByText := true, laidKinds := [.data, .pinned], laidTests := true, laidLooks := .later }
def LetterTornUptoCardSaid : Prop := Claim7.holds Tryd.pinned (.plain (OpenSpec.upto letterTornSpec)) letterTornUptoCard

/-- THE SECOND FORM's CARD OF 'postroomkeep.LetterPlace'. -/
def letterPlaceUptoCard : Claim7 := { stood := { row := letterPlaceUptoRow, standIns := [], harness := (true, "1ecc55921d36e97a3f9130614c120b1990ac418d1c4faa99d7e4fc5ff53fef42"), looks := false }, kinds := [], alts := [], laidByText := true, laidKinds := [.data, .pinned], laidTests := true, laidLooks := .later }
def LetterPlaceUptoCardSaid : Prop := Claim7.holds Tryd.pinned (.plain (OpenSpec.upto letterPlaceSpec)) letterPlaceUptoCard

/-- THE SECOND FORM's CARD OF 'postroomkeep.LetterBodies'. -/
def letterBodiesUptoCard : Claim7 := { stood := { row := letterBodiesUptoRow, standIns := [], harness := (true, "1ecc55921d36e97a3f9130614c120b1990ac418d1c4faa99d7e4fc5ff53fef42"), looks := false }, kinds := [], alts := [], laidByText := true, laidKinds := [.data, .pinned], laidTests := true, laidLooks := .later }
def LetterBodiesUptoCardSaid : Prop := Claim7.holds Tryd.pinned (.plain (OpenSpec.upto letterBodiesSpec)) letterBodiesUptoCard
end Rows
end Go.Proofs.YtdmjdhnncilaiaaDoor
