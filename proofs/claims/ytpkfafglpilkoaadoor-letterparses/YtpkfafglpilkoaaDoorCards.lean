/-
  DERIVED. GIVEN WITH THE SEED: THE CARDS: each row of YtpkfafglpilkoaaDoorRows.lean that lists a variable, with what it lists TIED to the program's text (the seventh form; the later family's looks); each row that meets fmt, with fmt's text TOLD by the authors' own Lean function (tested against real Go, not proved from fmt's source: count such statements apart). THE CARD IS WHAT COUNTS. Prove the row's statement (the work); the ties are given (YtpkfafglpilkoaaDoorTie.lean); close each card by the builder's one call (the guide's Derived/Test/ToyasCard.lean, 'card_holds'). Laid BY PROGRAM, IN A SANDBOX (cutbox-door.mjs). By AI agents, Wed Nov 11 2026. No macro, syntax, notation, axiom, sorry.
-/
import Derived.Test.YtpkfafglpilkoaaDoorRows
import GoSem.ClaimSeven
namespace Go.Proofs.YtpkfafglpilkoaaDoor
namespace Rows

/-- THE TIED CARD OF 'postroomlaw.LetterChecks'. -/
def letterChecksCard : Claim7 := { stood := { row := letterChecksRow, standIns := [], harness := (true, "5a614219495c3620b773353b48a4f1356cae8caf7fd940e981cccf8c6ed05edf"), looks := false }, kinds := [], alts := [], laidByText := true, laidKinds := [.data, .pinned], laidTests := true, laidLooks := .later }
def LetterChecksCardSaid : Prop := Claim7.holds Tryd.pinned (.plain (OpenSpec.ofChange letterChecksSpec)) letterChecksCard

/-- THE TIED CARD OF 'postroomlaw.LetterShows'. -/
def letterShowsCard : Claim7 := { stood := { row := letterShowsRow, standIns := [], harness := (true, "5a614219495c3620b773353b48a4f1356cae8caf7fd940e981cccf8c6ed05edf"), looks := false }, kinds := [], alts := [], laidByText := true, laidKinds := [.data, .pinned], laidTests := true, laidLooks := .later }
def LetterShowsCardSaid : Prop := Claim7.holds Tryd.pinned (.plain (OpenSpec.ofChange letterShowsSpec)) letterShowsCard

/-- THE TIED CARD OF 'postroomlaw.LetterParses'. -/
def letterParsesCard : Claim7 := { stood := { row := letterParsesRow, standIns := [], harness := (true, "5a614219495c3620b773353b48a4f1356cae8caf7fd940e981cccf8c6ed05edf"), looks := false }, kinds := [], alts := [], laidByText := true, laidKinds := [.data, .pinned], laidTests := true, laidLooks := .later }
def LetterParsesCardSaid : Prop := Claim7.holds Tryd.pinned (.plain (OpenSpec.ofChange letterParsesSpec)) letterParsesCard

/-- THE TIED CARD OF 'postroomlaw.LetterValues'. -/
def letterValuesCard : Claim7 := { stood := { row := letterValuesRow, standIns := [], harness := (true, "5a614219495c3620b773353b48a4f1356cae8caf7fd940e981cccf8c6ed05edf"), looks := false }, kinds := [], alts := [], laidByText := true, laidKinds := [.data, .pinned], laidTests := true, laidLooks := .later }
def LetterValuesCardSaid : Prop := Claim7.holds Tryd.pinned (.plain (OpenSpec.ofChange letterValuesSpec)) letterValuesCard

/-- THE TIED CARD OF 'postroomkeep.LetterBack'. -/
def letterBackCard : Claim7 := { stood := { row := letterBackRow, standIns := [], harness := (true, "5a614219495c3620b773353b48a4f1356cae8caf7fd940e981cccf8c6ed05edf"), looks := false }, kinds := [], alts := [], laidByText := true, laidKinds := [.data, .pinned], laidTests := true, laidLooks := .later }
def LetterBackCardSaid : Prop := Claim7.holds Tryd.pinned (.plain (OpenSpec.ofChange letterBackSpec)) letterBackCard

/-- THE TIED CARD OF 'postroomkeep.LetterFixed'. -/
def letterFixedCard : Claim7 := { stood := { row := letterFixedRow, standIns := [], harness := (true, "5a614219495c3620b773353b48a4f1356cae8caf7fd940e981cccf8c6ed05edf"), looks := false }, kinds := [], alts := [], laidByText := true, laidKinds := [.data, .pinned], laidTests := true, laidLooks := .later }
def LetterFixedCardSaid : Prop := Claim7.holds Tryd.pinned (.plain (OpenSpec.ofChange letterFixedSpec)) letterFixedCard

/-- THE SECOND FORM's CARD OF 'postroomlaw.LetterChecks'. -/
def letterChecksUptoCard : Claim7 := { stood := { row := letterChecksUptoRow, standIns := [], harness := (true, "5a614219495c3620b773353b48a4f1356cae8caf7fd940e981cccf8c6ed05edf"), looks := false }, kinds := [], alts := [], laidByText := true, laidKinds := [.data, .pinned], laidTests := true, laidLooks := .later }
def LetterChecksUptoCardSaid : Prop := Claim7.holds Tryd.pinned (.plain (OpenSpec.upto letterChecksSpec)) letterChecksUptoCard

/-- THE SECOND FORM's CARD OF 'postroomlaw.LetterShows'. -/
def letterShowsUptoCard : Claim7 := { stood := { row := letterShowsUptoRow, standIns := [], harness := (true, "5a614219495c3620b773353b48a4f1356cae8caf7fd940e981cccf8c6ed05edf"), looks := false }, kinds := [], alts := [], laidByText := true, laidKinds := [.data, .pinned], laidTests := true, laidLooks := .later }
def LetterShowsUptoCardSaid : Prop := Claim7.holds Tryd.pinned (.plain (OpenSpec.upto letterShowsSpec)) letterShowsUptoCard

/-- THE SECOND FORM's CARD OF 'postroomlaw.LetterParses'. -/
def letterParsesUptoCard : Claim7 := { stood := { row := letterParsesUptoRow, standIns := [], harness := (true, "5a614219495c3620b773353b48a4f1356cae8caf7fd940e981cccf8c6ed05edf"), looks := false }, kinds := [], alts := [], laidByText := true, laidKinds := [.data, .pinned], laidTests := true, laidLooks := .later }
def LetterParsesUptoCardSaid : Prop := Claim7.holds Tryd.pinned (.plain (OpenSpec.upto letterParsesSpec)) letterParsesUptoCard

/-- THE SECOND FORM's CARD OF 'postroomlaw.LetterValues'. -/
def letterValuesUptoCard : Claim7 := { stood := { row := letterValuesUptoRow, standIns := [], harness := (true, "5a614219495c3620b773353b48a4f1356cae8caf7fd940e981cccf8c6ed05edf"), looks := false }, kinds := [], alts := [], laidByText := true, laidKinds := [.data, .pinned], laidTests := true, laidLooks := .later }
def LetterValuesUptoCardSaid : Prop := Claim7.holds Tryd.pinned (.plain (OpenSpec.upto letterValuesSpec)) letterValuesUptoCard

/-- THE SECOND FORM's CARD OF 'postroomkeep.LetterBack'. -/
def letterBackUptoCard : Claim7 := { stood := { row := letterBackUptoRow, standIns := [], harness := (true, "5a614219495c3620b773353b48a4f1356cae8caf7fd940e981cccf8c6ed05edf"), looks := false }, kinds := [], alts := [], laidByText := true, laidKinds := [.data, .pinned], laidTests := true, laidLooks := .later }
def LetterBackUptoCardSaid : Prop := Claim7.holds Tryd.pinned (.plain (OpenSpec.upto letterBackSpec)) letterBackUptoCard

/-- THE SECOND FORM's CARD OF 'postroomkeep.LetterFixed'. -/
def letterFixedUptoCard : Claim7 := { stood := { row := letterFixedUptoRow, standIns := [], harness := (true, "5a614219495c3620b773353b48a4f1356cae8caf7fd940e981cccf8c6ed05edf"), looks := false }, kinds := [], alts := [], laidByText := true, laidKinds := [.data, .pinned], laidTests := true, laidLooks := .later }
def LetterFixedUptoCardSaid : Prop := Claim7.holds Tryd.pinned (.plain (OpenSpec.upto letterFixedSpec)) letterFixedUptoCard
end Rows
end Go.Proofs.YtpkfafglpilkoaaDoor
