/-
  DERIVED. GIVEN WITH THE SEED: THE CARDS: each row of YtdjdmlcmjdapaaaDoorRows.lean that lists a variable, with what it lists TIED to the program's text (the seventh form; the later family's looks); each row that meets fmt, with fmt's text TOLD by the authors' own Lean function (tested against real Go, not proved from fmt's source: count such statements apart). THE CARD IS WHAT COUNTS. Prove the row's statement (the work); the ties are given (YtdjdmlcmjdapaaaDoorTie.lean); close each card by the builder's one call (the guide's Derived/Test/ToyasCard.lean, 'card_holds'). Laid BY PROGRAM, IN A SANDBOX (cutbox-door.mjs). By AI agents, Wed Nov 11 2026. No macro, syntax, notation, axiom, sorry.
-/
import Derived.Test.YtdjdmlcmjdapaaaDoorRows
import GoSem.ClaimSeven
namespace Go.Proofs.YtdjdmlcmjdapaaaDoor
namespace Rows

/-- THE TIED CARD OF 'postroomkeep.LetterBack'. -/
def letterBackCard : Claim7 := { stood := { row := letterBackRow, standIns := [], harness := (true, "d64bc45b64de9adcb2c2249a93dce62ec6b377730d279b5b27c6ed03b7eb20aa"), looks := false }, kinds := [], alts := [], laidByText := true, laidKinds := [.data, .pinned], laidTests := true, laidLooks := .later }
def LetterBackCardSaid : Prop := Claim7.holds Tryd.pinned (.plain (OpenSpec.ofChange letterBackSpec)) letterBackCard

/-- THE TIED CARD OF 'postroomkeep.LineLetter'. -/
def lineLetterCard : Claim7 := { stood := { row := lineLetterRow, standIns := [], harness := (true, "d64bc45b64de9adcb2c2249a93dce62ec6b377730d279b5b27c6ed03b7eb20aa"), looks := false }, kinds := [], alts := [], laidByText := true, laidKinds := [.data, .pinned], laidTests := true, laidLooks := .later }
def LineLetterCardSaid : Prop := Claim7.holds Tryd.pinned (.plain (OpenSpec.ofChange lineLetterSpec)) lineLetterCard

/-- THE SECOND FORM's CARD OF 'postroomkeep.LetterBack'. -/
def letterBackUptoCard : Claim7 := { stood := { row := letterBackUptoRow, standIns := [], harness := (true, "d64bc45b64de9adcb2c2249a93dce62ec6b377730d279b5b27c6ed03b7eb20aa"), looks := false }, kinds := [], alts := [], laidByText := true, laidKinds := [.data, .pinned], laidTests := true, laidLooks := .later }
def LetterBackUptoCardSaid : Prop := Claim7.holds Tryd.pinned (.plain (OpenSpec.upto letterBackSpec)) letterBackUptoCard

/-- THE SECOND FORM's CARD OF 'postroomkeep.LineLetter'. -/
def lineLetterUptoCard : Claim7 := { stood := { row := lineLetterUptoRow, standIns := [], harness := (true, "d64bc45b64de9adcb2c2249a93dce62ec6b377730d279b5b27c6ed03b7eb20aa"), looks := false }, kinds := [], alts := [], laidByText := true, laidKinds := [.data, .pinned], laidTests := true, laidLooks := .later }
def LineLetterUptoCardSaid : Prop := Claim7.holds Tryd.pinned (.plain (OpenSpec.upto lineLetterSpec)) lineLetterUptoCard
end Rows
end Go.Proofs.YtdjdmlcmjdapaaaDoor
