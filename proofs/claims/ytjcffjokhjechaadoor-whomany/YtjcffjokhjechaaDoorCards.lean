/-
  DERIVED. GIVEN WITH THE SEED: THE CARDS: each row of YtjcffjokhjechaaDoorRows.lean that lists a variable, with what it lists TIED to the program's text (the seventh form; the later family's looks); each row that meets fmt, with fmt's text TOLD by the authors' own Lean function (tested against real Go, not proved from fmt's source: count such statements apart). THE CARD IS WHAT COUNTS. Prove the row's statement (the work); the ties are given (YtjcffjokhjechaaDoorTie.lean); close each card by the builder's one call (the guide's Derived/Test/ToyasCard.lean, 'card_holds'). Laid BY PROGRAM, IN A SANDBOX (cutbox-door.mjs). By AI agents, Wed Nov 11 2026. No macro, syntax, notation, axiom, sorry.
-/
import Derived.Test.YtjcffjokhjechaaDoorRows
import GoSem.ClaimSeven
namespace Go.Proofs.YtjcffjokhjechaaDoor
namespace Rows

/-- THE TIED CARD OF 'postroomkeep.LetterNamed'. -/
def letterNamedCard : Claim7 := { stood := { row := letterNamedRow, standIns := [], harness := (true, "4e0ccd2380211279d489eda4e094d4cded1ef288d4d4589bc608529cc7cd6fb1"), looks := true }, kinds := [], alts := [], laidByText := true, laidKinds := [.data, .pinned], laidTests := true, laidLooks := .later }
def LetterNamedCardSaid : Prop := Claim7.holds Tryd.pinned (.plain (OpenSpec.ofChange letterNamedSpec)) letterNamedCard

/-- THE TIED CARD OF 'postroomlaw.WhoLists'. -/
def whoListsCard : Claim7 := { stood := { row := whoListsRow, standIns := [], harness := (true, "4e0ccd2380211279d489eda4e094d4cded1ef288d4d4589bc608529cc7cd6fb1"), looks := true }, kinds := [], alts := [], laidByText := true, laidKinds := [.data, .pinned], laidTests := true, laidLooks := .later }
def WhoListsCardSaid : Prop := Claim7.holds Tryd.pinned (.plain (OpenSpec.ofChange whoListsSpec)) whoListsCard

/-- THE TIED CARD OF 'postroomkeep.WhoBack'. -/
def whoBackCard : Claim7 := { stood := { row := whoBackRow, standIns := [], harness := (true, "4e0ccd2380211279d489eda4e094d4cded1ef288d4d4589bc608529cc7cd6fb1"), looks := true }, kinds := [], alts := [], laidByText := true, laidKinds := [.data, .pinned], laidTests := true, laidLooks := .later }
def WhoBackCardSaid : Prop := Claim7.holds Tryd.pinned (.plain (OpenSpec.ofChange whoBackSpec)) whoBackCard

/-- THE TIED CARD OF 'postroomkeep.WhoMany'. -/
def whoManyCard : Claim7 := { stood := { row := whoManyRow, standIns := [], harness := (true, "4e0ccd2380211279d489eda4e094d4cded1ef288d4d4589bc608529cc7cd6fb1"), looks := true }, kinds := [], alts := [], laidByText := true, laidKinds := [.data, .pinned], laidTests := true, laidLooks := .later }
def WhoManyCardSaid : Prop := Claim7.holds Tryd.pinned (.plain (OpenSpec.ofChange whoManySpec)) whoManyCard

/-- THE SECOND FORM's CARD OF 'postroomkeep.LetterNamed'. -/
def letterNamedUptoCard : Claim7 := { stood := { row := letterNamedUptoRow, standIns := [], harness := (true, "4e0ccd2380211279d489eda4e094d4cded1ef288d4d4589bc608529cc7cd6fb1"), looks := true }, kinds := [], alts := [], laidByText := true, laidKinds := [.data, .pinned], laidTests := true, laidLooks := .later }
def LetterNamedUptoCardSaid : Prop := Claim7.holds Tryd.pinned (.plain (OpenSpec.upto letterNamedSpec)) letterNamedUptoCard

/-- THE SECOND FORM's CARD OF 'postroomlaw.WhoLists'. -/
def whoListsUptoCard : Claim7 := { stood := { row := whoListsUptoRow, standIns := [], harness := (true, "4e0ccd2380211279d489eda4e094d4cded1ef288d4d4589bc608529cc7cd6fb1"), looks := true }, kinds := [], alts := [], laidByText := true, laidKinds := [.data, .pinned], laidTests := true, laidLooks := .later }
def WhoListsUptoCardSaid : Prop := Claim7.holds Tryd.pinned (.plain (OpenSpec.upto whoListsSpec)) whoListsUptoCard

/-- THE SECOND FORM's CARD OF 'postroomkeep.WhoBack'. -/
def whoBackUptoCard : Claim7 := { stood := { row := whoBackUptoRow, standIns := [], harness := (true, "4e0ccd2380211279d489eda4e094d4cded1ef288d4d4589bc608529cc7cd6fb1"), looks := true }, kinds := [], alts := [], laidByText := true, laidKinds := [.data, .pinned], laidTests := true, laidLooks := .later }
def WhoBackUptoCardSaid : Prop := Claim7.holds Tryd.pinned (.plain (OpenSpec.upto whoBackSpec)) whoBackUptoCard

/-- THE SECOND FORM's CARD OF 'postroomkeep.WhoMany'. -/
def whoManyUptoCard : Claim7 := { stood := { row := whoManyUptoRow, standIns := [], harness := (true, "4e0ccd2380211279d489eda4e094d4cded1ef288d4d4589bc608529cc7cd6fb1"), looks := true }, kinds := [], alts := [], laidByText := true, laidKinds := [.data, .pinned], laidTests := true, laidLooks := .later }
def WhoManyUptoCardSaid : Prop := Claim7.holds Tryd.pinned (.plain (OpenSpec.upto whoManySpec)) whoManyUptoCard
end Rows
end Go.Proofs.YtjcffjokhjechaaDoor
