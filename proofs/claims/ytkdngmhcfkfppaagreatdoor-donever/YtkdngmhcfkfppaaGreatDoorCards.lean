/-
  DERIVED. GIVEN WITH THE SEED: THE CARDS: each row of YtkdngmhcfkfppaaGreatDoorRows.lean that lists a variable, with what it lists TIED to the program's text (the seventh form; the later family's looks); each row that meets fmt, with fmt's text TOLD by the authors' own Lean function (tested against real Go, not proved from fmt's source: count such statements apart). THE CARD IS WHAT COUNTS. Prove the row's statement (the work); the ties are given (YtkdngmhcfkfppaaGreatDoorTie.lean); close each card by the builder's one call (the guide's Derived/Test/ToyasCard.lean, 'card_holds'). Laid BY PROGRAM, IN A SANDBOX (cutbox-door.mjs). By AI agents, Wed Nov 11 2026. No macro, syntax, notation, axiom, sorry.
-/
import Derived.Test.YtkdngmhcfkfppaaGreatDoorRows
import GoSem.ClaimSeven
namespace Go.Proofs.YtkdngmhcfkfppaaGreatDoor
namespace Rows

/-- THE TIED CARD OF 'postroomkeep.AskLogic'. -/
def askLogicCard : Claim7 := { stood := { row := askLogicRow, standIns := [], harness := (true, "8ddac6d66cdd3cc5b88e0cb5bbcf05a530414f272ffd89748c9d270749a05907"), looks := true }, kinds := [], alts := [], laidByText := true, laidKinds := [.data, .data, .data, .data, .data, .data, .pinned], laidTests := true, laidLooks := .later }
def AskLogicCardSaid : Prop := Claim7.holds Tryz.pinned (.plain (OpenSpec.ofChange askLogicSpec)) askLogicCard

/-- THE TIED CARD OF 'postroomkeep.AskMore'. -/
def askMoreCard : Claim7 := { stood := { row := askMoreRow, standIns := [], harness := (true, "8ddac6d66cdd3cc5b88e0cb5bbcf05a530414f272ffd89748c9d270749a05907"), looks := true }, kinds := [], alts := [], laidByText := true, laidKinds := [.data, .data, .data, .data, .data, .data, .pinned], laidTests := true, laidLooks := .later }
def AskMoreCardSaid : Prop := Claim7.holds Tryz.pinned (.plain (OpenSpec.ofChange askMoreSpec)) askMoreCard

/-- THE TIED CARD OF 'postroomkeep.AskSize'. -/
def askSizeCard : Claim7 := { stood := { row := askSizeRow, standIns := [], harness := (true, "8ddac6d66cdd3cc5b88e0cb5bbcf05a530414f272ffd89748c9d270749a05907"), looks := true }, kinds := [], alts := [], laidByText := true, laidKinds := [.data, .data, .data, .data, .data, .data, .pinned], laidTests := true, laidLooks := .later }
def AskSizeCardSaid : Prop := Claim7.holds Tryz.pinned (.plain (OpenSpec.ofChange askSizeSpec)) askSizeCard

/-- THE TIED CARD OF 'postroomkeep.AskHeader'. -/
def askHeaderCard : Claim7 := { stood := { row := askHeaderRow, standIns := [], harness := (true, "8ddac6d66cdd3cc5b88e0cb5bbcf05a530414f272ffd89748c9d270749a05907"), looks := true }, kinds := [], alts := [], laidByText := true, laidKinds := [.data, .data, .data, .data, .data, .data, .pinned], laidTests := true, laidLooks := .later }
def AskHeaderCardSaid : Prop := Claim7.holds Tryz.pinned (.plain (OpenSpec.ofChange askHeaderSpec)) askHeaderCard

/-- THE TIED CARD OF 'postroomkeep.DoOnce'. -/
def doOnceCard : Claim7 := { stood := { row := doOnceRow, standIns := [], harness := (true, "8ddac6d66cdd3cc5b88e0cb5bbcf05a530414f272ffd89748c9d270749a05907"), looks := true }, kinds := [], alts := [], laidByText := true, laidKinds := [.data, .data, .data, .data, .data, .data, .pinned], laidTests := true, laidLooks := .later }
def DoOnceCardSaid : Prop := Claim7.holds Tryz.pinned (.plain (OpenSpec.ofChange doOnceSpec)) doOnceCard

/-- THE TIED CARD OF 'postroomkeep.DoNever'. -/
def doNeverCard : Claim7 := { stood := { row := doNeverRow, standIns := [], harness := (true, "8ddac6d66cdd3cc5b88e0cb5bbcf05a530414f272ffd89748c9d270749a05907"), looks := true }, kinds := [], alts := [], laidByText := true, laidKinds := [.data, .data, .data, .data, .data, .data, .pinned], laidTests := true, laidLooks := .later }
def DoNeverCardSaid : Prop := Claim7.holds Tryz.pinned (.plain (OpenSpec.ofChange doNeverSpec)) doNeverCard

/-- THE SECOND FORM's CARD OF 'postroomkeep.AskLogic'. -/
def askLogicUptoCard : Claim7 := { stood := { row := askLogicUptoRow, standIns := [], harness := (true, "8ddac6d66cdd3cc5b88e0cb5bbcf05a530414f272ffd89748c9d270749a05907"), looks := true }, kinds := [], alts := [], laidByText := true, laidKinds := [.data, .data, .data, .data, .data, .data, .pinned], laidTests := true, laidLooks := .later }
def AskLogicUptoCardSaid : Prop := Claim7.holds Tryz.pinned (.plain (OpenSpec.upto askLogicSpec)) askLogicUptoCard

/-- THE SECOND FORM's CARD OF 'postroomkeep.AskMore'. -/
def askMoreUptoCard : Claim7 := { stood := { row := askMoreUptoRow, standIns := [], harness := (true, "8ddac6d66cdd3cc5b88e0cb5bbcf05a530414f272ffd89748c9d270749a05907"), looks := true }, kinds := [], alts := [], laidByText := true, laidKinds := [.data, .data, .data, .data, .data, .data, .pinned], laidTests := true, laidLooks := .later }
def AskMoreUptoCardSaid : Prop := Claim7.holds Tryz.pinned (.plain (OpenSpec.upto askMoreSpec)) askMoreUptoCard

/-- THE SECOND FORM's CARD OF 'postroomkeep.AskSize'. -/
def askSizeUptoCard : Claim7 := { stood := { row := askSizeUptoRow, standIns := [], harness := (true, "8ddac6d66cdd3cc5b88e0cb5bbcf05a530414f272ffd89748c9d270749a05907"), looks := true }, kinds := [], alts := [], laidByText := true, laidKinds := [.data, .data, .data, .data, .data, .data, .pinned], laidTests := true, laidLooks := .later }
def AskSizeUptoCardSaid : Prop := Claim7.holds Tryz.pinned (.plain (OpenSpec.upto askSizeSpec)) askSizeUptoCard

/-- THE SECOND FORM's CARD OF 'postroomkeep.AskHeader'. -/
def askHeaderUptoCard : Claim7 := { stood := { row := askHeaderUptoRow, standIns := [], harness := (true, "8ddac6d66cdd3cc5b88e0cb5bbcf05a530414f272ffd89748c9d270749a05907"), looks := true }, kinds := [], alts := [], laidByText := true, laidKinds := [.data, .data, .data, .data, .data, .data, .pinned], laidTests := true, laidLooks := .later }
def AskHeaderUptoCardSaid : Prop := Claim7.holds Tryz.pinned (.plain (OpenSpec.upto askHeaderSpec)) askHeaderUptoCard

/-- THE SECOND FORM's CARD OF 'postroomkeep.DoOnce'. -/
def doOnceUptoCard : Claim7 := { stood := { row := doOnceUptoRow, standIns := [], harness := (true, "8ddac6d66cdd3cc5b88e0cb5bbcf05a530414f272ffd89748c9d270749a05907"), looks := true }, kinds := [], alts := [], laidByText := true, laidKinds := [.data, .data, .data, .data, .data, .data, .pinned], laidTests := true, laidLooks := .later }
def DoOnceUptoCardSaid : Prop := Claim7.holds Tryz.pinned (.plain (OpenSpec.upto doOnceSpec)) doOnceUptoCard

/-- THE SECOND FORM's CARD OF 'postroomkeep.DoNever'. -/
def doNeverUptoCard : Claim7 := { stood := { row := doNeverUptoRow, standIns := [], harness := (true, "8ddac6d66cdd3cc5b88e0cb5bbcf05a530414f272ffd89748c9d270749a05907"), looks := true }, kinds := [], alts := [], laidByText := true, laidKinds := [.data, .data, .data, .data, .data, .data, .pinned], laidTests := true, laidLooks := .later }
def DoNeverUptoCardSaid : Prop := Claim7.holds Tryz.pinned (.plain (OpenSpec.upto doNeverSpec)) doNeverUptoCard
end Rows
end Go.Proofs.YtkdngmhcfkfppaaGreatDoor
