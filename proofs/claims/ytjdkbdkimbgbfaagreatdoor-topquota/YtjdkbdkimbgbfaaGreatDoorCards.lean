/-
  DERIVED. GIVEN WITH THE SEED: THE CARDS: each row of YtjdkbdkimbgbfaaGreatDoorRows.lean that lists a variable, with what it lists TIED to the program's text (the seventh form; the later family's looks); each row that meets fmt, with fmt's text TOLD by the authors' own Lean function (tested against real Go, not proved from fmt's source: count such statements apart). THE CARD IS WHAT COUNTS. Prove the row's statement (the work); the ties are given (YtjdkbdkimbgbfaaGreatDoorTie.lean); close each card by the builder's one call (the guide's Derived/Test/ToyasCard.lean, 'card_holds'). Laid BY PROGRAM, IN A SANDBOX (cutbox-door.mjs). By AI agents, Wed Nov 11 2026. No macro, syntax, notation, axiom, sorry.
-/
import Derived.Test.YtjdkbdkimbgbfaaGreatDoorRows
import GoSem.ClaimSeven
namespace Go.Proofs.YtjdkbdkimbgbfaaGreatDoor
namespace Rows

/-- THE TIED CARD OF 'postroomtop.TopQuit'. -/
def topQuitCard : Claim7 := { stood := { row := topQuitRow, standIns := [], harness := (true, "740c4c6580c63c91f43fe89ed2a6abae0607a58a2ad9dbd13a69e7ea92310352"), looks := true }, kinds := [], alts := [], laidByText := true, laidKinds := [.data, .data, .data, .data, .data, .data, .pinned], laidTests := true, laidLooks := .later }
def TopQuitCardSaid : Prop := Claim7.holds Tryz.pinned (.plain (OpenSpec.ofChange topQuitSpec)) topQuitCard

/-- THE TIED CARD OF 'postroomtop.TopSame'. -/
def topSameCard : Claim7 := { stood := { row := topSameRow, standIns := [], harness := (true, "740c4c6580c63c91f43fe89ed2a6abae0607a58a2ad9dbd13a69e7ea92310352"), looks := true }, kinds := [], alts := [], laidByText := true, laidKinds := [.data, .data, .data, .data, .data, .data, .pinned], laidTests := true, laidLooks := .later }
def TopSameCardSaid : Prop := Claim7.holds Tryz.pinned (.plain (OpenSpec.ofChange topSameSpec)) topSameCard

/-- THE TIED CARD OF 'postroomtop.TopQuota'. -/
def topQuotaCard : Claim7 := { stood := { row := topQuotaRow, standIns := [], harness := (true, "740c4c6580c63c91f43fe89ed2a6abae0607a58a2ad9dbd13a69e7ea92310352"), looks := true }, kinds := [], alts := [], laidByText := true, laidKinds := [.data, .data, .data, .data, .data, .data, .pinned], laidTests := true, laidLooks := .later }
def TopQuotaCardSaid : Prop := Claim7.holds Tryz.pinned (.plain (OpenSpec.ofChange topQuotaSpec)) topQuotaCard

/-- THE SECOND FORM's CARD OF 'postroomtop.TopQuit'. -/
def topQuitUptoCard : Claim7 := { stood := { row := topQuitUptoRow, standIns := [], harness := (true, "740c4c6580c63c91f43fe89ed2a6abae0607a58a2ad9dbd13a69e7ea92310352"), looks := true }, kinds := [], alts := [], laidByText := true, laidKinds := [.data, .data, .data, .data, .data, .data, .pinned], laidTests := true, laidLooks := .later }
def TopQuitUptoCardSaid : Prop := Claim7.holds Tryz.pinned (.plain (OpenSpec.upto topQuitSpec)) topQuitUptoCard

/-- THE SECOND FORM's CARD OF 'postroomtop.TopSame'. -/
def topSameUptoCard : Claim7 := { stood := { row := topSameUptoRow, standIns := [], harness := (true, "740c4c6580c63c91f43fe89ed2a6abae0607a58a2ad9dbd13a69e7ea92310352"), looks := true }, kinds := [], alts := [], laidByText := true, laidKinds := [.data, .data, .data, .data, .data, .data, .pinned], laidTests := true, laidLooks := .later }
def TopSameUptoCardSaid : Prop := Claim7.holds Tryz.pinned (.plain (OpenSpec.upto topSameSpec)) topSameUptoCard

/-- THE SECOND FORM's CARD OF 'postroomtop.TopQuota'. -/
def topQuotaUptoCard : Claim7 := { stood := { row := topQuotaUptoRow, standIns := [], harness := (true, "740c4c6580c63c91f43fe89ed2a6abae0607a58a2ad9dbd13a69e7ea92310352"), looks := true }, kinds := [], alts := [], laidByText := true, laidKinds := [.data, .data, .data, .data, .data, .data, .pinned], laidTests := true, laidLooks := .later }
def TopQuotaUptoCardSaid : Prop := Claim7.holds Tryz.pinned (.plain (OpenSpec.upto topQuotaSpec)) topQuotaUptoCard
end Rows
end Go.Proofs.YtjdkbdkimbgbfaaGreatDoor
