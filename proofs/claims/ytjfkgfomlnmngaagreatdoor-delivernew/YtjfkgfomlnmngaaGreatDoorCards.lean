/-
  DERIVED. GIVEN WITH THE SEED: THE CARDS: each row of YtjfkgfomlnmngaaGreatDoorRows.lean that lists a variable, with what it lists TIED to the program's text (the seventh form; the later family's looks); each row that meets fmt, with fmt's text TOLD by the authors' own Lean function (tested against real Go, not proved from fmt's source: count such statements apart). THE CARD IS WHAT COUNTS. Prove the row's statement (the work); the ties are given (YtjfkgfomlnmngaaGreatDoorTie.lean); close each card by the builder's one call (the guide's Derived/Test/ToyasCard.lean, 'card_holds'). Laid BY PROGRAM, IN A SANDBOX (cutbox-door.mjs). By AI agents, Wed Nov 11 2026. No macro, syntax, notation, axiom, sorry.
-/
import Derived.Test.YtjfkgfomlnmngaaGreatDoorRows
import GoSem.ClaimSeven
namespace Go.Proofs.YtjfkgfomlnmngaaGreatDoor
namespace Rows

/-- THE TIED CARD OF 'postroomkeep.DeliverKept'. -/
def deliverKeptCard : Claim7 := { stood := { row := deliverKeptRow, standIns := [], harness := (true, "66c866a14fe7e2f1589f6a18b87b13861aa33e2ea0137b473a39e325eb58e97f"), looks := true }, kinds := [], alts := [], laidByText := true, laidKinds := [.data, .data, .data, .data, .data, .data, .pinned], laidTests := true, laidLooks := .later }
def DeliverKeptCardSaid : Prop := Claim7.holds Tryz.pinned (.plain (OpenSpec.ofChange deliverKeptSpec)) deliverKeptCard

/-- THE TIED CARD OF 'postroomkeep.DeliverNone'. -/
def deliverNoneCard : Claim7 := { stood := { row := deliverNoneRow, standIns := [], harness := (true, "66c866a14fe7e2f1589f6a18b87b13861aa33e2ea0137b473a39e325eb58e97f"), looks := true }, kinds := [], alts := [], laidByText := true, laidKinds := [.data, .data, .data, .data, .data, .data, .pinned], laidTests := true, laidLooks := .later }
def DeliverNoneCardSaid : Prop := Claim7.holds Tryz.pinned (.plain (OpenSpec.ofChange deliverNoneSpec)) deliverNoneCard

/-- THE TIED CARD OF 'postroomkeep.DeliverNew'. -/
def deliverNewCard : Claim7 := { stood := { row := deliverNewRow, standIns := [], harness := (true, "66c866a14fe7e2f1589f6a18b87b13861aa33e2ea0137b473a39e325eb58e97f"), looks := true }, kinds := [], alts := [], laidByText := true, laidKinds := [.data, .data, .data, .data, .data, .data, .pinned], laidTests := true, laidLooks := .later }
def DeliverNewCardSaid : Prop := Claim7.holds Tryz.pinned (.plain (OpenSpec.ofChange deliverNewSpec)) deliverNewCard

/-- THE TIED CARD OF 'postroomkeep.DeliverReject'. -/
def deliverRejectCard : Claim7 := { stood := { row := deliverRejectRow, standIns := [], harness := (true, "66c866a14fe7e2f1589f6a18b87b13861aa33e2ea0137b473a39e325eb58e97f"), looks := true }, kinds := [], alts := [], laidByText := true, laidKinds := [.data, .data, .data, .data, .data, .data, .pinned], laidTests := true, laidLooks := .later }
def DeliverRejectCardSaid : Prop := Claim7.holds Tryz.pinned (.plain (OpenSpec.ofChange deliverRejectSpec)) deliverRejectCard

/-- THE SECOND FORM's CARD OF 'postroomkeep.DeliverKept'. -/
def deliverKeptUptoCard : Claim7 := { stood := { row := deliverKeptUptoRow, standIns := [], harness := (true, "66c866a14fe7e2f1589f6a18b87b13861aa33e2ea0137b473a39e325eb58e97f"), looks := true }, kinds := [], alts := [], laidByText := true, laidKinds := [.data, .data, .data, .data, .data, .data, .pinned], laidTests := true, laidLooks := .later }
def DeliverKeptUptoCardSaid : Prop := Claim7.holds Tryz.pinned (.plain (OpenSpec.upto deliverKeptSpec)) deliverKeptUptoCard

/-- THE SECOND FORM's CARD OF 'postroomkeep.DeliverNone'. -/
def deliverNoneUptoCard : Claim7 := { stood := { row := deliverNoneUptoRow, standIns := [], harness := (true, "66c866a14fe7e2f1589f6a18b87b13861aa33e2ea0137b473a39e325eb58e97f"), looks := true }, kinds := [], alts := [], laidByText := true, laidKinds := [.data, .data, .data, .data, .data, .data, .pinned], laidTests := true, laidLooks := .later }
def DeliverNoneUptoCardSaid : Prop := Claim7.holds Tryz.pinned (.plain (OpenSpec.upto deliverNoneSpec)) deliverNoneUptoCard

/-- THE SECOND FORM's CARD OF 'postroomkeep.DeliverNew'. -/
def deliverNewUptoCard : Claim7 := { stood := { row := deliverNewUptoRow, standIns := [], harness := (true, "66c866a14fe7e2f1589f6a18b87b13861aa33e2ea0137b473a39e325eb58e97f"), looks := true }, kinds := [], alts := [], laidByText := true, laidKinds := [.data, .data, .data, .data, .data, .data, .pinned], laidTests := true, laidLooks := .later }
def DeliverNewUptoCardSaid : Prop := Claim7.holds Tryz.pinned (.plain (OpenSpec.upto deliverNewSpec)) deliverNewUptoCard

/-- THE SECOND FORM's CARD OF 'postroomkeep.DeliverReject'. -/
def deliverRejectUptoCard : Claim7 := { stood := { row := deliverRejectUptoRow, standIns := [], harness := (true, "66c866a14fe7e2f1589f6a18b87b13861aa33e2ea0137b473a39e325eb58e97f"), looks := true }, kinds := [], alts := [], laidByText := true, laidKinds := [.data, .data, .data, .data, .data, .data, .pinned], laidTests := true, laidLooks := .later }
def DeliverRejectUptoCardSaid : Prop := Claim7.holds Tryz.pinned (.plain (OpenSpec.upto deliverRejectSpec)) deliverRejectUptoCard
end Rows
end Go.Proofs.YtjfkgfomlnmngaaGreatDoor
