/-
  DERIVED. GIVEN WITH THE SEED: THE CARDS: each row of YtjcffjokhjechabDoorRows.lean that lists a variable, with what it lists TIED to the program's text (the seventh form; the later family's looks); each row that meets fmt, with fmt's text TOLD by the authors' own Lean function (tested against real Go, not proved from fmt's source: count such statements apart). THE CARD IS WHAT COUNTS. Prove the row's statement (the work); the ties are given (YtjcffjokhjechabDoorTie.lean); close each card by the builder's one call (the guide's Derived/Test/ToyasCard.lean, 'card_holds'). Laid BY PROGRAM, IN A SANDBOX (cutbox-door.mjs). By AI agents, Wed Nov 11 2026. No macro, syntax, notation, axiom, sorry.
-/
import Derived.Test.YtjcffjokhjechabDoorRows
import GoSem.ClaimSeven
namespace Go.Proofs.YtjcffjokhjechabDoor
namespace Rows

/-- THE TIED CARD OF 'postroomkeep.WhoBad'. -/
def whoBadCard : Claim7 := { stood := { row := whoBadRow, standIns := [], harness := (true, "49730bc05ba07454e01ce4dfc3d54b97174188aa2650774e87b66298cb94f490"), looks := true }, kinds := [], alts := [], laidByText := true, laidKinds := [.data, .pinned], laidTests := true, laidLooks := .later }
def WhoBadCardSaid : Prop := Claim7.holds Tryd.pinned (.plain (OpenSpec.ofChange whoBadSpec)) whoBadCard

/-- THE TIED CARD OF 'postroomkeep.WhoFull'. -/
def whoFullCard : Claim7 := { stood := { row := whoFullRow, standIns := [], harness := (true, "49730bc05ba07454e01ce4dfc3d54b97174188aa2650774e87b66298cb94f490"), looks := true }, kinds := [], alts := [], laidByText := true, laidKinds := [.data, .pinned], laidTests := true, laidLooks := .later }
def WhoFullCardSaid : Prop := Claim7.holds Tryd.pinned (.plain (OpenSpec.ofChange whoFullSpec)) whoFullCard

/-- THE SECOND FORM's CARD OF 'postroomkeep.WhoBad'. -/
def whoBadUptoCard : Claim7 := { stood := { row := whoBadUptoRow, standIns := [], harness := (true, "49730bc05ba07454e01ce4dfc3d54b97174188aa2650774e87b66298cb94f490"), looks := true }, kinds := [], alts := [], laidByText := true, laidKinds := [.data, .pinned], laidTests := true, laidLooks := .later }
def WhoBadUptoCardSaid : Prop := Claim7.holds Tryd.pinned (.plain (OpenSpec.upto whoBadSpec)) whoBadUptoCard

/-- THE SECOND FORM's CARD OF 'postroomkeep.WhoFull'. -/
def whoFullUptoCard : Claim7 := { stood := { row := whoFullUptoRow, standIns := [], harness := (true, "49730bc05ba07454e01ce4dfc3d54b97174188aa2650774e87b66298cb94f490"), looks := true }, kinds := [], alts := [], laidByText := true, laidKinds := [.data, .pinned], laidTests := true, laidLooks := .later }
def WhoFullUptoCardSaid : Prop := Claim7.holds Tryd.pinned (.plain (OpenSpec.upto whoFullSpec)) whoFullUptoCard
end Rows
end Go.Proofs.YtjcffjokhjechabDoor
