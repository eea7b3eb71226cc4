/-
  DERIVED. GIVEN WITH THE SEED: THE CARDS: each row of YtmcpipgjckgjgaaDoorRows.lean that lists a variable, with what it lists TIED to the program's text (the seventh form; the later family's looks); each row that meets fmt, with fmt's text TOLD by the authors' own Lean function (tested against real Go, not proved from fmt's source: count such statements apart). THE CARD IS WHAT COUNTS. Prove the row's statement (the work); the ties are given (YtmcpipgjckgjgaaDoorTie.lean); close each card by the builder's one call (the guide's Derived/Test/ToyasCard.lean, 'card_holds'). Laid BY PROGRAM, IN A SANDBOX (cutbox-door.mjs). By AI agents, Wed Nov 11 2026. No macro, syntax, notation, axiom, sorry.
-/
import Derived.Test.YtmcpipgjckgjgaaDoorRows
import GoSem.ClaimSeven
namespace Go.Proofs.YtmcpipgjckgjgaaDoor
namespace Rows

/-- THE TIED CARD OF 'postroomlaw.WhoLists'. -/
def whoListsCard : Claim7 := { stood := { row := whoListsRow, standIns := [], harness := (true, "ba71a2f3d34573ec66a1bc48804affc29444ab737dd71d9023246e5b07747634"), looks := true }, kinds := [], alts := [], laidByText := true, laidKinds := [.data, .pinned], laidTests := true, laidLooks := .later }
def WhoListsCardSaid : Prop := Claim7.holds Tryd.pinned (.plain (OpenSpec.ofChange whoListsSpec)) whoListsCard

/-- THE TIED CARD OF 'postroomkeep.WhoBack'. -/
def whoBackCard : Claim7 := { stood := { row := whoBackRow, standIns := [], harness := (true, "ba71a2f3d34573ec66a1bc48804affc29444ab737dd71d9023246e5b07747634"), looks := true }, kinds := [], alts := [], laidByText := true, laidKinds := [.data, .pinned], laidTests := true, laidLooks := .later }
def WhoBackCardSaid : Prop := Claim7.holds Tryd.pinned (.plain (OpenSpec.ofChange whoBackSpec)) whoBackCard

/-- THE TIED CARD OF 'postroomkeep.WhoMany'. -/
def whoManyCard : Claim7 := { stood := { row := whoManyRow, standIns := [], harness := (true, "ba71a2f3d34573ec66a1bc48804affc29444ab737dd71d9023246e5b07747634"), looks := true }, kinds := [], alts := [], laidByText := true, laidKinds := [.data, .pinned], laidTests := true, laidLooks := .later }
def WhoManyCardSaid : Prop := Claim7.holds Tryd.pinned (.plain (OpenSpec.ofChange whoManySpec)) whoManyCard

/-- THE TIED CARD OF 'postroomkeep.WhoBad'. -/
def whoBadCard : Claim7 := { stood := { row := whoBadRow, standIns := [], harness := (true, "ba71a2f3d34573ec66a1bc48804affc29444ab737dd71d9023246e5b07747634"), looks := true }, kinds := [], alts := [], laidByText := true, laidKinds := [.data, .pinned], laidTests := true, laidLooks := .later }
def WhoBadCardSaid : Prop := Claim7.holds Tryd.pinned (.plain (OpenSpec.ofChange whoBadSpec)) whoBadCard

/-- THE SECOND FORM's CARD OF 'postroomlaw.WhoLists'. -/
def whoListsUptoCard : Claim7 := { stood := { row := whoListsUptoRow, standIns := [], harness := (true, "ba71a2f3d34573ec66a1bc48804affc29444ab737dd71d9023246e5b07747634"), looks := true }, kinds := [], alts := [], laidByText := true, laidKinds := [.data, .pinned], laidTests := true, laidLooks := .later }
def WhoListsUptoCardSaid : Prop := Claim7.holds Tryd.pinned (.plain (OpenSpec.upto whoListsSpec)) whoListsUptoCard

/-- THE SECOND FORM's CARD OF 'postroomkeep.WhoBack'. -/
def whoBackUptoCard : Claim7 := { stood := { row := whoBackUptoRow, standIns := [], harness := (true, "ba71a2f3d34573ec66a1bc48804affc29444ab737dd71d9023246e5b07747634"), looks := true }, kinds := [], alts := [], laidByText := true, laidKinds := [.data, .pinned], laidTests := true, laidLooks := .later }
def WhoBackUptoCardSaid : Prop := Claim7.holds Tryd.pinned (.plain (OpenSpec.upto whoBackSpec)) whoBackUptoCard

/-- THE SECOND FORM's CARD OF 'postroomkeep.WhoMany'. -/
def whoManyUptoCard : Claim7 := { stood := { row := whoManyUptoRow, standIns := [], harness := (true, "ba71a2f3d34573ec66a1bc48804affc29444ab737dd71d9023246e5b07747634"), looks := true }, kinds := [], alts := [], laidByText := true, laidKinds := [.data, .pinned], laidTests := true, laidLooks := .later }
def WhoManyUptoCardSaid : Prop := Claim7.holds Tryd.pinned (.plain (OpenSpec.upto whoManySpec)) whoManyUptoCard

/-- THE SECOND FORM's CARD OF 'postroomkeep.WhoBad'. -/
def whoBadUptoCard : Claim7 := { stood := { row := whoBadUptoRow, standIns := [], harness := (true, "ba71a2f3d34573ec66a1bc48804affc29444ab737dd71d9023246e5b07747634"), looks := true }, kinds := [], alts := [], laidByText := true, laidKinds := [.data, .pinned], laidTests := true, laidLooks := .later }
def WhoBadUptoCardSaid : Prop := Claim7.holds Tryd.pinned (.plain (OpenSpec.upto whoBadSpec)) whoBadUptoCard
end Rows
end Go.Proofs.YtmcpipgjckgjgaaDoor
