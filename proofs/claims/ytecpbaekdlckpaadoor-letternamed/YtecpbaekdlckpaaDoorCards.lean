/-
  DERIVED. GIVEN WITH THE SEED: THE CARDS: each row of YtecpbaekdlckpaaDoorRows.lean that lists a variable, with what it lists TIED to the program's text (the seventh form; the later family's looks); each row that meets fmt, with fmt's text TOLD by the authors' own Lean function (tested against real Go, not proved from fmt's source: count such statements apart). THE CARD IS WHAT COUNTS. Prove the row's statement (the work); the ties are given (YtecpbaekdlckpaaDoorTie.lean); close each card by the builder's one call (the guide's Derived/Test/ToyasCard.lean, 'card_holds'). Laid BY PROGRAM, IN A SANDBOX (cutbox-door.mjs). By AI agents, Wed Nov 11 2026. No macro, syntax, notation, axiom, sorry.
-/
import Derived.Test.YtecpbaekdlckpaaDoorRows
import GoSem.ClaimSeven
namespace Go.Proofs.YtecpbaekdlckpaaDoor
namespace Rows

/-- THE TIED CARD OF 'postroomkeep.LetterNamed'. -/
def letterNamedCard : Claim7 := { stood := { row := letterNamedRow, standIns := [], harness := (true, "bc7451c0c214d40ac83c67a6ac076cd983b7604297d71288c1d6e75a80158a91"), looks := false }, kinds := [], alts := [], laidByText := true, laidKinds := [.data, .pinned], laidTests := true, laidLooks := .later }
def LetterNamedCardSaid : Prop := Claim7.holds Tryd.pinned (.plain (OpenSpec.ofChange letterNamedSpec)) letterNamedCard

/-- THE SECOND FORM's CARD OF 'postroomkeep.LetterNamed'. -/
def letterNamedUptoCard : Claim7 := { stood := { row := letterNamedUptoRow, standIns := [], harness := (true, "bc7451c0c214d40ac83c67a6ac076cd983b7604297d71288c1d6e75a80158a91"), looks := false }, kinds := [], alts := [], laidByText := true, laidKinds := [.data, .pinned], laidTests := true, laidLooks := .later }
def LetterNamedUptoCardSaid : Prop := Claim7.holds Tryd.pinned (.plain (OpenSpec.upto letterNamedSpec)) letterNamedUptoCard
end Rows
end Go.Proofs.YtecpbaekdlckpaaDoor
