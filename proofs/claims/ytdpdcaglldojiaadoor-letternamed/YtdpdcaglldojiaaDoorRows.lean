/-
  NARROWER THAN 'FOR EVERY INPUT', by the rows' own cells (each row's printed sentence says how): LetterFolded: laid · LetterTorn: laid · LetterNamed: laid · LetterPlace: laid · LetterBodies: laid.
  DERIVED. THE GIVEN ROWS OF THIS SEAT. 5 by the template 'for every input the law returns true; each argument reads behind the call as it read before'; 0 by the template 'total and deterministic' (their statements: YtdpdcaglldojiaaDoorTotals.lean).
  GIVEN WITH THE SEED: the statements are not yours to turn. If you find one false, say at which input.
  Laid BY PROGRAM, IN A SANDBOX (cutbox-rows.mjs): the forced cells as the released guide's own fill.sh prints them over the translation 67dd083797f575b2… (all of the seat's roots in one cut). By AI agents, Wed Nov 11 2026. No macro, syntax, notation, axiom, sorry.
-/
import Derived.Test.YtdpdcaglldojiaaDoorChecked
import GoSem.PinnedTables
import GoSem.Claim
import GoSem.ClaimJoined
import GoSem.ClaimMapViews
import Derived.JoinedTies
import Derived.KernelRfl
namespace Go.Proofs.YtdpdcaglldojiaaDoor
/- THE CELL 'sum', in the pinned program and in every row, IS THE sha256 OF THE DUMP (.gsa) THAT YtdpdcaglldojiaaDoorProg.lean LOADS. Nothing in Lean hashes anything: it is a label: what it is worth is what the hold of that sum in a sandbox is worth. -/
noncomputable def Tryd.pinned : Pinned := { name := "ytdpdcaglldojiaadoor", sum := "67dd083797f575b2a1b420b9f2e53841c18275938c5ffc3ac1eec87f8b168ba7", checked := Tryd.checked }
namespace Rows
def none {H : Type} : Left H := { results := [], args := [] }

/- WHAT THE LISTED PACKAGE-LEVEL VARIABLES READ AS WHEN THE CALL BEGINS. Each datum BY PROGRAM (the guide's laid-datum.mjs) off the statement by which the dump's own 'gosem.cut.vars' lays the variable. In a bare row this is a premise. The card (YtdpdcaglldojiaaDoorCards.lean) ties it to the program's text. -/
def laid_unicode_utf8_acceptRanges {H : Type} : DataW H := .agg [.agg [.lit (.int .u8 128), .lit (.int .u8 191)], .agg [.lit (.int .u8 160), .lit (.int .u8 191)], .agg [.lit (.int .u8 128), .lit (.int .u8 159)], .agg [.lit (.int .u8 144), .lit (.int .u8 191)], .agg [.lit (.int .u8 128), .lit (.int .u8 143)], .agg [.lit (.int .u8 0), .lit (.int .u8 0)], .agg [.lit (.int .u8 0), .lit (.int .u8 0)], .agg [.lit (.int .u8 0), .lit (.int .u8 0)], .agg [.lit (.int .u8 0), .lit (.int .u8 0)], .agg [.lit (.int .u8 0), .lit (.int .u8 0)], .agg [.lit (.int .u8 0), .lit (.int .u8 0)], .agg [.lit (.int .u8 0), .lit (.int .u8 0)], .agg [.lit (.int .u8 0), .lit (.int .u8 0)], .agg [.lit (.int .u8 0), .lit (.int .u8 0)], .agg [.lit (.int .u8 0), .lit (.int .u8 0)], .agg [.lit (.int .u8 0), .lit (.int .u8 0)]]
/-- One of Go's own tables, pinned by name: the form's constant. -/
def laid_unicode_utf8_first : DataW Unit := Go.Pinned.utf8First

/-- 'postroomkeep.LetterFolded': WHATEVER THE INPUT: true; the input reads as it did. -/
def letterFoldedSpec : ChangeSpec := { name := "letterFolded", fn := fun _ => fun
  | [d1, d2, d3] => { results := [.lit (.bool true)], args := [d1, d2, d3] }
  | _ => none }
def letterFoldedRow : OpenClaim := { program := "ytdpdcaglldojiaadoor", sum := "67dd083797f575b2a1b420b9f2e53841c18275938c5ffc3ac1eec87f8b168ba7", func := "postroom/postroomkeep.LetterFolded", spec := "letterFolded", inPlace := ["internal/bytealg.IndexByteString", "internal/bytealg.IndexString"], unfollowed := true, recurses := true, named := ["internal/bytealg.MaxLen", "unicode/utf8.first", "unicode/utf8.acceptRanges"], apart := false, laid := [("unicode/utf8.acceptRanges", laid_unicode_utf8_acceptRanges), ("unicode/utf8.first", laid_unicode_utf8_first)] }
def LetterFoldedSaid : Prop := letterFoldedRow.holds Tryd.pinned (OpenSpec.ofChange letterFoldedSpec)

/-- ITS FALSE NEIGHBOUR: 'it returns false'. Refute it at one input. -/
def letterFoldedWrong : ChangeSpec := { name := "letterFolded", fn := fun _ => fun
  | [d1, d2, d3] => { results := [.lit (.bool false)], args := [d1, d2, d3] }
  | _ => none }
def LetterFoldedWrongFalsely : Prop := letterFoldedRow.holds Tryd.pinned (OpenSpec.ofChange letterFoldedWrong)

/-- 'postroomkeep.LetterTorn': WHATEVER THE INPUT: true; the input reads as it did. -/
def letterTornSpec : ChangeSpec := { name := "letterTorn", fn := fun _ => fun
  | [d1, d2] => { results := [.lit (.bool true)], args := [d1, d2] }
  | _ => none }
def letterTornRow : OpenClaim := { program := "ytdpdcaglldojiaadoor", sum := "67dd083797f575b2a1b420b9f2e53841c18275938c5ffc3ac1eec87f8b168ba7", func := "postroom/postroomkeep.LetterTorn", spec := "letterTorn", inPlace := ["internal/bytealg.IndexByteString", "internal/bytealg.IndexString", "internal/abi.NoEscape"], named := ["internal/bytealg.MaxLen", "unicode/utf8.first", "unicode/utf8.acceptRanges"], apart := false, laid := [("unicode/utf8.acceptRanges", laid_unicode_utf8_acceptRanges), ("unicode/utf8.first", laid_unicode_utf8_first)] }
def LetterTornSaid : Prop := letterTornRow.holds Tryd.pinned (OpenSpec.ofChange letterTornSpec)

/-- ITS FALSE NEIGHBOUR: 'it returns false'. Refute it at one input. -/
def letterTornWrong : ChangeSpec := { name := "letterTorn", fn := fun _ => fun
  | [d1, d2] => { results := [.lit (.bool false)], args := [d1, d2] }
  | _ => none }
def LetterTornWrongFalsely : Prop := letterTornRow.holds Tryd.pinned (OpenSpec.ofChange letterTornWrong)

/-- 'postroomkeep.LetterNamed': WHATEVER THE INPUT: true; the input reads as it did. -/
def letterNamedSpec : ChangeSpec := { name := "letterNamed", fn := fun _ => fun
  | [d1, d2] => { results := [.lit (.bool true)], args := [d1, d2] }
  | _ => none }
def letterNamedRow : OpenClaim := { program := "ytdpdcaglldojiaadoor", sum := "67dd083797f575b2a1b420b9f2e53841c18275938c5ffc3ac1eec87f8b168ba7", func := "postroom/postroomkeep.LetterNamed", spec := "letterNamed", inPlace := ["internal/bytealg.IndexByteString", "internal/bytealg.IndexString"], unfollowed := true, recurses := true, named := ["internal/bytealg.MaxLen", "unicode/utf8.first", "unicode/utf8.acceptRanges"], apart := false, laid := [("unicode/utf8.acceptRanges", laid_unicode_utf8_acceptRanges), ("unicode/utf8.first", laid_unicode_utf8_first)] }
def LetterNamedSaid : Prop := letterNamedRow.holds Tryd.pinned (OpenSpec.ofChange letterNamedSpec)

/-- ITS FALSE NEIGHBOUR: 'it returns false'. Refute it at one input. -/
def letterNamedWrong : ChangeSpec := { name := "letterNamed", fn := fun _ => fun
  | [d1, d2] => { results := [.lit (.bool false)], args := [d1, d2] }
  | _ => none }
def LetterNamedWrongFalsely : Prop := letterNamedRow.holds Tryd.pinned (OpenSpec.ofChange letterNamedWrong)

/-- 'postroomkeep.LetterPlace': WHATEVER THE INPUT: true; the input reads as it did. -/
def letterPlaceSpec : ChangeSpec := { name := "letterPlace", fn := fun _ => fun
  | [d1, d2, d3] => { results := [.lit (.bool true)], args := [d1, d2, d3] }
  | _ => none }
def letterPlaceRow : OpenClaim := { program := "ytdpdcaglldojiaadoor", sum := "67dd083797f575b2a1b420b9f2e53841c18275938c5ffc3ac1eec87f8b168ba7", func := "postroom/postroomkeep.LetterPlace", spec := "letterPlace", inPlace := ["internal/bytealg.IndexByteString", "internal/bytealg.IndexString"], named := ["internal/bytealg.MaxLen", "unicode/utf8.first", "unicode/utf8.acceptRanges"], apart := false, laid := [("unicode/utf8.acceptRanges", laid_unicode_utf8_acceptRanges), ("unicode/utf8.first", laid_unicode_utf8_first)] }
def LetterPlaceSaid : Prop := letterPlaceRow.holds Tryd.pinned (OpenSpec.ofChange letterPlaceSpec)

/-- ITS FALSE NEIGHBOUR: 'it returns false'. Refute it at one input. -/
def letterPlaceWrong : ChangeSpec := { name := "letterPlace", fn := fun _ => fun
  | [d1, d2, d3] => { results := [.lit (.bool false)], args := [d1, d2, d3] }
  | _ => none }
def LetterPlaceWrongFalsely : Prop := letterPlaceRow.holds Tryd.pinned (OpenSpec.ofChange letterPlaceWrong)

/-- 'postroomkeep.LetterBodies': WHATEVER THE INPUT: true; the input reads as it did. -/
def letterBodiesSpec : ChangeSpec := { name := "letterBodies", fn := fun _ => fun
  | [d1, d2, d3] => { results := [.lit (.bool true)], args := [d1, d2, d3] }
  | _ => none }
def letterBodiesRow : OpenClaim := { program := "ytdpdcaglldojiaadoor", sum := "67dd083797f575b2a1b420b9f2e53841c18275938c5ffc3ac1eec87f8b168ba7", func := "postroom/postroomkeep.LetterBodies", spec := "letterBodies", inPlace := ["internal/bytealg.IndexByteString", "internal/bytealg.IndexString", "internal/abi.NoEscape"], named := ["internal/bytealg.MaxLen", "unicode/utf8.first", "unicode/utf8.acceptRanges"], apart := false, laid := [("unicode/utf8.acceptRanges", laid_unicode_utf8_acceptRanges), ("unicode/utf8.first", laid_unicode_utf8_first)] }
def LetterBodiesSaid : Prop := letterBodiesRow.holds Tryd.pinned (OpenSpec.ofChange letterBodiesSpec)

/-- ITS FALSE NEIGHBOUR: 'it returns false'. Refute it at one input. -/
def letterBodiesWrong : ChangeSpec := { name := "letterBodies", fn := fun _ => fun
  | [d1, d2, d3] => { results := [.lit (.bool false)], args := [d1, d2, d3] }
  | _ => none }
def LetterBodiesWrongFalsely : Prop := letterBodiesRow.holds Tryd.pinned (OpenSpec.ofChange letterBodiesWrong)

/- THE SECOND FORM. 'bulk': how many values and letters a reading holds, each counted each time it is reached (what is shared counts as often as it is met; a slice's spare places count too). A statement '..UptoSaid' is the law's where the arguments, and the package variables that the reading takes, are together of bulk at most 1048576: NARROWER than '..Said'. Prove '..Said' where nothing that the law and all that it calls make is longer than what came in: it says more and counts as full. Else prove '..UptoSaid'. A law counts once. -/
mutual
def uptoBulk {H : Type} : DataW H → Nat
  | .lit (.string bytes) => bytes.length + 1
  | .lit _ => 1
  | .nil => 1
  | .ptr d => uptoBulk d + 1
  | .slice elems spare => uptoBulkAll elems + uptoBulkAll spare + 1
  | .agg parts => uptoBulkAll parts + 1
  | .iface _ d => uptoBulk d + 1
  | .map entries => uptoBulkEntries entries + 1
  | .held _ => 1
def uptoBulkAll {H : Type} : List (DataW H) → Nat
  | [] => 0
  | d :: r => uptoBulk d + uptoBulkAll r
def uptoBulkEntries {H : Type} : List (Lit × DataW H) → Nat
  | [] => 0
  | x :: r => uptoBulkEntry x + uptoBulkEntries r
def uptoBulkEntry {H : Type} : Lit × DataW H → Nat
  | (.string bytes, d) => bytes.length + uptoBulk d + 1
  | (_, d) => uptoBulk d + 1
 end
def uptoSmall : (H : Type) → List (DataW H) → Bool := fun _ ds => decide (uptoBulkAll ds ≤ 1048576)
def OpenSpec.upto (s : _root_.Go.ChangeSpec) : _root_.Go.OpenSpec := { _root_.Go.OpenSpec.ofChange s with cond := some uptoSmall }

/-- 'postroomkeep.LetterFolded', WHERE WHAT IT READS IS OF BULK AT MOST 1048576: true; the input reads as it did. -/
def letterFoldedUptoRow : OpenClaim := { program := "ytdpdcaglldojiaadoor", sum := "67dd083797f575b2a1b420b9f2e53841c18275938c5ffc3ac1eec87f8b168ba7", func := "postroom/postroomkeep.LetterFolded", spec := "letterFolded", inPlace := ["internal/bytealg.IndexByteString", "internal/bytealg.IndexString"], unfollowed := true, recurses := true, named := ["internal/bytealg.MaxLen", "unicode/utf8.first", "unicode/utf8.acceptRanges"], apart := false, laid := [("unicode/utf8.acceptRanges", laid_unicode_utf8_acceptRanges), ("unicode/utf8.first", laid_unicode_utf8_first)], narrowed := true }
def LetterFoldedUptoSaid : Prop := letterFoldedUptoRow.holds Tryd.pinned (OpenSpec.upto letterFoldedSpec)

/-- 'postroomkeep.LetterTorn', WHERE WHAT IT READS IS OF BULK AT MOST 1048576: true; the input reads as it did. -/
def letterTornUptoRow : OpenClaim := { program := "ytdpdcaglldojiaadoor", sum := "67dd083797f575b2a1b420b9f2e53841c18275938c5ffc3ac1eec87f8b168ba7", func := "postroom/postroomkeep.LetterTorn", spec := "letterTorn", inPlace := ["internal/bytealg.IndexByteString", "internal/bytealg.IndexString", "internal/abi.NoEscape"], named := ["internal/bytealg.MaxLen", "unicode/utf8.first", "unicode/utf8.acceptRanges"], apart := false, laid := [("unicode/utf8.acceptRanges", laid_unicode_utf8_acceptRanges), ("unicode/utf8.first", laid_unicode_utf8_first)], narrowed := true }
def LetterTornUptoSaid : Prop := letterTornUptoRow.holds Tryd.pinned (OpenSpec.upto letterTornSpec)

/-- 'postroomkeep.LetterNamed', WHERE WHAT IT READS IS OF BULK AT MOST 1048576: true; the input reads as it did. -/
def letterNamedUptoRow : OpenClaim := { program := "ytdpdcaglldojiaadoor", sum := "67dd083797f575b2a1b420b9f2e53841c18275938c5ffc3ac1eec87f8b168ba7", func := "postroom/postroomkeep.LetterNamed", spec := "letterNamed", inPlace := ["internal/bytealg.IndexByteString", "internal/bytealg.IndexString"], unfollowed := true, recurses := true, named := ["internal/bytealg.MaxLen", "unicode/utf8.first", "unicode/utf8.acceptRanges"], apart := false, laid := [("unicode/utf8.acceptRanges", laid_unicode_utf8_acceptRanges), ("unicode/utf8.first", laid_unicode_utf8_first)], narrowed := true }
def LetterNamedUptoSaid : Prop := letterNamedUptoRow.holds Tryd.pinned (OpenSpec.upto letterNamedSpec)

/-- 'postroomkeep.LetterPlace', WHERE WHAT IT READS IS OF BULK AT MOST 1048576: true; the input reads as it did. -/
def letterPlaceUptoRow : OpenClaim := { program := "ytdpdcaglldojiaadoor", sum := "67dd083797f575b2a1b420b9f2e53841c18275938c5ffc3ac1eec87f8b168ba7", func := "postroom/postroomkeep.LetterPlace", spec := "letterPlace", inPlace := ["internal/bytealg.IndexByteString", "internal/bytealg.IndexString"], named := ["internal/bytealg.MaxLen", "unicode/utf8.first", "unicode/utf8.acceptRanges"], apart := false, laid := [("unicode/utf8.acceptRanges", laid_unicode_utf8_acceptRanges), ("unicode/utf8.first", laid_unicode_utf8_first)], narrowed := true }
def LetterPlaceUptoSaid : Prop := letterPlaceUptoRow.holds Tryd.pinned (OpenSpec.upto letterPlaceSpec)

/-- 'postroomkeep.LetterBodies', WHERE WHAT IT READS IS OF BULK AT MOST 1048576: true; the input reads as it did. -/
def letterBodiesUptoRow : OpenClaim := { program := "ytdpdcaglldojiaadoor", sum := "67dd083797f575b2a1b420b9f2e53841c18275938c5ffc3ac1eec87f8b168ba7", func := "postroom/postroomkeep.LetterBodies", spec := "letterBodies", inPlace := ["internal/bytealg.IndexByteString", "internal/bytealg.IndexString", "internal/abi.NoEscape"], named := ["internal/bytealg.MaxLen", "unicode/utf8.first", "unicode/utf8.acceptRanges"], apart := false, laid := [("unicode/utf8.acceptRanges", laid_unicode_utf8_acceptRanges), ("unicode/utf8.first", laid_unicode_utf8_first)], narrowed := true }
def LetterBodiesUptoSaid : Prop := letterBodiesUptoRow.holds Tryd.pinned (OpenSpec.upto letterBodiesSpec)

end Rows
end Go.Proofs.YtdpdcaglldojiaaDoor
