/-
  Plain facts on sessions (chapter 12). No program is named here.
-/
import Derived.Test.YtgooljlpffnaeaaGreatDoorFQScrRd135
namespace Go.Proofs.YtgooljlpffnaeaaGreatDoor
open Go.RowKit
structure Ses where
 step : Int
 frm : Adr
 to : List Adr
 text : List UInt8
 large : Bool
abbrev Ltr := Adr × Adr × List UInt8
def jmr (a : Adr) : Bool := decide (zZ a.1 a.2 = 0)
def atS (k : Int) : Ses := ⟨k, ([], []), [], [], false⟩
end Go.Proofs.YtgooljlpffnaeaaGreatDoor
