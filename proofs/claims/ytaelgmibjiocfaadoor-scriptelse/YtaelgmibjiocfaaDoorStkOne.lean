/-
  One raw command, as a law's argument.
-/
import Derived.Test.YtaelgmibjiocfaaDoorStkMem
namespace Go.Proofs.YtaelgmibjiocfaaDoor
open Go.ChangeShapes Go.WideShapes Go.ChangeAt Go.RowKit

set_option maxRecDepth 100000 in
theorem open_stickM {H : Type} {enc : TypeId × Value → H} {w : World} {base b0 : Nat} {spare : Nat → Bool} {held : Bool} {v : Value} {d : DataW H} {p : List MemPlace}
    (hv : Value.okWide Tryd.prog w .any b0 24 v) (h : DataW.Trod enc Tryd.prog w base spare held 24 v d p) (hw : ∀ m ∈ d.weights Tryd.prog 24, m ≤ reachBytes) :
    ∃ (x : Stk) (n : Nat) (cs : List Value), v = .agg cs.toArray ∧ StkM n w x cs := by
  obtain ⟨cs, rfl, _⟩ := okWide_struct Tryd.underlying24 hv
  obtain ⟨fuel, hf⟩ := h
  obtain ⟨x, hx⟩ := stick_of fuel fuel cs.toList (d, p) (Nat.le_refl _) hw (by simpa [Value.cells] using hf)
  exact ⟨x, _, cs.toList, by simp, hx⟩
end Go.Proofs.YtaelgmibjiocfaaDoor
