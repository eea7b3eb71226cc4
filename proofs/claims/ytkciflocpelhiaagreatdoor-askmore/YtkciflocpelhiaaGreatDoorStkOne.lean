/-
  One raw command, as a law's argument.
-/
import Derived.Test.YtkciflocpelhiaaGreatDoorStkMem
namespace Go.Proofs.YtkciflocpelhiaaGreatDoor
open Go.ChangeShapes Go.WideShapes Go.ChangeAt Go.RowKit

set_option maxRecDepth 100000 in
theorem open_stickM {H : Type} {enc : TypeId × Value → H} {w : World} {base b0 : Nat} {spare : Nat → Bool} {held : Bool} {v : Value} {d : DataW H} {p : List MemPlace}
    (hv : Value.okWide Tryz.prog w .any b0 29 v) (h : DataW.Trod enc Tryz.prog w base spare held 29 v d p) (hw : ∀ m ∈ d.weights Tryz.prog 29, m ≤ reachBytes) :
    ∃ (x : Stk) (n : Nat) (cs : List Value), v = .agg cs.toArray ∧ StkM n w x cs := by
  obtain ⟨cs, rfl, _⟩ := okWide_struct Tryz.underlying29 hv
  obtain ⟨fuel, hf⟩ := h
  obtain ⟨x, hx⟩ := stick_of fuel fuel cs.toList (d, p) (Nat.le_refl _) hw (by simpa [Value.cells] using hf)
  exact ⟨x, _, cs.toList, by simp, hx⟩
end Go.Proofs.YtkciflocpelhiaaGreatDoor
