/-
  A row of raw entries that comes in has room for what it holds.
-/
import Derived.Test.YtneikogloopodaaDoorBoxOpen
namespace Go.Proofs.YtneikogloopodaaDoor
open Go.RowKit Go.Deep Go.Joins Go.ChangeShapes Go.WideShapes

set_option maxRecDepth 100000 in
theorem chores_cap {H : Type} {enc : TypeId × Value → H} {w : World} {base b0 : Nat} {spare : Nat → Bool} {held : Bool} {v : Value} {d : DataW H} {p : List MemPlace}
    (hv : Value.okWide Tryd.prog w .any b0 22 v) (h : DataW.Trod enc Tryd.prog w base spare held 22 v d p) : ∀ a n c, v = .slice a n c → n ≤ c := by
  intro a n c e
  obtain ⟨a0, len0, cap0, rfl⟩ := okWide_slice Tryd.underlying22 hv
  obtain ⟨fuel, hf0⟩ := h
  have hf : DataW.trod enc Tryd.prog w base spare held fuel 22 [.slice a0 len0 cap0] = some (d, p) := by simpa [Value.cells] using hf0
  rcases open_slice Tryd.underlying22 hf with ⟨h0, _⟩ | ⟨a', len, cap, m, k, D, Pl, h0, hb, hl, hm, hmm, _, hx⟩
  · simp only [List.cons.injEq, and_true] at h0
    rw [h0] at e
    cases e
    exact Nat.le_refl _
  · simp only [List.cons.injEq, and_true] at h0
    rw [h0] at e
    cases e
    omega
end Go.Proofs.YtneikogloopodaaDoor
