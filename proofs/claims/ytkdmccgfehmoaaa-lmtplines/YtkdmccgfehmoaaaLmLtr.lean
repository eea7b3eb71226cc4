/-
  Letters that are handed over, read off their row.
-/
import Derived.Test.YtkdmccgfehmoaaaLmLn
namespace Go.Proofs.Ytkdmccgfehmoaaa
open Go.RowKit Go.Proofs

theorem ltr_get {w : World} {B : Nat} {a : Option Addr} {c : Nat} {l : List Ltr} (h : OwnT w B (.slice a l.length c) l) {i : Nat} {x : Ltr} (hx : l[i]? = some x) :
    ∃ g, a = some ⟨g, 0, none⟩ ∧ B ≤ g ∧ g < w.heap.size ∧ w.cell? ⟨g, i * 5, none⟩ = some (.string (S x.1.1)) ∧ w.cell? ⟨g, i * 5 + 1, none⟩ = some (.string (S x.1.2)) ∧ w.cell? ⟨g, i * 5 + 2, none⟩ = some (.string (S x.2.1.1)) ∧ w.cell? ⟨g, i * 5 + 3, none⟩ = some (.string (S x.2.1.2)) ∧ w.cell? ⟨g, i * 5 + 4, none⟩ = some (.string (S x.2.2)) := by
  have hi : i < l.length := (List.getElem?_eq_some_iff.1 hx).1
  obtain ⟨g, cap, e, hb, hg⟩ := World.ownsRow.form h (by omega)
  simp only [Value.slice.injEq, true_and] at e
  obtain ⟨rfl, rfl⟩ := e
  have hc : ∀ j, j < 5 → w.cell? ⟨g, i * 5 + j, none⟩ = (ltrC x)[j]? := fun j hj => by rw [World.ownsRow.cellAt h (i * 5 + j) (by omega), cellsT_get hx j hj]
  exact ⟨g, rfl, hb, hg, hc 0 (by omega), hc 1 (by omega), hc 2 (by omega), hc 3 (by omega), hc 4 (by omega)⟩
end Go.Proofs.Ytkdmccgfehmoaaa
