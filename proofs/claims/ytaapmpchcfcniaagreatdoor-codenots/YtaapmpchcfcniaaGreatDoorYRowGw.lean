/-
  Rows that a call owns, boxes: what no function is named in.
-/
import Derived.Test.YtaapmpchcfcniaaGreatDoorYQJudCrs5
import Derived.Test.YtaapmpchcfcniaaGreatDoorYScrCk
import Derived.Test.YtaapmpchcfcniaaGreatDoorYQCodPur6
namespace Go.Proofs.YtaapmpchcfcniaaGreatDoor
open Go.RowKit Go.Proofs
theorem OwnRow.next' {A : Type} {B k : Nat} {ty : TypeId} {P : (Nat → Prop) → World → A → List Value → Prop} (hP : Firm P) {w w' : World} {v : Value} {l : List A} (h : OwnRow B k ty P w v l) (hb : Below w.heap.size w w') : OwnRow B k ty P w' v l := by
  obtain ⟨css, h1, h2, h3, h4⟩ := h; exact ⟨css, jc0 h1 hb, h2, h3, fun i x cs hx hc => hP _ _ _ _ _ _ (fun b hq => ⟨hq.1, Nat.lt_of_lt_of_le hq.2.1 hb.size, hq.2.2⟩) (Keeps.of_below hb) (h4 i x cs hx hc)⟩
theorem jX {w : World} {b j : Nat} {cs : Array Value} {t : TypeId} {fr : Nat × Nat} {v : Value} (h : w.heap[b]? = some (.cells cs t fr)) (hj : cs[j]? = some v) : w.cell? ⟨b, j, none⟩ = some v := by simp [World.cell?, h, hj]
theorem jz {w : World} {b : Nat} {cs : Array Value} {t : TypeId} (h : w.heap[b]? = some (.cells cs t)) (o : Nat) : w.frozen? ⟨b, o, none⟩ = false := by simp [World.frozen?, h]
theorem zq {w w' : World} {r : Option Nat} (h : w.grownBy w' r) {b : Nat} {x : Obj} (hb : w.heap[b]? = some x) (hr : some b ≠ r) : w'.heap[b]? = some x :=
  (h.block b (Array.getElem?_eq_some_iff.1 hb).1 hr).trans hb
theorem box8 {w : World} {b : Nat} {v0 v1 v2 v3 v4 v5 v6 v7 : Value} {t : TypeId} (h : w.heap[b]? = some (.cells #[v0, v1, v2, v3, v4, v5, v6, v7] t)) :
    w.cell? ⟨b, 0, none⟩ = some v0 ∧ w.cell? ⟨b, 1, none⟩ = some v1 ∧ w.cell? ⟨b, 2, none⟩ = some v2 ∧ w.cell? ⟨b, 3, none⟩ = some v3 ∧ w.cell? ⟨b, 4, none⟩ = some v4 ∧ w.cell? ⟨b, 5, none⟩ = some v5 ∧ w.cell? ⟨b, 6, none⟩ = some v6 ∧ w.cell? ⟨b, 7, none⟩ = some v7 ∧
    w.frozen? ⟨b, 0, none⟩ = false ∧ w.frozen? ⟨b, 1, none⟩ = false ∧ w.frozen? ⟨b, 2, none⟩ = false ∧ w.frozen? ⟨b, 3, none⟩ = false ∧ w.frozen? ⟨b, 4, none⟩ = false ∧ w.frozen? ⟨b, 5, none⟩ = false ∧ w.frozen? ⟨b, 6, none⟩ = false ∧ w.frozen? ⟨b, 7, none⟩ = false :=
  ⟨jX h rfl, jX h rfl, jX h rfl, jX h rfl, jX h rfl, jX h rfl, jX h rfl, jX h rfl, jz h 0, jz h 1, jz h 2, jz h 3, jz h 4, jz h 5, jz h 6, jz h 7⟩
theorem jh {w : World} {b j c i : Nat} {v u : Value} (h : w.cell? ⟨c, i, none⟩ = some u) (hne : c ≠ b) : (w.setCell ⟨b, j, none⟩ v).cell? ⟨c, i, none⟩ = some u :=
  (World.cell?_setCell_other w _ _ _ (fun e => hne (by cases e; rfl))).trans h
end Go.Proofs.YtaapmpchcfcniaaGreatDoor
