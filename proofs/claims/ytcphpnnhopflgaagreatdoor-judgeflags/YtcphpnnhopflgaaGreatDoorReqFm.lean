/-
  The laws' Require of all, as its twelve cells.
-/
import Derived.Test.YtcphpnnhopflgaaGreatDoorMkScr
namespace Go.Proofs.YtcphpnnhopflgaaGreatDoor
open Go.RowKit Go.Proofs

theorem rowM_duo {A : Type} {Q : Nat → Prop} {k : Nat} {P : A → List Value → Prop} {w : World} {p : Nat} {cs ds : List Value} {t : TypeId} {fr : Nat × Nat} {x y : A} (h : w.heap[p]? = some (.cells (cs ++ ds).toArray t fr)) (h1 : cs.length = k) (h2 : ds.length = k) (hQ : Q p) (hx : P x cs) (hy : P y ds) : RowM Q k P w (.slice (some ⟨p, 0, none⟩) 2 2) [x, y] := by
  have hp : p < w.heap.size := (Array.getElem?_eq_some_iff.1 h).1
  refine ⟨some ⟨p, 0, none⟩, 2, rfl, by unfold maxLen; simp, fun i z hz => ?_⟩
  match i, hz with
  | 0, hz =>
    simp at hz
    subst hz
    refine ⟨p, 0, cs, rfl, hp, hQ, h1, fun j u hj => ?_, hx⟩
    have hj' : j < cs.length := (List.getElem?_eq_some_iff.1 hj).1
    simp only [World.cell?, h]
    rw [Nat.zero_add, Nat.zero_mul, Nat.zero_add, List.getElem?_toArray, List.getElem?_append_left hj']
    exact hj
  | 1, hz =>
    simp at hz
    subst hz
    refine ⟨p, 0, ds, rfl, hp, hQ, h2, fun j u hj => ?_, hy⟩
    simp only [World.cell?, h]
    rw [Nat.zero_add, Nat.one_mul, List.getElem?_toArray, List.getElem?_append_right (by omega), h1, Nat.add_sub_cancel_left]
    exact hj
/-- The law's Require of all. -/
def ReqF (W : World) (e : Ending) (w' : World) : Prop := ∃ v0 v1 v2 v3 v4 v5 v6 v7 v8 v9 v10 v11 : Value, e = .returned (.agg #[v0, v1, v2, v3, v4, v5, v6, v7, v8, v9, v10, v11]) ∧ CmdM (newB W.heap.size) 2 w' reqC [v0, v1, v2, v3, v4, v5, v6, v7, v8, v9, v10, v11] ∧ Below W.heap.size W w'
theorem requires_f (w : World) : Calls Tryz.prog 5 #[] w (ReqF w) := (requires_any w).mono fun e w' h => by
  obtain ⟨v, rfl, ⟨cs, rfl, hC⟩, hb⟩ := h
  obtain ⟨ax, cx, an, cn, ak, ck, at', ct, aa, ca, ae, ce, m0, _, rfl, _⟩ := cmd_form hC
  exact ⟨_, _, _, _, _, _, _, _, _, _, _, _, rfl, hC, hb⟩
end Go.Proofs.YtcphpnnhopflgaaGreatDoor
