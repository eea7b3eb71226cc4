/-
  A Require and a command behind it, in memory.
-/
import Derived.Test.YtkciflocpelhiaaGreatDoorRulPur
import Derived.Test.YtkciflocpelhiaaGreatDoorScrMem
import Derived.Test.YtkciflocpelhiaaGreatDoorRowGen
namespace Go.Proofs.YtkciflocpelhiaaGreatDoor
open Go.RowKit Go.Proofs

theorem pairM {A : Type} {Q : Nat → Prop} {k : Nat} {P : A → List Value → Prop} {w : World} {p : Nat} {cs ds : List Value} {t : TypeId} {fr : Nat × Nat} {x y : A} (h : w.heap[p]? = some (.cells (cs ++ ds).toArray t fr)) (h1 : cs.length = k) (h2 : ds.length = k) (hQ : Q p) (hx : P x cs) (hy : P y ds) : RowM Q k P w (.slice (some ⟨p, 0, none⟩) 2 2) [x, y] := by
  have hp : p < w.heap.size := (Array.getElem?_eq_some_iff.1 h).1
  refine ⟨some ⟨p, 0, none⟩, 2, rfl, by unfold maxLen; simp, fun i z hz => ?_⟩
  match i, hz with
  | 0, hz =>
    simp at hz
    subst hz
    refine ⟨p, 0, cs, rfl, hp, hQ, h1, fun j u hj => ?_, hx⟩
    have hj' : j < cs.length := (List.getElem?_eq_some_iff.1 hj).1
    simp only [World.cell?, h]
    rw [Nat.zero_add, Nat.zero_mul, Nat.zero_add, List.getElem?_toArray, List.getElem?_append_left hj']
    exact hj
  | 1, hz =>
    simp at hz
    subst hz
    refine ⟨p, 0, ds, rfl, hp, hQ, h2, fun j u hj => ?_, hy⟩
    simp only [World.cell?, h]
    rw [Nat.zero_add, Nat.one_mul, List.getElem?_toArray, List.getElem?_append_right (by omega), h1, Nat.add_sub_cancel_left]
    exact hj
theorem reqJ_txts {Q : Nat → Prop} {w : World} {p : Nat} (h : w.heap[p]? = some (.cells #[.string ⟨#[102, 105, 108, 101, 105, 110, 116, 111]⟩, .string ⟨#[114, 101, 106, 101, 99, 116]⟩, .string ⟨#[101, 110, 118, 101, 108, 111, 112, 101]⟩, .string ⟨#[105, 109, 97, 112, 52, 102, 108, 97, 103, 115]⟩] 9)) (hQ : Q p) : TxtsM Q w (.slice (some ⟨p, 0, none⟩) 4 4) reqT := by
  refine ⟨_, 4, rfl, by unfold maxLen; decide, fun i x hx => ?_⟩
  have hi : i < 4 := (List.getElem?_eq_some_iff.1 hx).1
  refine ⟨p, 0, [.string (S x)], rfl, (Array.getElem?_eq_some_iff.1 h).1, hQ, rfl, fun j u hj => ?_, rfl⟩
  cases j with
  | succ j => simp at hj
  | zero =>
    simp at hj
    subst hj
    rw [Nat.zero_add, Nat.mul_one, Nat.add_zero]
    simp only [World.cell?, h]
    match i, hi with
    | 0, _ | 1, _ | 2, _ | 3, _ => cases hx; rfl
end Go.Proofs.YtkciflocpelhiaaGreatDoor
