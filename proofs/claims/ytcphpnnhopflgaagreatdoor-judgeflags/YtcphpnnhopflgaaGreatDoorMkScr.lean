
/-
  What the laws' maker of scripts does: the walk.
-/
import Derived.Test.YtcphpnnhopflgaaGreatDoorRowGw
import Derived.Test.YtcphpnnhopflgaaGreatDoorRulPur
import Derived.Test.YtcphpnnhopflgaaGreatDoorScrW
namespace Go.Proofs.YtcphpnnhopflgaaGreatDoor
open Go.RowKit Go.Proofs

def reqV : Array Value := #[.string ⟨#[102, 105, 108, 101, 105, 110, 116, 111]⟩, .string ⟨#[114, 101, 106, 101, 99, 116]⟩, .string ⟨#[101, 110, 118, 101, 108, 111, 112, 101]⟩, .string ⟨#[105, 109, 97, 112, 52, 102, 108, 97, 103, 115]⟩]
theorem req_txts {Q : Nat → Prop} {w : World} {p : Nat} {t : TypeId} (h : w.heap[p]? = some (.cells reqV t)) (hQ : Q p) : TxtsM Q w (.slice (some ⟨p, 0, none⟩) 4 4) reqT := by
  refine ⟨some ⟨p, 0, none⟩, 4, rfl, by unfold maxLen reqT; simp, fun i x hx => ?_⟩
  have hi : i < 4 := (List.getElem?_eq_some_iff.1 hx).1
  refine ⟨p, 0, [.string (S x)], rfl, (Array.getElem?_eq_some_iff.1 h).1, hQ, rfl, fun j u hj => ?_, rfl⟩
  cases j with
  | succ j => simp at hj
  | zero =>
    simp at hj
    subst hj
    rw [Nat.zero_add, Nat.mul_one, Nat.add_zero, cell_of h]
    match i, hi with
    | 0, _ | 1, _ | 2, _ | 3, _ => cases hx; rfl

theorem second (w : World) (o0 o1 : Obj) : ((w.alloc o0).alloc o1).heap[w.heap.size + 1]? = some o1 := by
  have h1 : (w.alloc o0).heap.size = w.heap.size + 1 := by simp
  rw [← h1]
  exact heap_alloc_new _ o1

set_option maxHeartbeats 4000000 in
set_option maxRecDepth 100000 in
theorem requires_any (w : World) : Calls Tryz.prog 5 #[] w fun e w' => ∃ v, e = .returned v ∧ CmdR (newB w.heap.size) 2 reqC w' v ∧ Below w.heap.size w w' := by
  go_enter Tryz.func5, Tryz.ntmps5
  go_wp2
  refine bodyPost_ret (v := .agg #[.int .i64 1, .slice (some ⟨w.heap.size + 1, 0, none⟩) 4 4, .int .i64 0, .int .i64 0, .int .i64 0, .slice none 0 0, .slice none 0 0, .bool false, .int .i64 0, .slice none 0 0, .slice none 0 0, .slice none 0 0]) (by simp [results, Tryz.results5, go_sem]) rfl ?_
  refine ⟨_, rfl, ⟨[.int .i64 1, .slice (some ⟨w.heap.size + 1, 0, none⟩) 4 4, .int .i64 0, .int .i64 0, .int .i64 0, .slice none 0 0, .slice none 0 0, .bool false, .int .i64 0, .slice none 0 0, .slice none 0 0, .slice none 0 0], rfl, ⟨_, _, _, _, _, _, rfl, ?_, none_tst _ _ _, rowM_nil _ _ _ _ _ _, rowM_nil _ _ _ _ _ _⟩⟩, ?_⟩
  · exact req_txts (t := 9) (second w _ _) (show w.heap.size ≤ w.heap.size + 1 by omega)
  · exact ((Below.refl _ _).alloc (Nat.le_refl _) _).alloc (by simp) _


end Go.Proofs.YtcphpnnhopflgaaGreatDoor
