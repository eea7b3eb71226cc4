/-
  Rows and boxes in memory: what no function is named in.
-/
import Derived.Test.YtmgdnhjemhhleaaGreatDoorOQPure5
import Derived.ProofKit
namespace Go.Proofs.YtmgdnhjemhhleaaGreatDoor
open Go.RowKit
theorem RowM.takeR {A : Type} {Q : Nat → Prop} {k : Nat} {P : A → List Value → Prop} {w : World} {a : Option Addr} {c : Nat} {l : List A} (h : RowM Q k P w (.slice a l.length c) l) (m c' : Nat) (hm : m ≤ l.length) : RowM Q k P w (.slice a m c') (l.take m) := by
 obtain ⟨a', c0, hv, hs, hx⟩ := h; simp only [Value.slice.injEq, true_and] at hv; obtain ⟨rfl, rfl⟩ := hv; have hl : (l.take m).length = m := by rw [List.length_take]; omega
 refine ⟨a, c', by rw [hl], by omega, fun i x hi => ?_⟩; have hi' : i < m := by rw [← hl]; exact (List.getElem?_eq_some_iff.1 hi).1
 rw [List.getElem?_take_of_lt hi'] at hi; exact hx i x hi
theorem RowM.dropR {A : Type} {Q : Nat → Prop} {k : Nat} {P : A → List Value → Prop} {w : World} {b o c : Nat} {l : List A} (h : RowM Q k P w (.slice (some ⟨b, o, none⟩) l.length c) l) (m n c' : Nat) (hn : n = l.length - m) : RowM Q k P w (.slice (some ⟨b, o + m * k, none⟩) n c') (l.drop m) := by
 obtain ⟨a', c0, hv, hs, hx⟩ := h; simp only [Value.slice.injEq, true_and] at hv; obtain ⟨rfl, rfl⟩ := hv; have hl : (l.drop m).length = n := by rw [List.length_drop]; omega
 refine ⟨_, c', by rw [hl], by omega, fun i x hi => ?_⟩; rw [List.getElem?_drop] at hi; obtain ⟨b', o', cs, ha, h1, h2, h3, h4, h5⟩ := hx _ x hi; cases ha; refine ⟨_, _, cs, rfl, h1, h2, h3, fun j u hj => ?_, h5⟩; rw [show o + m * k + i * k + j = o + (m + i) * k + j by rw [Nat.add_mul]; omega]; exact h4 j u hj
theorem jby {w : World} (o : Obj) {b : Nat} {x : Obj} (h : w.heap[b]? = some x) : (w.alloc o).heap[b]? = some x := by
 have hb := (Array.getElem?_eq_some_iff.1 h).1
 show (w.heap.push o)[b]? = _
 rw [Array.getElem?_push_lt hb, ← Array.getElem?_eq_getElem hb]; exact h
theorem jdq {w : World} (o : Obj) {b : Nat} (h : b = w.heap.size) : (w.alloc o).heap[b]? = some o := by rw [h]; exact heap_alloc_new w o
end Go.Proofs.YtmgdnhjemhhleaaGreatDoor
