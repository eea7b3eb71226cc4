/-
  Memory: what a box holds, and what a row that grows does not touch.
-/
import Derived.Test.YtlcnfpeabnnjoaaGreatDoorScrCk
namespace Go.Proofs.YtlcnfpeabnnjoaaGreatDoor
open Go.RowKit Go.Proofs

theorem gm_cell {w : World} {b j : Nat} {cs : Array Value} {t : TypeId} {fr : Nat × Nat} {v : Value} (h : w.heap[b]? = some (.cells cs t fr)) (hj : cs[j]? = some v) : w.cell? ⟨b, j, none⟩ = some v := by simp [World.cell?, h, hj]
theorem gm_low {w w' : World} {b : Nat} {x : Obj} (h : Below w.heap.size w w') (hb : w.heap[b]? = some x) : w'.heap[b]? = some x := (h.block b (Array.getElem?_eq_some_iff.1 hb).1).trans hb
theorem gm_txt {Q : Nat → Prop} {w : World} {a : Option Addr} {c : Nat} {l : List (List UInt8)} (h : TxtsM Q w (.slice a l.length c) l) {i : Nat} {x : List UInt8} (hx : l[i]? = some x) : ∃ b o, a = some ⟨b, o, none⟩ ∧ w.cell? ⟨b, o + i, none⟩ = some (.string (S x)) := by
  obtain ⟨a', c', hv, _, hr⟩ := h
  simp only [Value.slice.injEq, true_and] at hv
  obtain ⟨rfl, rfl⟩ := hv
  obtain ⟨b, o, cs, rfl, _, _, _, hc, hP⟩ := hr i x hx
  have hcs : cs = _ := hP
  subst hcs
  exact ⟨b, o, rfl, by simpa using hc 0 _ rfl⟩
/-- The block of the row that a course's box holds. -/
def rowC (w : World) (b : Nat) : Option Nat := (w.cell? ⟨b, 0, none⟩).bind Value.ownBlock
/-- What a course that goes on does not touch. -/
structure FrC (b : Nat) (w w' : World) : Prop where
  size : w.heap.size ≤ w'.heap.size
  keep : ∀ p, p < w.heap.size → p ≠ b → some p ≠ rowC w b → w'.heap[p]? = w.heap[p]?
  row : rowC w' b = rowC w b ∨ ∃ g, rowC w' b = some g ∧ w.heap.size ≤ g
theorem FrC.below {b : Nat} {w w' : World} (hb : b < w.heap.size) (h : Below w.heap.size w w') : FrC b w w' :=
  ⟨h.size, fun p hp _ _ => h.block p hp, .inl (by unfold rowC; rw [h.cell (p := ⟨b, 0, none⟩) hb])⟩
theorem FrC.trans {b : Nat} {x y z : World} (h : FrC b x y) (k : FrC b y z) : FrC b x z := by
  refine ⟨Nat.le_trans h.size k.size, fun p hp hne hr => ?_, ?_⟩
  · refine (k.keep p (Nat.lt_of_lt_of_le hp h.size) hne ?_).trans (h.keep p hp hne hr)
    rcases h.row with e | ⟨g, e, hg⟩
    · rw [e]; exact hr
    · rw [e]
      intro e2
      have := Option.some.inj e2
      omega
  · rcases k.row with e | ⟨g, e, hg⟩
    · rw [e]; exact h.row
    · exact .inr ⟨g, e, Nat.le_trans h.size hg⟩
theorem gm_set {w : World} {b : Nat} {cs : Array Value} {t : TypeId} (h : w.heap[b]? = some (.cells cs t)) (j : Nat) (v : Value) : (w.setCell ⟨b, j, none⟩ v).heap[b]? = some (.cells (cs.setIfInBounds j v) t) := heap_setCell_same w b j cs t v h
theorem gm_old (w : World) (o : Obj) {k : Nat} (h : k < w.heap.size) : (w.alloc o).heap[k]? = w.heap[k]? := by
  show (w.heap.push o)[k]? = _
  rw [Array.getElem?_push_lt h, Array.getElem?_eq_getElem h]
/-- A box that a course does not touch. -/
theorem FrC.box {b p : Nat} {w w' : World} {x : Obj} (h : FrC b w w') (hp : w.heap[p]? = some x) (hn : p ≠ b) (hr : some p ≠ rowC w b) : w'.heap[p]? = some x ∧ some p ≠ rowC w' b := by
  have hlt := (Array.getElem?_eq_some_iff.1 hp).1
  refine ⟨(h.keep p hlt hn hr).trans hp, ?_⟩
  rcases h.row with e | ⟨g, e, hg⟩
  · rw [e]; exact hr
  · rw [e]
    intro e2
    have := Option.some.inj e2
    omega
theorem own_put {w : World} {base g cap n : Nat} {e : TypeId} {size : Nat} {xs : List Value} (h : w.ownsRow base e size (.slice (some ⟨g, 0, none⟩) n cap) n xs) (j : Nat) (u : Value) :
    (w.setCell ⟨g, j, none⟩ u).ownsRow base e size (.slice (some ⟨g, 0, none⟩) n cap) n (xs.set j u) := by
  refine ⟨by rw [List.length_set]; exact h.1, .inr ?_⟩
  rcases h.2 with ⟨h', _⟩ | ⟨g', cap', cur, h', hb, hg, h1, h2, h3, htake⟩
  · simp at h'
  · simp only [Value.slice.injEq, Option.some.injEq, Addr.mk.injEq, and_true, true_and] at h'
    obtain ⟨rfl, rfl⟩ := h'
    refine ⟨g, cap, cur.setIfInBounds j u, rfl, hb, heap_setCell_same w g j cur e u hg, h1, h2, by simpa using h3, ?_⟩
    rw [Array.toList_setIfInBounds, List.take_set, htake]
end Go.Proofs.YtlcnfpeabnnjoaaGreatDoor
