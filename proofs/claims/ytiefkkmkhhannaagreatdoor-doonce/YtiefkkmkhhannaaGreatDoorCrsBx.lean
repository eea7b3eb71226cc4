/-
  A course in a box: plain facts on memory.
-/
import Derived.Test.YtiefkkmkhhannaaGreatDoorJudCrs
import Derived.Test.YtiefkkmkhhannaaGreatDoorJudTel
namespace Go.Proofs.YtiefkkmkhhannaaGreatDoor
open Go.RowKit Go.Proofs

/- A course in a box. -/
theorem facts_apart {w : World} {b n k : Nat} {x : Option Addr} {f er : Int} {q : Bool} {t : TypeId} {fr : Nat × Nat} {v : Value} {l : List Atn} (hb : w.heap[b]? = some (.cells #[.slice x n k, .int .i64 f, .bool q, .int .i64 er] t fr)) (h : AtnsM anyB w v l) : AtnsM (fun p => p ≠ b) w v l := by
  obtain ⟨a, c, hv, hm, hr⟩ := h
  refine ⟨a, c, hv, hm, fun i y hy => ?_⟩
  obtain ⟨p, o, cs, h1, h2, _, h4, h5, h6⟩ := hr i y hy
  refine ⟨p, o, cs, h1, h2, fun hpb => ?_, h4, h5, h6⟩
  rw [hpb] at h5
  have h7 := h5 1 (.string (S y.text)) (by rw [show cs = _ from h6]; rfl)
  simp only [World.cell?, hb] at h7
  rw [List.getElem?_toArray] at h7
  have hj : ∀ j : Nat, ([.slice x n k, .int .i64 f, .bool q, .int .i64 er] : List Value)[j]? ≠ some (.string (S y.text)) := by
    intro j
    match j with
    | 0 | 1 | 2 | 3 => simp
    | j + 4 => simp
  exact hj _ h7
theorem fset4 {w : World} {b : Nat} {v0 v1 v2 v3 u0 u1 u2 u3 : Value} {t : TypeId} (h : w.heap[b]? = some (.cells #[v0, v1, v2, v3] t)) :
    ((((w.setCell ⟨b, 0, none⟩ u0).setCell ⟨b, 1, none⟩ u1).setCell ⟨b, 2, none⟩ u2).setCell ⟨b, 3, none⟩ u3).heap[b]? = some (.cells #[u0, u1, u2, u3] t) := by
  have h1 := heap_setCell_same w b 0 _ t u0 h
  have h2 := heap_setCell_same _ b 1 _ t u1 h1
  have h3 := heap_setCell_same _ b 2 _ t u2 h2
  have h4 := heap_setCell_same _ b 3 _ t u3 h3
  simpa using h4
theorem facts_set {w : World} {b : Nat} {u0 u1 u2 u3 v : Value} {l : List Atn} (h : AtnsM (fun p => p ≠ b) w v l) : AtnsM anyB ((((w.setCell ⟨b, 0, none⟩ u0).setCell ⟨b, 1, none⟩ u1).setCell ⟨b, 2, none⟩ u2).setCell ⟨b, 3, none⟩ u3) v l :=
  RowM.imp h (fun _ _ => trivial) ((((Keeps.set (p := ⟨b, 0, none⟩) w u0 (fun _ h => h)).trans (Keeps.set (p := ⟨b, 1, none⟩) _ u1 (fun _ h => h))).trans (Keeps.set (p := ⟨b, 2, none⟩) _ u2 (fun _ h => h))).trans (Keeps.set (p := ⟨b, 3, none⟩) _ u3 (fun _ h => h))) fun _ _ h => h
def FBox (W : World) (cc : Crs) (p e : Value) (wx : World) : Prop := ∃ (P : Nat) (a3 : Option Addr) (k3 : Nat), p = .pointer (some ⟨P, 0, none⟩) ∧ e = .int .i64 0 ∧ wx.heap[P]? = some (.cells #[.slice a3 cc.acts.length k3, .int .i64 cc.flags, .bool cc.asked, .int .i64 cc.fault] 49) ∧ AtnsM anyB wx (.slice a3 cc.acts.length k3) cc.acts ∧ Below W.heap.size W wx
theorem FBox.old {W w3 : World} {cc : Crs} {P : Nat} {a3 : Option Addr} {k3 : Nat} (hP : W.heap.size ≤ P) (hb : w3.heap[P]? = some (.cells #[.slice none 0 0, .int .i64 0, .bool false, .int .i64 0] 49)) (hA : AtnsM anyB w3 (.slice a3 cc.acts.length k3) cc.acts) (hB : Below W.heap.size W w3) :
    FBox W cc (.pointer (some ⟨P, 0, none⟩)) (.int .i64 0) ((((w3.setCell ⟨P, 0, none⟩ (.slice a3 cc.acts.length k3)).setCell ⟨P, 1, none⟩ (.int .i64 cc.flags)).setCell ⟨P, 2, none⟩ (.bool cc.asked)).setCell ⟨P, 3, none⟩ (.int .i64 cc.fault)) :=
  ⟨P, a3, k3, rfl, rfl, fset4 hb, facts_set (facts_apart hb hA), (((hB.setCell hP _).setCell hP _).setCell hP _).setCell hP _⟩
theorem FBox.new {W w3 : World} {cc : Crs} {a3 : Option Addr} {k3 : Nat} (hA : AtnsM anyB w3 (.slice a3 cc.acts.length k3) cc.acts) (hB : Below W.heap.size W w3) :
    FBox W cc (.pointer (some ⟨w3.heap.size, 0, none⟩)) (.int .i64 0) (w3.alloc (.cells #[.slice a3 cc.acts.length k3, .int .i64 cc.flags, .bool cc.asked, .int .i64 cc.fault] 49)) :=
  ⟨w3.heap.size, a3, k3, rfl, rfl, tl_at _ rfl, AtnsM.next hA ((Below.refl _ _).alloc (Nat.le_refl _) _), hB.alloc hB.size _⟩
end Go.Proofs.YtiefkkmkhhannaaGreatDoor
