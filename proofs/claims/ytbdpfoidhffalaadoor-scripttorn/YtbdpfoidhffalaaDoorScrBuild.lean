/-
  Blocks that are written cell by cell, and rows of one. No function of the program is named here.
-/
import Derived.Test.YtbdpfoidhffalaaDoorScrCmds
namespace Go.Proofs.YtbdpfoidhffalaaDoor
open Go.RowKit Go.Proofs

def setAll (w : World) (b : Nat) : Nat → List Value → World
  | _, [] => w
  | o, v :: vs => setAll (w.setCell ⟨b, o, none⟩ v) b (o + 1) vs
def putAll (cs : Array Value) : Nat → List Value → Array Value
  | _, [] => cs
  | o, v :: vs => putAll (cs.setIfInBounds o v) (o + 1) vs
theorem setAll_heap {b : Nat} {t : TypeId} {fr : Nat × Nat} : ∀ (vs : List Value) (o : Nat) (w : World) (cs : Array Value), w.heap[b]? = some (.cells cs t fr) → (setAll w b o vs).heap[b]? = some (.cells (putAll cs o vs) t fr) := by
  intro vs
  induction vs with
  | nil => intro o w cs h; exact h
  | cons v vs ih => intro o w cs h; exact ih (o + 1) _ _ (setCell_mark (i := o) v h)
theorem setAll_keeps {Q : Nat → Prop} {b : Nat} (hq : ∀ k, Q k → k ≠ b) : ∀ (vs : List Value) (o : Nat) (w w0 : World), Keeps Q w0 w → Keeps Q w0 (setAll w b o vs) := by
  intro vs
  induction vs with
  | nil => intro o w w0 h; exact h
  | cons v vs ih => intro o w w0 h; exact ih (o + 1) _ _ (h.trans (Keeps.set w v hq))
theorem setAll_below {b B : Nat} (hb : B ≤ b) : ∀ (vs : List Value) (o : Nat) (w w0 : World), Below B w0 w → Below B w0 (setAll w b o vs) := by
  intro vs
  induction vs with
  | nil => intro o w w0 h; exact h
  | cons v vs ih => intro o w w0 h; exact ih (o + 1) _ _ (h.setCell hb v)
theorem setAll_size {b : Nat} : ∀ (vs : List Value) (o : Nat) (w : World), (setAll w b o vs).heap.size = w.heap.size := by
  intro vs
  induction vs with
  | nil => intro o w; rfl
  | cons v vs ih => intro o w; exact (ih (o + 1) _).trans (by simp [World.setCell])
theorem rowM_one {A : Type} {Q : Nat → Prop} {k : Nat} {P : A → List Value → Prop} {w : World} {p : Nat} {cs : List Value} {t : TypeId} {fr : Nat × Nat} {x : A} (h : w.heap[p]? = some (.cells cs.toArray t fr)) (hk : cs.length = k) (hQ : Q p) (hP : P x cs) : RowM Q k P w (.slice (some ⟨p, 0, none⟩) 1 1) [x] := by
  refine ⟨some ⟨p, 0, none⟩, 1, rfl, by unfold maxLen; simp, fun i y hy => ?_⟩
  cases i with
  | zero =>
    simp at hy
    subst hy
    refine ⟨p, 0, cs, rfl, (Array.getElem?_eq_some_iff.1 h).1, hQ, hk, fun j u hj => ?_, hP⟩
    have : w.cell? ⟨p, j, none⟩ = cs[j]? := by simp [World.cell?, h]
    simp only [Nat.zero_mul, Nat.zero_add]
    rw [this]; exact hj
  | succ i => simp at hy
theorem boxed {b B : Nat} {t : TypeId} {fr : Nat × Nat} {w w0 : World} {cs : Array Value} (o : Nat) (vs : List Value) (obj : Obj) (h : w.heap[b]? = some (.cells cs t fr)) (hB : Below B w0 w) (hb : B ≤ b) (cs' : Array Value) (hcs : putAll cs o vs = cs') :
    ((setAll w b o vs).alloc obj).heap[b]? = some (.cells cs' t fr) ∧ ((setAll w b o vs).alloc obj).heap[w.heap.size]? = some obj ∧ Keeps (fun k => b < k) w ((setAll w b o vs).alloc obj) ∧ Below B w0 ((setAll w b o vs).alloc obj) ∧ w.heap.size < ((setAll w b o vs).alloc obj).heap.size := by
  have hlt : b < w.heap.size := (Array.getElem?_eq_some_iff.1 h).1
  have hz : (setAll w b o vs).heap.size = w.heap.size := setAll_size vs o w
  refine ⟨?_, ?_, ?_, ?_, ?_⟩
  · have e : ((setAll w b o vs).alloc obj).heap[b]? = (setAll w b o vs).heap[b]? := by
      show ((setAll w b o vs).heap.push obj)[b]? = _
      rw [Array.getElem?_push_lt (by omega), Array.getElem?_eq_getElem (by omega)]
    rw [e, ← hcs]; exact setAll_heap vs o w cs h
  · rw [← hz]; exact heap_alloc_new _ _
  · exact (setAll_keeps (fun k hk => by omega) vs o w w (Keeps.refl _ _)).more obj
  · exact (setAll_below hb vs o w w0 hB).alloc (by rw [hz]; omega) _
  · have : ((setAll w b o vs).alloc obj).heap.size = (setAll w b o vs).heap.size + 1 := by simp
    omega
end Go.Proofs.YtbdpfoidhffalaaDoor
