/-
  What the laws on batches and tapes have in common.
-/
import Derived.Test.YtaaenhjhjclilabDoorBkKs
import Derived.Test.YtaaenhjhjclilabDoorBkTd
import Derived.Test.YtaaenhjhjclilabDoorBkSb
import Derived.Test.YtaaenhjhjclilabDoorBkCr
namespace Go.Proofs.YtaaenhjhjclilabDoor
open Go.RowKit Go.Proofs

theorem may_zero {n : Nat} (h : n ≤ 100000) : mayN n 0 = true := by unfold mayN; simp; omega
theorem may_all {n : Nat} (h : n ≤ 100000) : mayN n (n : Int) = true := by unfold mayN; simp; omega
/-- A tape in its variable, as a call hands it back. -/
theorem TpP.read {w w' : World} {l : List UInt8} {s er : Int} {e : Ending} (h : TpP w l s er e w') (hl : l.length ≤ 1000000) : ∃ a c, e = .returned (.tuple #[.agg #[.slice a l.length c, .int .i64 s], .int .i64 er]) ∧ BysM (fun k => k < w'.heap.size) w' (.slice a l.length c) l ∧ Below w.heap.size w w' := by
  obtain ⟨a, c, e, hO, hb⟩ := h
  exact ⟨a, c, e, own_by hO rfl (by unfold maxLen; omega) fun g hg => (World.ownsRow.lt hO g hg).2, hb⟩
theorem one_box (w : World) (o : Obj) : Below w.heap.size w (w.alloc o) := (Below.refl _ _).alloc (Nat.le_refl _) _
end Go.Proofs.YtaaenhjhjclilabDoor
