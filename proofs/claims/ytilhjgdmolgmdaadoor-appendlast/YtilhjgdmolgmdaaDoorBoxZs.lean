/-
  The bytes of all mails of a state that may be: the walk of Size.
-/
import Derived.Test.YtilhjgdmolgmdaaDoorBoxCk
namespace Go.Proofs.YtilhjgdmolgmdaaDoor
open Go.RowKit Go.Proofs

set_option maxHeartbeats 1000000 in
set_option maxRecDepth 100000 in
theorem size_ok (s : Stt) (vb vs : Value) (w : World) (Q : Nat → Prop) (hS : SttM Q w vb vs s) (hM : May s) :
    Calls Tryd.prog 10 #[.agg #[vb, vs]] w fun e w' => e = .returned (.tuple #[.int .i64 (sizeB s.boxes : Nat), .int .i64 0]) ∧ Below w.heap.size w w' := by
  obtain ⟨W1, hW1⟩ : ∃ W1, W1 = w.alloc (.cells #[vb, vs] 26) := ⟨_, rfl⟩
  have HWE := hid hW1
  have hB1 : Below w.heap.size w W1 := by rw [hW1]; exact (Below.refl _ _).alloc (Nat.le_refl _) _
  have HB1 := hid hB1
  have hX : W1.heap[w.heap.size]? = some (.cells #[vb, vs] 26) := by rw [hW1]; exact heap_alloc_new w _
  have x0 : W1.cell? ⟨w.heap.size, 0, none⟩ = some vb := by simp [World.cell?, hX]
  obtain ⟨ab, cb, rfl⟩ := RowM.slice hS.1
  have HC := hid (check_ok s _ vs W1 Q (hS.next hB1) hM)
  have HSZ := hid (fun u (hu : Below W1.heap.size W1 u) => sizeOf_any s.boxes ab cb u Q ((hS.1.next hB1).next hu) hM.size)
  clear hS hM hW1 hB1 hX
  go_enter Tryd.func10, Tryd.ntmps10
  go_wp2_with fail
  rw [← HWE.out]
  refine HC.out.mono ?_
  rintro e w2 ⟨rfl, hb⟩
  have HB2 := hid (HB1.out.trans (hb.mono HB1.out.size))
  have y0 := wcell_next x0 hb
  have HS2 := hid (HSZ.out w2 hb)
  clear hb
  go_wp2_with fail
  refine HS2.out.mono ?_
  rintro e w3 ⟨rfl, hb⟩
  have HB3 := hid (HB2.out.trans (hb.mono HB2.out.size))
  clear hb
  go_wp2
  go_ret2
  exact ⟨rfl, HB3.out⟩
end Go.Proofs.YtilhjgdmolgmdaaDoor
