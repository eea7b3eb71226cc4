/-
  What the laws' sameCourse does at the same: the walk.
-/
import Derived.Test.YtiefkkmkhhannaaGreatDoorJudSmA
namespace Go.Proofs.YtiefkkmkhhannaaGreatDoor
open Go.RowKit Go.Proofs

set_option maxHeartbeats 4000000 in
set_option maxRecDepth 100000 in
theorem sameCourse_any (a a' : Option Addr) (k k' : Nat) (c : Crs) (w : World) (h1 : AtnsM anyB w (.slice a c.acts.length k) c.acts) (h2 : AtnsM anyB w (.slice a' c.acts.length k') c.acts) (hl : c.acts.length ≤ 6) :
    Calls Tryz.prog 13 #[.agg #[.slice a c.acts.length k, .int .i64 c.flags, .bool c.asked, .int .i64 c.fault], .agg #[.slice a' c.acts.length k', .int .i64 c.flags, .bool c.asked, .int .i64 c.fault]] w fun e w' => e = .returned (.bool true) ∧ Below w.heap.size w w' := by
  obtain ⟨W0, hW0⟩ : ∃ W0, W0 = (w.alloc (.cells #[.slice a c.acts.length k, .int .i64 c.flags, .bool c.asked, .int .i64 c.fault] 49)).alloc (.cells #[.slice a' c.acts.length k', .int .i64 c.flags, .bool c.asked, .int .i64 c.fault] 49) := ⟨_, rfl⟩
  have HWE := hid hW0
  have HB0 := hid (show Below w.heap.size w W0 by rw [hW0]; exact ((Below.refl _ _).alloc (Nat.le_refl _) _).alloc (by simp) _)
  have HC := hid (sameActs_any a a' k k' c.acts W0 (AtnsM.next h1 HB0.out) (AtnsM.next h2 HB0.out) (by omega))
  clear hW0 h1 h2
  go_enter Tryz.func13, Tryz.ntmps13
  go_wp2_with fail
  rw [← HWE.out]
  refine HC.out.mono ?_
  rintro e w1 ⟨rfl, hb1⟩
  have HB1 := hid (HB0.out.trans (hb1.mono HB0.out.size))
  go_wp2
  go_ret
  exact ⟨rfl, HB1.out⟩
end Go.Proofs.YtiefkkmkhhannaaGreatDoor
