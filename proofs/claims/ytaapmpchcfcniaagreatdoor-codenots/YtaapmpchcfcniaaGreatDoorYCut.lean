/-
  What postroomkeep.cut does: the walk.
-/
import Derived.Test.YtaapmpchcfcniaaGreatDoorRows
import Derived.Test.YtaapmpchcfcniaaGreatDoorYQPure2
import Derived.WalkKit
import Derived.WalkSpells
import Derived.WalkLawsBesides
namespace Go.Proofs.YtaapmpchcfcniaaGreatDoor
open Go.RowKit
def cutB (s : ByteArray) (n : Nat) : ByteArray := s.extract 0 (min s.size n)
theorem jbA (s : ByteArray) (n : Nat) : (cutB s n).size = min s.size n := by
  simp [cutB, ByteArray.size_extract]
set_option maxHeartbeats 400000 in
theorem jeb (s : ByteArray) (n : Nat) (w : World) (_hs : s.size ≤ maxLen) (_hn : n ≤ 1048576) :
    Calls Tryz.prog 16 #[.string s, .int .i64 n] w fun e w' => e = .returned (.string (cutB s n)) ∧ w' = w := by
  rcases Nat.le_total s.size n with h | h
  · have hm : cutB s n = s := by rw [cutB, Nat.min_eq_left h]; exact ByteArray.extract_zero_size
    rw [hm]; have h1 : (s.size : Int) ≤ n := by omega
    go_enter Tryz.func16, Tryz.ntmps16; go_wp2
    all_goals go_ret
    all_goals exact ⟨rfl, rfl⟩
  · have hm : cutB s n = s.extract 0 n := by rw [cutB, Nat.min_eq_right h]
    rw [hm]; have h1 : (n : Int) ≤ s.size := by omega
    by_cases e : n = s.size
    · subst e; go_enter Tryz.func16, Tryz.ntmps16; go_wp2
      all_goals go_ret
      all_goals exact ⟨by simp, rfl⟩
    · have h2 : (n : Int) < s.size := by omega
      go_enter Tryz.func16, Tryz.ntmps16; go_wp2
      all_goals go_ret
      all_goals exact ⟨rfl, rfl⟩
end Go.Proofs.YtaapmpchcfcniaaGreatDoor
