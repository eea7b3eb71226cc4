/-
  What token.unit does: the walk.
-/
import Derived.Test.YtdmiidbncpgfpabDoorTokWord
namespace Go.Proofs.YtdmiidbncpgfpabDoor
open Go.RowKit Go.Proofs

set_option maxHeartbeats 2000000 in
theorem unit_any (s : List UInt8) (w : World) :
    Calls Tryd.prog 58 #[.string (S s)] w fun e w' => e = .returned (.int .i64 ((timesM s).1 : Nat)) ∧ w' = w := by
  cases s with
  | nil =>
    have he := S_none
    go_enter Tryd.func58, Tryd.ntmps58
    go_wp2
    go_ret
    exact ⟨rfl, rfl⟩
  | cons c t =>
    have he := S_some c t
    have hz := S_pos c t
    have e0 : timesM (c :: t) = if c = 75 ∨ c = 107 then (1024, t) else if c = 77 ∨ c = 109 then (1048576, t) else (1, c :: t) := rfl
    by_cases h1 : c = 75
    · have HT : Hid ((timesM (c :: t)).1 = 1024) := by unfold Hid; rw [e0, if_pos (Or.inl h1)]
      have q1 := headS_yes (n := 75) (by decide) hz h1
      clear e0 h1
      go_enter Tryd.func58, Tryd.ntmps58
      go_wp2
      go_ret
      exact ⟨ret_int (by rw [HT.out]; rfl), rfl⟩
    have q1 := headS_no (n := 75) (by decide) hz h1
    by_cases h2 : c = 107
    · have HT : Hid ((timesM (c :: t)).1 = 1024) := by unfold Hid; rw [e0, if_pos (Or.inr h2)]
      have q2 := headS_yes (n := 107) (by decide) hz h2
      clear e0 h1 h2
      go_enter Tryd.func58, Tryd.ntmps58
      go_wp2
      go_ret
      exact ⟨ret_int (by rw [HT.out]; rfl), rfl⟩
    have q2 := headS_no (n := 107) (by decide) hz h2
    have e1 : timesM (c :: t) = if c = 77 ∨ c = 109 then (1048576, t) else (1, c :: t) := by rw [e0, if_neg (fun h => h.elim h1 h2)]
    clear e0
    by_cases h3 : c = 77
    · have HT : Hid ((timesM (c :: t)).1 = 1048576) := by unfold Hid; rw [e1, if_pos (Or.inl h3)]
      have q3 := headS_yes (n := 77) (by decide) hz h3
      clear e1 h1 h2 h3
      go_enter Tryd.func58, Tryd.ntmps58
      go_wp2
      go_ret
      exact ⟨ret_int (by rw [HT.out]; rfl), rfl⟩
    have q3 := headS_no (n := 77) (by decide) hz h3
    by_cases h4 : c = 109
    · have HT : Hid ((timesM (c :: t)).1 = 1048576) := by unfold Hid; rw [e1, if_pos (Or.inr h4)]
      have q4 := headS_yes (n := 109) (by decide) hz h4
      clear e1 h1 h2 h3 h4
      go_enter Tryd.func58, Tryd.ntmps58
      go_wp2
      go_ret
      exact ⟨ret_int (by rw [HT.out]; rfl), rfl⟩
    have q4 := headS_no (n := 109) (by decide) hz h4
    have HT : Hid ((timesM (c :: t)).1 = 1) := by unfold Hid; rw [e1, if_neg (fun h => h.elim h3 h4)]
    clear e1 h1 h2 h3 h4
    go_enter Tryd.func58, Tryd.ntmps58
    go_wp2
    go_ret
    exact ⟨ret_int (by rw [HT.out]; rfl), rfl⟩
end Go.Proofs.YtdmiidbncpgfpabDoor
