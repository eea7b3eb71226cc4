/-
  What the keep's word does: the walk.
-/
import Derived.Test.YtkciflocpelhiaaGreatDoorKeepWd
namespace Go.Proofs.YtkciflocpelhiaaGreatDoor
open Go.RowKit
set_option maxHeartbeats 1000000 in
set_option maxRecDepth 100000 in
theorem word_any (s : ByteArray) (w : World) (hs : s.size ≤ maxLen) :
    Calls Tryz.prog 13 #[.string s] w fun e w' => e = .returned (.string (S (wordL s.data.toList))) ∧ Below w.heap.size w w' := by
  unfold maxLen at hs
  obtain ⟨i0, hi, hz0, hz1, hz2⟩ := info_parts infoB8
  go_enter Tryz.func13, Tryz.ntmps13
  go_wp2
  go_loopw [3, 4] (fun v i wr => ∃ k : Nat, k ≤ s.size ∧ k ≤ 8 ∧ i = .int .i64 k ∧ wr.ownsRow w.heap.size 5 1 v k (bytesC (wordK s.data.toList k)) ∧ Below w.heap.size w wr) (fun _ i _ => 8 - (intOf i).toNat)
  case atStart => exact ⟨0, Nat.zero_le _, Nat.zero_le _, rfl, World.ownsRow_nil _ _ _ _, Below.refl _ _⟩
  case round =>
    obtain ⟨k, hk, hk8, rfl, hown, hB⟩ := hrel
    by_cases hlt : k < s.size ∧ k < 8
    · obtain ⟨hl1, hl2⟩ := hlt
      have hu := s[k].toNat_lt
      have hu0 : (0 : Int) ≤ (s[k].toNat : Int) := by omega
      have hu1 : (s[k].toNat : Int) ≤ 255 := by omega
      have HS : Hid _ := word_step s k hl1
      go_wp2_with (at_builtin; refine wpList_append_own _ rfl _ _ 70 rfl w.heap.size 5 i0 (.int .u8 0) 1 1 Tryz.underlying70 hi hz0 hz1 hz2 rfl (by decide) _ _ _ rfl (hown.alloc _) ⟨wr.heap.size, 0, none⟩ 1 1 [.int .u8 (97 + (s[k].toNat : Int) % 26)] rfl rfl (cell_one_fresh _ _ _) ?c2 ?c3 ?c4 ?c5 ?_)
      case c2 => intro u hu; simp at hu; subst hu; rfl
      case c3 => unfold maxLen; omega
      case c4 => omega
      case c5 => have := hB.size; simp; omega
      intro v' w2 hown' hgrow _
      have hsz := hB.size
      have hB2 : Below w.heap.size w w2 := (hB.alloc hsz _).grown hgrow (by simp; omega) (fun j hj => (hown.lt j hj).1)
      rw [← HS.out] at hown'
      clear hgrow hown
      go_wp2
      go_roundw
      case rel => first | exact ⟨k + 1, by omega, by omega, by go_num, hown', hB2⟩ | ((repeat apply Exists.intro); exact ⟨⟨k + 1, by omega, by omega, by go_num, hown', hB2⟩, rfl⟩) | (refine ⟨trivial, ?_⟩; (repeat apply Exists.intro); exact ⟨⟨k + 1, by omega, by omega, by go_num, hown', hB2⟩, rfl⟩)
      case measure => simp [intOf]; omega
    · by_cases h0 : s.size = 0
      · have hk0 : k = 0 := by omega
        subst hk0
        have HW : Hid (wordL s.data.toList = [120]) := by
          have : s.data.toList = [] := List.length_eq_zero_iff.1 (by rw [size_list]; exact h0)
          unfold Hid wordL; rw [if_pos this]
        obtain ⟨a0, c0, rfl⟩ := own_form hown
        go_wp2
        go_ret
        exact ⟨by rw [HW.out]; rfl, hB⟩
      · have HT : Hid (wordL s.data.toList = wordK s.data.toList k) := by
          have hne : s.data.toList ≠ [] := fun e => by have := size_list s; rw [e] at this; simp at this; omega
          unfold Hid wordL
          rw [if_neg hne]
          by_cases h8 : k = 8
          · rw [h8]
          · unfold wordK
            rw [List.take_of_length_le (by rw [size_list]; omega), List.take_of_length_le (by rw [size_list]; omega)]
        have hkp : (k : Int) ≠ 0 := by omega
        have hkb : ((k : Int) == 0) = false := by simpa using hkp
        have hrun := bytesC_back hown
        obtain ⟨a0, c0, rfl⟩ := own_form hown
        by_cases h8 : k < s.size
        · have hk8' : ¬ k < 8 := fun h => hlt ⟨h8, h⟩
          go_wp2
          go_ret
          exact ⟨by rw [HT.out]; rfl, hB⟩
        · go_wp2
          go_ret
          exact ⟨by rw [HT.out]; rfl, hB⟩

end Go.Proofs.YtkciflocpelhiaaGreatDoor
