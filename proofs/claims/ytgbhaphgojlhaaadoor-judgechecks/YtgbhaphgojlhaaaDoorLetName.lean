/-
  What letter.isName does: the walk.
-/
import Derived.Test.YtgbhaphgojlhaaaDoorRows
import Derived.Test.YtgbhaphgojlhaaaDoorPure
import Derived.Test.YtgbhaphgojlhaaaDoorLetPure
namespace Go.Proofs.YtgbhaphgojlhaaaDoor
open Go.RowKit

theorem nameC_cases (c : UInt8) : (nameC c = true ∧ ¬ (c.toNat : Int) < 33 ∧ ¬ 126 < (c.toNat : Int) ∧ ((c.toNat : Int) == 58) = false) ∨
    (nameC c = false ∧ ((c.toNat : Int) < 33 ∨ (¬ (c.toNat : Int) < 33 ∧ 126 < (c.toNat : Int)) ∨ (¬ (c.toNat : Int) < 33 ∧ ¬ 126 < (c.toNat : Int) ∧ ((c.toNat : Int) == 58) = true))) := by
  have e : c = 58 ↔ c.toNat = 58 := ⟨fun h => by rw [h]; rfl, fun h => UInt8.toNat_inj.1 (by rw [h]; rfl)⟩
  by_cases h1 : c.toNat < 33
  · right; exact ⟨by simp [nameC]; omega, .inl (by omega)⟩
  · by_cases h2 : 126 < c.toNat
    · right; exact ⟨by simp [nameC]; omega, .inr (.inl ⟨by omega, by omega⟩)⟩
    · by_cases h3 : c = 58
      · right; exact ⟨by simp [nameC, h3], .inr (.inr ⟨by omega, by omega, by subst h3; decide⟩)⟩
      · left; exact ⟨by simp [nameC, h3]; omega, by omega, by omega, by rw [beq_eq_false_iff_ne]; intro h; exact h3 (e.2 (by omega))⟩

theorem name_go {s : ByteArray} {k : Nat} (hk : k < s.size) (h : (s.data.toList.take k).all nameC = true) (hc : nameC s[k] = true) : (s.data.toList.take (k + 1)).all nameC = true := by
  rw [take_snoc s k hk, List.all_append, h]; simp [hc]
theorem name_stop {s : ByteArray} {k : Nat} (hk : k < s.size) (hc : nameC s[k] = false) : nameB s.data.toList = false := by
  have hm : s[k] ∈ s.data.toList := List.mem_of_getElem? (get_list s k hk)
  cases h : nameB s.data.toList with
  | false => rfl
  | true => simp only [nameB, Bool.and_eq_true, List.all_eq_true] at h; rw [h.2 _ hm] at hc; cases hc
theorem name_end {s : ByteArray} {k : Nat} (hk : ¬ k < s.size) (h : (s.data.toList.take k).all nameC = true) : nameB s.data.toList = !s.data.toList.isEmpty := by
  rw [List.take_of_length_le (by rw [size_list]; omega)] at h
  simp [nameB, h]

set_option maxHeartbeats 400000 in
theorem isName_any (s : ByteArray) (w : World) (hs : s.size ≤ maxLen) :
    Calls Tryd.prog 58 #[.string s] w fun e w' => e = .returned (.bool (nameB s.data.toList)) ∧ w' = w := by
  unfold maxLen at hs
  go_enter Tryd.func58, Tryd.ntmps58
  go_wp2
  go_loop [6] (fun i => ∃ k : Nat, k ≤ s.size ∧ i = .int .i64 k ∧ Hid ((s.data.toList.take k).all nameC = true)) (fun i => s.size - (intOf i).toNat)
  case atStart => exact ⟨0, Nat.zero_le _, rfl, by simp [Hid]⟩
  case round =>
    obtain ⟨k, hk, rfl, HA⟩ := hrel
    by_cases hlt : k < s.size
    · rcases nameC_cases s[k] with ⟨hc, h1, h2, h3⟩ | ⟨hc, h | ⟨h, h'⟩ | ⟨h, h', h''⟩⟩
      · have HC : Hid _ := hc
        clear hc
        go_wp2
        go_round
        case rel => exact ⟨k + 1, by omega, by go_num, name_go hlt HA.out HC.out⟩
        case measure => simp [intOf]; omega
      all_goals
        have HC : Hid _ := hc
        clear hc
        go_wp2
        go_ret
        exact ⟨ret_bool (name_stop hlt HC.out).symm, rfl⟩
    · go_wp2
      go_ret
      exact ⟨ret_bool (by rw [name_end hlt HA.out, Lib.toList_data]), rfl⟩
end Go.Proofs.YtgbhaphgojlhaaaDoor
