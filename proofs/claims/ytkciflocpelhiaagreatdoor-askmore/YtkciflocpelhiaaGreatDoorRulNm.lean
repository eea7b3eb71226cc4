/-
  What rule.Name does: the walk.
-/
import Derived.Test.YtkciflocpelhiaaGreatDoorRows
import Derived.Test.YtkciflocpelhiaaGreatDoorPure
import Derived.Test.YtkciflocpelhiaaGreatDoorRulPur
import Derived.Test.YtkciflocpelhiaaGreatDoorTxt
import Derived.WalkKit
namespace Go.Proofs.YtkciflocpelhiaaGreatDoor
open Go.RowKit

theorem all_take_more {l : List UInt8} {k : Nat} {c : UInt8} (f : UInt8 → Bool) (h : l[k]? = some c) : (l.take (k + 1)).all f = ((l.take k).all f && f c) := by
  have hk : k < l.length := (List.getElem?_eq_some_iff.1 h).1
  have e : l[k] = c := (List.getElem?_eq_some_iff.1 h).2
  rw [List.take_succ_eq_append_getElem hk, List.all_append, e]
  simp
theorem inName_no {c : UInt8} (h : inName c = false) : c.toNat < 33 ∨ 126 < c.toNat := by
  unfold inName at h; simp at h; omega
theorem inName_yes {c : UInt8} (h : inName c = true) : 33 ≤ c.toNat ∧ c.toNat ≤ 126 := by
  unfold inName at h; simpa using h
theorem nameP_bad {s : ByteArray} {c : UInt8} (hc : c ∈ s.data.toList) (h1 : 1 ≤ s.size) (h2 : s.size ≤ 12) (h : inName c = false) : nameP s.data.toList = 3 := by
  unfold nameP
  rw [if_neg (by rw [size_list]; omega), if_neg]
  intro ha
  have := List.all_eq_true.1 ha c hc
  rw [h] at this; cases this
theorem nameP_good {s : ByteArray} (h1 : 1 ≤ s.size) (h2 : s.size ≤ 12) (h : s.data.toList.all inName = true) : nameP s.data.toList = 0 := by
  unfold nameP
  rw [if_neg (by rw [size_list]; omega), if_pos h]
theorem nameP_size {s : ByteArray} (h : s.size < 1 ∨ 12 < s.size) : nameP s.data.toList = 1 := by
  unfold nameP
  rw [if_pos (by rw [size_list]; exact h)]

set_option maxHeartbeats 2000000 in
theorem rname_any (s : ByteArray) (w : World) :
    Calls Tryz.prog 71 #[.string s] w fun e w' => e = .returned (.int .i64 (nameP s.data.toList)) ∧ w' = w := by
  by_cases h0 : s.size < 1
  · have HR : Hid _ := nameP_size (Or.inl h0)
    have i0 : (s.size : Int) < 1 := by omega
    go_enter Tryz.func71, Tryz.ntmps71
    go_wp2
    go_ret
    exact ⟨ret_int HR.out.symm, rfl⟩
  · by_cases h12 : 12 < s.size
    · have HR : Hid _ := nameP_size (Or.inr h12)
      have i0 : ¬ (s.size : Int) < 1 := by omega
      have i1 : (12 : Int) < (s.size : Int) := by omega
      go_enter Tryz.func71, Tryz.ntmps71
      go_wp2
      go_ret
      exact ⟨ret_int HR.out.symm, rfl⟩
    · have i0 : ¬ (s.size : Int) < 1 := by omega
      have i1 : ¬ (12 : Int) < (s.size : Int) := by omega
      go_enter Tryz.func71, Tryz.ntmps71
      go_wp2
      go_loopw [14] (fun i wr => ∃ k : Nat, k ≤ s.size ∧ i = .int .i64 k ∧ Hid ((s.data.toList.take k).all inName = true) ∧ wr = w) (fun i _ => s.size - (intOf i).toNat)
      case atStart => exact ⟨0, Nat.zero_le _, rfl, rfl, rfl⟩
      case round =>
        obtain ⟨k, hk, rfl, HT, rfl⟩ := hrel
        by_cases hlt : k < s.size
        · have hg := get_list s k hlt
          have HS : Hid _ := all_take_more inName hg
          have hlt' : (k : Int) < (s.size : Int) := by omega
          have hk0 : (0 : Int) ≤ (k : Int) := by omega
          cases ha : inName s[k] with
          | true =>
            have HN : Hid ((s.data.toList.take (k + 1)).all inName = true) := by unfold Hid; rw [HS.out, HT.out, ha]; rfl
            obtain ⟨b1, b2⟩ := inName_yes ha
            have c1 : ¬ ((s[k].toNat : Int) < 33) := by omega
            have c2 : ¬ ((126 : Int) < (s[k].toNat : Int)) := by omega
            clear HS hg ha
            go_wp2
            go_roundw
            case rel => first | exact ⟨k + 1, by omega, by go_num, HN, by first | rfl | trivial⟩ | ((repeat apply Exists.intro); exact ⟨⟨k + 1, by omega, by go_num, HN, by first | rfl | trivial⟩, rfl⟩) | (refine ⟨trivial, ?_⟩; (repeat apply Exists.intro); exact ⟨⟨k + 1, by omega, by go_num, HN, by first | rfl | trivial⟩, rfl⟩)
            case measure => simp [intOf]; omega
          | false =>
            have HN : Hid _ := nameP_bad (List.mem_of_getElem? hg) (by omega) (by omega) ha
            rcases inName_no ha with b | b
            · have c1 : ((s[k].toNat : Int) < 33) := by omega
              clear HS hg ha
              go_wp2
              go_ret
              exact ⟨ret_int HN.out.symm, rfl⟩
            · have c1 : ¬ ((s[k].toNat : Int) < 33) := by omega
              have c2 : ((126 : Int) < (s[k].toNat : Int)) := by omega
              clear HS hg ha
              go_wp2
              go_ret
              exact ⟨ret_int HN.out.symm, rfl⟩
        · have hk' : k = s.size := by omega
          have HN : Hid (nameP s.data.toList = 0) := nameP_good (by omega) (by omega) (by have := HT.out; rwa [List.take_of_length_le (by rw [size_list]; omega)] at this)
          have hlt' : ¬ (k : Int) < (s.size : Int) := by omega
          go_wp2
          go_ret
          exact ⟨ret_int HN.out.symm, rfl⟩
end Go.Proofs.YtkciflocpelhiaaGreatDoor
