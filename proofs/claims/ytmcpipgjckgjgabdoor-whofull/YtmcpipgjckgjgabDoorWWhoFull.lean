/-
  A list has room for so many: walked.
-/
import Derived.Test.YtmcpipgjckgjgabDoorWhoFace
import Derived.Test.YtmcpipgjckgjgabDoorWhoLaws
import Derived.Test.YtmcpipgjckgjgabDoorKeepPick
namespace Go.Proofs.YtmcpipgjckgjgabDoor
open Go.RowKit

theorem S_app (a b : List UInt8) : S a ++ S b = S (a ++ b) := by
  rw [← S_list (S a ++ S b)]
  simp [list_S]
theorem full_listM {k : Nat} (hk : k ≤ 39) : listM (fullS (k + 1)) = if 20 < k + 1 then ([], 5) else (List.replicate (k + 1) abM, 0) := by
  unfold listM
  have := full_len (k + 1)
  rw [if_neg (by omega), full_list]
  simp only [List.length_replicate]

set_option maxHeartbeats 8000000 in
set_option maxRecDepth 100000 in
theorem whoFull_walk (w : World) (_ : maxLenCell w) (n : Int) (hn : (Lit.int .i64 n).wf = true) :
    Calls Tryd.prog 3 #[.int .i64 n] w fun e w' => e = .returned (.bool true) ∧ Below w.heap.size w w' := by
  have HK : Hid _ := hn
  obtain ⟨p, hp⟩ : ∃ p : Nat, p = pickN n 40 := ⟨_, rfl⟩
  have hp1 : p ≤ 39 := by have := pickN_lt n 40 (by omega); omega
  have HP : Hid _ := hp
  clear hn hp
  go_enter Tryd.func3, Tryd.ntmps3
  go_wp2_with fail
  refine (picked_any n 40 _ HK.out (by omega) (by omega)).mono ?_
  rintro e u ⟨rfl, hu⟩
  have hu' := hu.symm
  subst hu'
  rw [← HP.out]
  go_wp2
  go_loopw [4, 5] (fun v i wr => ∃ k : Nat, k ≤ p + 1 ∧ i = .int .i64 k ∧ v = .string (S (fullS k)) ∧ wr = w) (fun _ i _ => 41 - (intOf i).toNat)
  case atStart => exact ⟨0, Nat.zero_le _, rfl, rfl, rfl⟩
  case round =>
    obtain ⟨k, hk, rfl, rfl, rfl⟩ := hrel
    have hlen : (S (fullS k)).size ≤ 4 * k := by rw [size_S]; exact full_len k
    by_cases hlt : k < p + 1
    · have hlt' : (k : Int) < 1 + (p : Int) := by omega
      have hw1 : IntKind.i64.wrap (1 + (p : Int)) = 1 + (p : Int) := by rw [IntKind.wrap_i64]; omega
      cases k with
      | zero =>
        have HS : Hid (S (fullS 0) ++ (⟨#[97, 64, 98]⟩ : ByteArray) = S (fullS (0 + 1))) := by
          unfold Hid; show S _ ++ S [97, 64, 98] = _; rw [S_app]; rfl
        have ha1 : ¬ 9223372036854775807 < (S (fullS 0)).size + 3 := by omega
        go_wp2
        rw [HS.out]
        exact ⟨⟨0 + 1, by omega, by go_num, rfl, by first | rfl | trivial⟩, by simp [intOf]⟩
      | succ k =>
        have HS : Hid (S (fullS (k + 1)) ++ (⟨#[44]⟩ : ByteArray) ++ (⟨#[97, 64, 98]⟩ : ByteArray) = S (fullS (k + 1 + 1))) := by
          unfold Hid; show S _ ++ S [44] ++ S [97, 64, 98] = _; rw [S_app, S_app]; rfl
        have ha1 : ¬ 9223372036854775807 < (S (fullS (k + 1))).size + 1 := by omega
        have hkp : (0 : Int) < ((k + 1 : Nat) : Int) := by omega
        go_wp2
        rw [HS.out]
        exact ⟨⟨k + 1 + 1, by omega, by go_num, rfl, by first | rfl | trivial⟩, by simp [intOf]; omega⟩
    · have hk' : k = p + 1 := by omega
      subst hk'
      have hge : ¬ (((p + 1 : Nat) : Int) < 1 + (p : Int)) := by omega
      have hw1 : IntKind.i64.wrap (1 + (p : Int)) = 1 + (p : Int) := by rw [IntKind.wrap_i64]; omega
      have HZ : Hid ((S (fullS (p + 1))).size ≤ maxLen) := by unfold Hid maxLen; omega
      have HM : Hid (listM (S (fullS (p + 1))).data.toList = if 20 < p + 1 then ([], 5) else (List.replicate (p + 1) abM, 0)) := by unfold Hid; rw [list_S]; exact full_listM hp1
      go_wp2_with fail
      refine (list_any (S (fullS (p + 1))) _ HZ.out).mono ?_
      rintro e w1 ⟨a, c, rfl, hA, hb⟩
      by_cases hbig : 20 < p + 1
      · rw [if_pos hbig] at HM
        rw [HM.out]
        have hbig' : (20 : Int) < 1 + (p : Int) := by omega
        clear hbig
        go_wp2
        go_ret
        exact ⟨rfl, hb⟩
      · rw [if_neg hbig] at HM
        rw [HM.out]
        have hbig' : ¬ (20 : Int) < 1 + (p : Int) := by omega
        have HLn : Hid ((List.replicate (p + 1) abM, (0 : Int)).1.length = p + 1) := by unfold Hid; simp
        rw [HLn.out]
        have hlq : ((p + 1 : Nat) : Int) = 1 + (p : Int) := by omega
        clear hbig
        go_wp2
        go_ret
        exact ⟨ret_bool (by first | rfl | simp), hb⟩
end Go.Proofs.YtmcpipgjckgjgabDoor
