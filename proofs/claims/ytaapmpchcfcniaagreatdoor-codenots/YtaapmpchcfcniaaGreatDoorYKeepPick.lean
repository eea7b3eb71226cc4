/-
  What the laws' picking of a number does: the walk.
-/
import Derived.Test.YtaapmpchcfcniaaGreatDoorRows
import Derived.Test.YtaapmpchcfcniaaGreatDoorYQPure2
import Derived.OpenShut
namespace Go.Proofs.YtaapmpchcfcniaaGreatDoor
open Go.RowKit
def jR (n : Int) (m : Nat) : Nat := ((if n < 0 then -(n + 1) else n) % (m : Int)).toNat
theorem jT (n : Int) (m : Nat) (hm : 0 < m) : jR n m < m := by
  unfold jR; have h1 := Int.emod_nonneg (if n < 0 then -(n + 1) else n) (b := (m : Int)) (by omega); have h2 := Int.emod_lt_of_pos (if n < 0 then -(n + 1) else n) (b := (m : Int)) (by omega); omega
set_option maxHeartbeats 1000000 in
theorem jm (n : Int) (m : Nat) (w : World) (hn : (Lit.int .i64 n).wf = true) (hm : 0 < m) (hm2 : m ≤ 9223372036854775807) :
    Calls Tryz.prog 12 #[.int .i64 n, .int .i64 m] w fun e w' => e = .returned (.int .i64 (jR n m)) ∧ w' = w := by
  have hb := bounds_i64 hn; obtain ⟨hb1, hb2⟩ := hb; clear hn; have HP : Hid ((jR n m : Int) = (if n < 0 then -(n + 1) else n) % (m : Int)) := by
    unfold Hid jR; have h1 := Int.emod_nonneg (if n < 0 then -(n + 1) else n) (b := (m : Int)) (by omega); omega
  have hmz : ((m : Int) == 0) = false := by simp; omega
  by_cases h : n < 0
  · have HQ : Hid ((jR n m : Int) = (-(n + 1)) % (m : Int)) := by unfold Hid; rw [HP.out, if_pos h]
    clear HP; go_enter Tryz.func12, Tryz.ntmps12; go_wp2; go_ret; exact ⟨ji (by rw [HQ.out, ← Int.neg_tmod]; exact Int.tmod_eq_emod_of_nonneg (by omega)), rfl⟩
  · have HQ : Hid ((jR n m : Int) = n % (m : Int)) := by unfold Hid; rw [HP.out, if_neg h]
    clear HP; go_enter Tryz.func12, Tryz.ntmps12; go_wp2; go_ret; exact ⟨ji (by rw [HQ.out]), rfl⟩
end Go.Proofs.YtaapmpchcfcniaaGreatDoor
