/-
  What the laws' picking of a number does: the walk.
-/
import Derived.Test.YtkciflocpelhiaaGreatDoorRows
import Derived.Test.YtkciflocpelhiaaGreatDoorPure
import Derived.OpenShut
namespace Go.Proofs.YtkciflocpelhiaaGreatDoor
open Go.RowKit

def pickN (n : Int) (m : Nat) : Nat := ((if n < 0 then -(n + 1) else n) % (m : Int)).toNat
theorem pickN_lt (n : Int) (m : Nat) (hm : 0 < m) : pickN n m < m := by
  unfold pickN
  have h1 := Int.emod_nonneg (if n < 0 then -(n + 1) else n) (b := (m : Int)) (by omega)
  have h2 := Int.emod_lt_of_pos (if n < 0 then -(n + 1) else n) (b := (m : Int)) (by omega)
  omega
set_option maxHeartbeats 1000000 in
theorem picked_any (n : Int) (m : Nat) (w : World) (hn : (Lit.int .i64 n).wf = true) (hm : 0 < m) (hm2 : m ≤ 9223372036854775807) :
    Calls Tryz.prog 5 #[.int .i64 n, .int .i64 m] w fun e w' => e = .returned (.int .i64 (pickN n m)) ∧ w' = w := by
  have hb := bounds_i64 hn
  obtain ⟨hb1, hb2⟩ := hb
  clear hn
  have HP : Hid ((pickN n m : Int) = (if n < 0 then -(n + 1) else n) % (m : Int)) := by
    unfold Hid pickN
    have h1 := Int.emod_nonneg (if n < 0 then -(n + 1) else n) (b := (m : Int)) (by omega)
    omega
  have hmz : ((m : Int) == 0) = false := by simp; omega
  by_cases h : n < 0
  · have HQ : Hid ((pickN n m : Int) = (-(n + 1)) % (m : Int)) := by unfold Hid; rw [HP.out, if_pos h]
    clear HP
    go_enter Tryz.func5, Tryz.ntmps5
    go_wp2
    go_ret
    exact ⟨ret_int (by rw [HQ.out, ← Int.neg_tmod]; exact Int.tmod_eq_emod_of_nonneg (by omega)), rfl⟩
  · have HQ : Hid ((pickN n m : Int) = n % (m : Int)) := by unfold Hid; rw [HP.out, if_neg h]
    clear HP
    go_enter Tryz.func5, Tryz.ntmps5
    go_wp2
    go_ret
    exact ⟨ret_int (by rw [HQ.out]), rfl⟩
end Go.Proofs.YtkciflocpelhiaaGreatDoor
