/-
  What the laws' picking of a number does: the walk.
-/
import Derived.Test.YtgfbdgheencmaaaGreatDoorRows
import Derived.Test.YtgfbdgheencmaaaGreatDoorXQBx3
import Derived.OpenShut
namespace Go.Proofs.YtgfbdgheencmaaaGreatDoor
open Go.RowKit
def jp (n : Int) (m : Nat) : Nat := ((if n < 0 then -(n + 1) else n) % (m : Int)).toNat
theorem jn (n : Int) (m : Nat) (hm : 0 < m) : jp n m < m := by
 unfold jp; have h1 := Int.emod_nonneg (if n < 0 then -(n + 1) else n) (b := (m : Int)) (by omega); have h2 := Int.emod_lt_of_pos (if n < 0 then -(n + 1) else n) (b := (m : Int)) (by omega); omega
set_option maxHeartbeats 1000000 in
theorem jf (n : Int) (m : Nat) (w : World) (hn : (Lit.int .i64 n).wf = true) (hm : 0 < m) (hm2 : m ≤ 9223372036854775807) :
 Calls Tryz.prog 15 #[.int .i64 n, .int .i64 m] w fun e w' => e = .returned (.int .i64 (jp n m)) ∧ w' = w := by
 have hb := bounds_i64 hn; obtain ⟨hb1, hb2⟩ := hb; clear hn; have HP : Hid ((jp n m : Int) = (if n < 0 then -(n + 1) else n) % (m : Int)) := by
  unfold Hid jp; have h1 := Int.emod_nonneg (if n < 0 then -(n + 1) else n) (b := (m : Int)) (by omega); omega
 have hmz : ((m : Int) == 0) = false := by simp; omega
 by_cases h : n < 0
 · have HQ : Hid ((jp n m : Int) = (-(n + 1)) % (m : Int)) := by unfold Hid; rw [HP.out, if_pos h]
   clear HP; go_enter Tryz.func15, Tryz.ntmps15; go_wp2; go_ret; exact ⟨jh (by rw [HQ.out, ← Int.neg_tmod]; exact Int.tmod_eq_emod_of_nonneg (by omega)), rfl⟩
 · have HQ : Hid ((jp n m : Int) = n % (m : Int)) := by unfold Hid; rw [HP.out, if_neg h]
   clear HP; go_enter Tryz.func15, Tryz.ntmps15; go_wp2; go_ret; exact ⟨jh (by rw [HQ.out]), rfl⟩
end Go.Proofs.YtgfbdgheencmaaaGreatDoor
