/-
  What postroomref.partOf and PartOf do: the walks.
-/
import Derived.Test.YtmcpipgjckgjgaaRefWho
namespace Go.Proofs.Ytmcpipgjckgjgaa
open Go.RowKit

def partR (k : Int) (l d : List UInt8) : List UInt8 := if k = 2 then l else if k = 3 then d else l ++ 64 :: d

set_option maxHeartbeats 2000000 in
theorem partOfR_any (k : Int) (l d : ByteArray) (w : World) (hl : l.size ≤ 100) (hd : d.size ≤ 100) :
    Calls Try.prog 12 #[.int .i64 k, .agg #[.string l, .string d]] w fun e w' => e = .returned (.string (S (partR k l.data.toList d.data.toList))) ∧ Below w.heap.size w w' := by
  have hN : Below w.heap.size w (w.alloc (.cells #[.string l, .string d] 23)) := (Below.refl _ _).alloc (Nat.le_refl _) _
  have HN : Hid _ := hN
  clear hN
  by_cases k2 : k = 2
  · subst k2
    go_enter Try.func12, Try.ntmps12
    go_wp2
    go_ret
    refine ⟨?_, HN.out⟩
    rw [show partR 2 l.data.toList d.data.toList = l.data.toList from rfl, S_list]; rfl
  · by_cases k3 : k = 3
    · subst k3
      clear k2
      go_enter Try.func12, Try.ntmps12
      go_wp2
      go_ret
      refine ⟨?_, HN.out⟩
      rw [show partR 3 l.data.toList d.data.toList = d.data.toList from rfl, S_list]; rfl
    · have HP : Hid (partR k l.data.toList d.data.toList = l.data.toList ++ 64 :: d.data.toList) := by unfold Hid partR; rw [if_neg k2, if_neg k3]
      go_enter Try.func12, Try.ntmps12
      go_wp2
      go_ret
      refine ⟨?_, HN.out⟩
      rw [HP.out, ← at_text]; rfl

theorem partM_ref (k : Int) (l d : List UInt8) (h : checkA l d = 0) (hk : 1 ≤ k ∧ k ≤ 3) : partM k l d = (partR k l d, 0) := by
  unfold partM partR
  rw [if_neg (by simpa using h)]
  by_cases k1 : k = 1
  · subst k1; rfl
  · by_cases k2 : k = 2
    · subst k2; rfl
    · have : k = 3 := by omega
      subst this; rfl

set_option maxHeartbeats 2000000 in
theorem partOf_any (k : Int) (l d : ByteArray) (w : World) (hl : l.size ≤ 140737488355328) (hd : d.size ≤ 140737488355328) :
    Calls Try.prog 8 #[.int .i64 k, .agg #[.string l, .string d]] w fun e w' => e = .returned (.tuple #[.string (S (partM k l.data.toList d.data.toList).1), .int .i64 (partM k l.data.toList d.data.toList).2]) ∧ Below w.heap.size w w' := by
  have HL : Hid _ := hl
  have HD : Hid _ := hd
  have hN : Below w.heap.size w (w.alloc (.cells #[.string l, .string d] 23)) := (Below.refl _ _).alloc (Nat.le_refl _) _
  have HN : Hid _ := hN
  have hc0 : ∀ u, Below (w.heap.size + 1) (w.alloc (.cells #[.string l, .string d] 23)) u → u.cell? ⟨w.heap.size, 0, none⟩ = some (.string l) := fun u hb => (hb.cell (by simp)).trans (by simp)
  have hc1 : ∀ u, Below (w.heap.size + 1) (w.alloc (.cells #[.string l, .string d] 23)) u → u.cell? ⟨w.heap.size, 1, none⟩ = some (.string d) := fun u hb => (hb.cell (by simp)).trans (by simp)
  clear hN hl hd
  by_cases h0 : checkA l.data.toList d.data.toList = 0
  · have HC : Hid _ := h0
    have hl : l.size ≤ 100 := by have := checkA_len h0; rw [size_list, size_list] at this; omega
    have hd : d.size ≤ 100 := by have := checkA_len h0; rw [size_list, size_list] at this; omega
    by_cases hk : 1 ≤ k ∧ k ≤ 3
    · have HQ : Hid _ := partM_ref k l.data.toList d.data.toList h0 hk
      have HI : Hid (decide ((1 : Int) ≤ k ∧ k ≤ 3) = true) := by unfold Hid; simpa using hk
      clear h0 hk
      go_enter Try.func8, Try.ntmps8
      go_wp2_with fail
      refine (addressFault_any l d _ HL.out HD.out).mono ?_
      rintro e u ⟨rfl, hb⟩
      rw [HC.out]
      have c0 := hc0 u (by simpa using hb)
      have c1 := hc1 u (by simpa using hb)
      clear hc0 hc1
      go_wp2_with fail
      refine (within_any k 1 3 _).mono ?_
      rintro e u2 ⟨rfl, hu⟩
      have hu' := hu.symm
      subst hu'
      rw [HI.out]
      go_wp2_with fail
      refine (partOfR_any k l d _ hl hd).mono ?_
      rintro e u3 ⟨rfl, hb3⟩
      go_wp2
      go_ret2
      refine ⟨?_, wnext (wnext HN.out hb (Nat.le_refl _)) hb3 (Nat.le_refl _)⟩
      rw [HQ.out]; rfl
    · have HQ : Hid (partM k l.data.toList d.data.toList = ([], 2)) := by
        unfold Hid partM
        rw [if_neg (by simpa using h0), if_neg (by omega), if_neg (by omega), if_neg (by omega)]
      have HI : Hid (decide ((1 : Int) ≤ k ∧ k ≤ 3) = false) := by unfold Hid; simpa using hk
      clear h0 hk hc0 hc1
      go_enter Try.func8, Try.ntmps8
      go_wp2_with fail
      refine (addressFault_any l d _ HL.out HD.out).mono ?_
      rintro e u ⟨rfl, hb⟩
      rw [HC.out]
      go_wp2_with fail
      refine (within_any k 1 3 _).mono ?_
      rintro e u2 ⟨rfl, hu⟩
      have hu' := hu.symm
      subst hu'
      rw [HI.out]
      go_wp2
      go_ret2
      refine ⟨?_, wnext HN.out hb (Nat.le_refl _)⟩
      rw [HQ.out]; rfl
  · have HQ : Hid (partM k l.data.toList d.data.toList = ([], checkA l.data.toList d.data.toList)) := by unfold Hid partM; rw [if_pos h0]
    clear hc0 hc1
    obtain ⟨x, hx⟩ : ∃ x, x = checkA l.data.toList d.data.toList := ⟨_, rfl⟩
    rw [← hx] at h0 HQ
    have HX : Hid _ := hx
    clear hx
    go_enter Try.func8, Try.ntmps8
    go_wp2_with fail
    refine (addressFault_any l d _ HL.out HD.out).mono ?_
    rintro e u ⟨rfl, hb⟩
    rw [← HX.out]
    go_wp2
    go_ret2
    refine ⟨?_, wnext HN.out hb (Nat.le_refl _)⟩
    rw [HQ.out]; rfl
end Go.Proofs.Ytmcpipgjckgjgaa
