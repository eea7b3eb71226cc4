/-
  What who.Part does: the walk.
-/
import Derived.Test.YtkciflocpelhiaaGreatDoorWhoChk
namespace Go.Proofs.YtkciflocpelhiaaGreatDoor
open Go.RowKit

set_option maxHeartbeats 2000000 in
theorem part_any (k : Int) (l d : ByteArray) (w : World) (hl : l.size ≤ 140737488355328) (hd : d.size ≤ 140737488355328) :
    Calls Tryz.prog 63 #[.int .i64 k, .agg #[.string l, .string d]] w fun e w' => e = .returned (.tuple #[.string (S (partM k l.data.toList d.data.toList).1), .int .i64 (partM k l.data.toList d.data.toList).2]) ∧ Below w.heap.size w w' := by
  have HL : Hid _ := hl
  have HD : Hid _ := hd
  have hN : Below w.heap.size w (w.alloc (.cells #[.string l, .string d] 31)) := (Below.refl _ _).alloc (Nat.le_refl _) _
  have HN : Hid _ := hN
  have hc0 : ∀ u, Below (w.heap.size + 1) (w.alloc (.cells #[.string l, .string d] 31)) u → u.cell? ⟨w.heap.size, 0, none⟩ = some (.string l) := fun u hb => (hb.cell (by simp)).trans (by simp)
  have hc1 : ∀ u, Below (w.heap.size + 1) (w.alloc (.cells #[.string l, .string d] 31)) u → u.cell? ⟨w.heap.size, 1, none⟩ = some (.string d) := fun u hb => (hb.cell (by simp)).trans (by simp)
  clear hN hl hd
  by_cases h0 : checkA l.data.toList d.data.toList = 0
  · have HC : Hid _ := h0
    have HP : Hid (partM k l.data.toList d.data.toList = if k = 1 then (l.data.toList ++ 64 :: d.data.toList, 0) else if k = 2 then (l.data.toList, 0) else if k = 3 then (d.data.toList, 0) else ([], 2)) := by
      unfold Hid partM; rw [if_neg (by simpa using h0)]
    clear h0
    by_cases k1 : k = 1
    · subst k1
      have HQ : Hid (partM 1 l.data.toList d.data.toList = (l.data.toList ++ 64 :: d.data.toList, 0)) := by unfold Hid; rw [HP.out]; rfl
      clear HP
      go_enter Tryz.func63, Tryz.ntmps63
      go_wp2_with fail
      refine (check_any l d _ HL.out HD.out).mono ?_
      rintro e u ⟨rfl, hb⟩
      rw [HC.out]
      have c0 := hc0 u (by simpa using hb)
      have c1 := hc1 u (by simpa using hb)
      have hl : l.size ≤ 100 := by have := checkA_len HC.out; rw [size_list, size_list] at this; omega
      have hd : d.size ≤ 100 := by have := checkA_len HC.out; rw [size_list, size_list] at this; omega
      clear hc0 hc1
      go_wp2
      go_ret2
      refine ⟨?_, wnext HN.out hb (Nat.le_refl _)⟩
      rw [HQ.out, ← at_text]; rfl
    · by_cases k2 : k = 2
      · subst k2
        have HQ : Hid (partM 2 l.data.toList d.data.toList = (l.data.toList, 0)) := by unfold Hid; rw [HP.out]; rfl
        clear HP k1
        go_enter Tryz.func63, Tryz.ntmps63
        go_wp2_with fail
        refine (check_any l d _ HL.out HD.out).mono ?_
        rintro e u ⟨rfl, hb⟩
        rw [HC.out]
        have c0 := hc0 u (by simpa using hb)
        clear hc0 hc1
        go_wp2
        go_ret2
        refine ⟨?_, wnext HN.out hb (Nat.le_refl _)⟩
        rw [HQ.out, S_list]; rfl
      · by_cases k3 : k = 3
        · subst k3
          have HQ : Hid (partM 3 l.data.toList d.data.toList = (d.data.toList, 0)) := by unfold Hid; rw [HP.out]; rfl
          clear HP k1 k2
          go_enter Tryz.func63, Tryz.ntmps63
          go_wp2_with fail
          refine (check_any l d _ HL.out HD.out).mono ?_
          rintro e u ⟨rfl, hb⟩
          rw [HC.out]
          have c1 := hc1 u (by simpa using hb)
          clear hc0 hc1
          go_wp2
          go_ret2
          refine ⟨?_, wnext HN.out hb (Nat.le_refl _)⟩
          rw [HQ.out, S_list]; rfl
        · have HQ : Hid (partM k l.data.toList d.data.toList = ([], 2)) := by unfold Hid; rw [HP.out, if_neg k1, if_neg k2, if_neg k3]
          clear HP hc0 hc1
          go_enter Tryz.func63, Tryz.ntmps63
          go_wp2_with fail
          refine (check_any l d _ HL.out HD.out).mono ?_
          rintro e u ⟨rfl, hb⟩
          rw [HC.out]
          go_wp2
          go_ret2
          refine ⟨?_, wnext HN.out hb (Nat.le_refl _)⟩
          rw [HQ.out]; rfl
  · have HQ : Hid (partM k l.data.toList d.data.toList = ([], checkA l.data.toList d.data.toList)) := by unfold Hid partM; rw [if_pos h0]
    clear hc0 hc1
    obtain ⟨x, hx⟩ : ∃ x, x = checkA l.data.toList d.data.toList := ⟨_, rfl⟩
    rw [← hx] at h0 HQ
    have HX : Hid _ := hx
    clear hx
    go_enter Tryz.func63, Tryz.ntmps63
    go_wp2_with fail
    refine (check_any l d _ HL.out HD.out).mono ?_
    rintro e u ⟨rfl, hb⟩
    rw [← HX.out]
    go_wp2
    go_ret2
    refine ⟨?_, wnext HN.out hb (Nat.le_refl _)⟩
    rw [HQ.out]; rfl
end Go.Proofs.YtkciflocpelhiaaGreatDoor
