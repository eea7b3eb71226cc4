/-
  code.checkOp: the walks.
-/
import Derived.Test.YtlcnfpeabnnjoaaGreatDoorCodFit
namespace Go.Proofs.YtlcnfpeabnnjoaaGreatDoor
open Go.RowKit Go.Proofs

set_option maxHeartbeats 1000000 in
set_option maxRecDepth 100000 in
theorem chk_j3 (N : Int) (p1 p2 p3 : Option Addr) (q1 q2 q3 : Nat) (p4 p5 p6 p7 p8 p9 : Option Addr) (q4 q5 q6 q7 q8 q9 : Nat) (A M : Int) (w : World) (hA : A < N) (hM : N ≤ M) : Calls Tryz.prog 44 #[.agg #[.int .i64 3, .int .i64 N, .int .i64 0, .int .i64 0, .int .i64 0, .slice p1 0 q1, .slice p2 0 q2, .bool false, .int .i64 0, .slice p3 0 q3, .int .i64 0, .slice p4 0 q4, .int .i64 0, .int .i64 0, .int .i64 0, .slice p5 0 q5, .slice p6 0 q6, .bool false, .int .i64 0, .slice p7 0 q7, .slice p8 0 q8, .slice p9 0 q9], .int .i64 A, .int .i64 M] w fun e w' => e = .returned (.int .i64 0) ∧ Below w.heap.size w w' := by
  obtain ⟨W1, hW1⟩ : ∃ W1, W1 = w.alloc (.cells #[.int .i64 3, .int .i64 N, .int .i64 0, .int .i64 0, .int .i64 0, .slice p1 0 q1, .slice p2 0 q2, .bool false, .int .i64 0, .slice p3 0 q3, .int .i64 0, .slice p4 0 q4, .int .i64 0, .int .i64 0, .int .i64 0, .slice p5 0 q5, .slice p6 0 q6, .bool false, .int .i64 0, .slice p7 0 q7, .slice p8 0 q8, .slice p9 0 q9] 79) := ⟨_, rfl⟩
  have HWE := hid hW1
  have HB1 := hid (show Below w.heap.size w W1 by rw [hW1]; exact (Below.refl _ _).alloc (Nat.le_refl _) _)
  have hbx : W1.heap[w.heap.size]? = some (.cells #[.int .i64 3, .int .i64 N, .int .i64 0, .int .i64 0, .int .i64 0, .slice p1 0 q1, .slice p2 0 q2, .bool false, .int .i64 0, .slice p3 0 q3, .int .i64 0, .slice p4 0 q4, .int .i64 0, .int .i64 0, .int .i64 0, .slice p5 0 q5, .slice p6 0 q6, .bool false, .int .i64 0, .slice p7 0 q7, .slice p8 0 q8, .slice p9 0 q9] 79) := by rw [hW1]; exact heap_alloc_new w _
  have HBX := hid hbx
  have HRg := hid (show W1.rangeAt w.heap.size 0 [.int .i64 3, .int .i64 N, .int .i64 0, .int .i64 0, .int .i64 0, .slice p1 0 q1, .slice p2 0 q2, .bool false, .int .i64 0, .slice p3 0 q3, .int .i64 0, .slice p4 0 q4, .int .i64 0, .int .i64 0, .int .i64 0, .slice p5 0 q5, .slice p6 0 q6, .bool false, .int .i64 0, .slice p7 0 q7, .slice p8 0 q8, .slice p9 0 q9] from fun j v hj => by rw [Nat.zero_add]; exact gm_cell hbx (by simpa using hj))
  have HSZ := hid (show (Tryz.prog.info? 79).map (·.size) = some ([.int .i64 3, .int .i64 N, .int .i64 0, .int .i64 0, .int .i64 0, .slice p1 0 q1, .slice p2 0 q2, .bool false, .int .i64 0, .slice p3 0 q3, .int .i64 0, .slice p4 0 q4, .int .i64 0, .int .i64 0, .int .i64 0, .slice p5 0 q5, .slice p6 0 q6, .bool false, .int .i64 0, .slice p7 0 q7, .slice p8 0 q8, .slice p9 0 q9] : List Value).length from show (Tryz.prog.info? 79).map (·.size) = some 22 by kernel_rfl)
  have HJ := hid (show Calls Tryz.prog 76 #[.int .i64 3] W1 fun e w' => e = .returned (.bool true) ∧ w' = W1 by have h := isJump_any 3 W1; rwa [show jumpB 3 = true from rfl] at h)
  have HF := hid (fits_j3 N p1 p2 p3 q1 q2 q3 p4 p5 p6 p7 p8 p9 q4 q5 q6 q7 q8 q9 W1)
  have d1 : decide (N ≤ A) = false := by simp; omega
  have d2 : decide (M < N) = false := by simp; omega
  clear hA hM
  have x0 := gm_cell (j := 0) hbx rfl
  have x1 := gm_cell (j := 1) hbx rfl
  clear hW1 hbx
  go_enter Tryz.func44, Tryz.ntmps44
  go_wp2_with fail
  rw [← HWE.out]
  refine HJ.out.mono ?_
  rintro e w1 ⟨rfl, hw1⟩
  subst hw1
  go_upto_region 5 with fail
  refine wp_region_lit ?_
  refine wpList_load_mid rfl 79 _ rfl w.heap.size 0 rfl [.int .i64 3, .int .i64 N, .int .i64 0, .int .i64 0, .int .i64 0, .slice p1 0 q1, .slice p2 0 q2, .bool false, .int .i64 0, .slice p3 0 q3, .int .i64 0, .slice p4 0 q4, .int .i64 0, .int .i64 0, .int .i64 0, .slice p5 0 q5, .slice p6 0 q6, .bool false, .int .i64 0, .slice p7 0 q7, .slice p8 0 q8, .slice p9 0 q9] _ HRg.out Tryz.underlying79 rfl HSZ.out ?_
  simp only [Act.put, List.setIfInBounds_toArray]
  go_wp2_with fail
  refine HF.out.mono ?_
  rintro e w2 ⟨rfl, hb2⟩
  have h2 := gm_low hb2 HBX.out
  have HB2 := hid (HB1.out.trans (hb2.mono HB1.out.size))
  clear x0 x1
  have x0 := gm_cell (j := 0) h2 rfl
  clear h2 hb2
  go_wp2
  go_ret
  exact ⟨rfl, HB2.out⟩
set_option maxHeartbeats 1000000 in
set_option maxRecDepth 100000 in
theorem chk_j4 (N : Int) (p1 p2 p3 : Option Addr) (q1 q2 q3 : Nat) (p4 p5 p6 p7 p8 p9 : Option Addr) (q4 q5 q6 q7 q8 q9 : Nat) (A M : Int) (w : World) (hA : A < N) (hM : N ≤ M) : Calls Tryz.prog 44 #[.agg #[.int .i64 4, .int .i64 N, .int .i64 0, .int .i64 0, .int .i64 0, .slice p1 0 q1, .slice p2 0 q2, .bool false, .int .i64 0, .slice p3 0 q3, .int .i64 0, .slice p4 0 q4, .int .i64 0, .int .i64 0, .int .i64 0, .slice p5 0 q5, .slice p6 0 q6, .bool false, .int .i64 0, .slice p7 0 q7, .slice p8 0 q8, .slice p9 0 q9], .int .i64 A, .int .i64 M] w fun e w' => e = .returned (.int .i64 0) ∧ Below w.heap.size w w' := by
  obtain ⟨W1, hW1⟩ : ∃ W1, W1 = w.alloc (.cells #[.int .i64 4, .int .i64 N, .int .i64 0, .int .i64 0, .int .i64 0, .slice p1 0 q1, .slice p2 0 q2, .bool false, .int .i64 0, .slice p3 0 q3, .int .i64 0, .slice p4 0 q4, .int .i64 0, .int .i64 0, .int .i64 0, .slice p5 0 q5, .slice p6 0 q6, .bool false, .int .i64 0, .slice p7 0 q7, .slice p8 0 q8, .slice p9 0 q9] 79) := ⟨_, rfl⟩
  have HWE := hid hW1
  have HB1 := hid (show Below w.heap.size w W1 by rw [hW1]; exact (Below.refl _ _).alloc (Nat.le_refl _) _)
  have hbx : W1.heap[w.heap.size]? = some (.cells #[.int .i64 4, .int .i64 N, .int .i64 0, .int .i64 0, .int .i64 0, .slice p1 0 q1, .slice p2 0 q2, .bool false, .int .i64 0, .slice p3 0 q3, .int .i64 0, .slice p4 0 q4, .int .i64 0, .int .i64 0, .int .i64 0, .slice p5 0 q5, .slice p6 0 q6, .bool false, .int .i64 0, .slice p7 0 q7, .slice p8 0 q8, .slice p9 0 q9] 79) := by rw [hW1]; exact heap_alloc_new w _
  have HBX := hid hbx
  have HRg := hid (show W1.rangeAt w.heap.size 0 [.int .i64 4, .int .i64 N, .int .i64 0, .int .i64 0, .int .i64 0, .slice p1 0 q1, .slice p2 0 q2, .bool false, .int .i64 0, .slice p3 0 q3, .int .i64 0, .slice p4 0 q4, .int .i64 0, .int .i64 0, .int .i64 0, .slice p5 0 q5, .slice p6 0 q6, .bool false, .int .i64 0, .slice p7 0 q7, .slice p8 0 q8, .slice p9 0 q9] from fun j v hj => by rw [Nat.zero_add]; exact gm_cell hbx (by simpa using hj))
  have HSZ := hid (show (Tryz.prog.info? 79).map (·.size) = some ([.int .i64 4, .int .i64 N, .int .i64 0, .int .i64 0, .int .i64 0, .slice p1 0 q1, .slice p2 0 q2, .bool false, .int .i64 0, .slice p3 0 q3, .int .i64 0, .slice p4 0 q4, .int .i64 0, .int .i64 0, .int .i64 0, .slice p5 0 q5, .slice p6 0 q6, .bool false, .int .i64 0, .slice p7 0 q7, .slice p8 0 q8, .slice p9 0 q9] : List Value).length from show (Tryz.prog.info? 79).map (·.size) = some 22 by kernel_rfl)
  have HJ := hid (show Calls Tryz.prog 76 #[.int .i64 4] W1 fun e w' => e = .returned (.bool true) ∧ w' = W1 by have h := isJump_any 4 W1; rwa [show jumpB 4 = true from rfl] at h)
  have HF := hid (fits_j4 N p1 p2 p3 q1 q2 q3 p4 p5 p6 p7 p8 p9 q4 q5 q6 q7 q8 q9 W1)
  have d1 : decide (N ≤ A) = false := by simp; omega
  have d2 : decide (M < N) = false := by simp; omega
  clear hA hM
  have x0 := gm_cell (j := 0) hbx rfl
  have x1 := gm_cell (j := 1) hbx rfl
  clear hW1 hbx
  go_enter Tryz.func44, Tryz.ntmps44
  go_wp2_with fail
  rw [← HWE.out]
  refine HJ.out.mono ?_
  rintro e w1 ⟨rfl, hw1⟩
  subst hw1
  go_upto_region 5 with fail
  refine wp_region_lit ?_
  refine wpList_load_mid rfl 79 _ rfl w.heap.size 0 rfl [.int .i64 4, .int .i64 N, .int .i64 0, .int .i64 0, .int .i64 0, .slice p1 0 q1, .slice p2 0 q2, .bool false, .int .i64 0, .slice p3 0 q3, .int .i64 0, .slice p4 0 q4, .int .i64 0, .int .i64 0, .int .i64 0, .slice p5 0 q5, .slice p6 0 q6, .bool false, .int .i64 0, .slice p7 0 q7, .slice p8 0 q8, .slice p9 0 q9] _ HRg.out Tryz.underlying79 rfl HSZ.out ?_
  simp only [Act.put, List.setIfInBounds_toArray]
  go_wp2_with fail
  refine HF.out.mono ?_
  rintro e w2 ⟨rfl, hb2⟩
  have h2 := gm_low hb2 HBX.out
  have HB2 := hid (HB1.out.trans (hb2.mono HB1.out.size))
  clear x0 x1
  have x0 := gm_cell (j := 0) h2 rfl
  clear h2 hb2
  go_wp2
  go_ret
  exact ⟨rfl, HB2.out⟩
set_option maxHeartbeats 1000000 in
set_option maxRecDepth 100000 in
theorem chk_j5 (N : Int) (p1 p2 p3 : Option Addr) (q1 q2 q3 : Nat) (p4 p5 p6 p7 p8 p9 : Option Addr) (q4 q5 q6 q7 q8 q9 : Nat) (A M : Int) (w : World) (hA : A < N) (hM : N ≤ M) : Calls Tryz.prog 44 #[.agg #[.int .i64 5, .int .i64 N, .int .i64 0, .int .i64 0, .int .i64 0, .slice p1 0 q1, .slice p2 0 q2, .bool false, .int .i64 0, .slice p3 0 q3, .int .i64 0, .slice p4 0 q4, .int .i64 0, .int .i64 0, .int .i64 0, .slice p5 0 q5, .slice p6 0 q6, .bool false, .int .i64 0, .slice p7 0 q7, .slice p8 0 q8, .slice p9 0 q9], .int .i64 A, .int .i64 M] w fun e w' => e = .returned (.int .i64 0) ∧ Below w.heap.size w w' := by
  obtain ⟨W1, hW1⟩ : ∃ W1, W1 = w.alloc (.cells #[.int .i64 5, .int .i64 N, .int .i64 0, .int .i64 0, .int .i64 0, .slice p1 0 q1, .slice p2 0 q2, .bool false, .int .i64 0, .slice p3 0 q3, .int .i64 0, .slice p4 0 q4, .int .i64 0, .int .i64 0, .int .i64 0, .slice p5 0 q5, .slice p6 0 q6, .bool false, .int .i64 0, .slice p7 0 q7, .slice p8 0 q8, .slice p9 0 q9] 79) := ⟨_, rfl⟩
  have HWE := hid hW1
  have HB1 := hid (show Below w.heap.size w W1 by rw [hW1]; exact (Below.refl _ _).alloc (Nat.le_refl _) _)
  have hbx : W1.heap[w.heap.size]? = some (.cells #[.int .i64 5, .int .i64 N, .int .i64 0, .int .i64 0, .int .i64 0, .slice p1 0 q1, .slice p2 0 q2, .bool false, .int .i64 0, .slice p3 0 q3, .int .i64 0, .slice p4 0 q4, .int .i64 0, .int .i64 0, .int .i64 0, .slice p5 0 q5, .slice p6 0 q6, .bool false, .int .i64 0, .slice p7 0 q7, .slice p8 0 q8, .slice p9 0 q9] 79) := by rw [hW1]; exact heap_alloc_new w _
  have HBX := hid hbx
  have HRg := hid (show W1.rangeAt w.heap.size 0 [.int .i64 5, .int .i64 N, .int .i64 0, .int .i64 0, .int .i64 0, .slice p1 0 q1, .slice p2 0 q2, .bool false, .int .i64 0, .slice p3 0 q3, .int .i64 0, .slice p4 0 q4, .int .i64 0, .int .i64 0, .int .i64 0, .slice p5 0 q5, .slice p6 0 q6, .bool false, .int .i64 0, .slice p7 0 q7, .slice p8 0 q8, .slice p9 0 q9] from fun j v hj => by rw [Nat.zero_add]; exact gm_cell hbx (by simpa using hj))
  have HSZ := hid (show (Tryz.prog.info? 79).map (·.size) = some ([.int .i64 5, .int .i64 N, .int .i64 0, .int .i64 0, .int .i64 0, .slice p1 0 q1, .slice p2 0 q2, .bool false, .int .i64 0, .slice p3 0 q3, .int .i64 0, .slice p4 0 q4, .int .i64 0, .int .i64 0, .int .i64 0, .slice p5 0 q5, .slice p6 0 q6, .bool false, .int .i64 0, .slice p7 0 q7, .slice p8 0 q8, .slice p9 0 q9] : List Value).length from show (Tryz.prog.info? 79).map (·.size) = some 22 by kernel_rfl)
  have HJ := hid (show Calls Tryz.prog 76 #[.int .i64 5] W1 fun e w' => e = .returned (.bool true) ∧ w' = W1 by have h := isJump_any 5 W1; rwa [show jumpB 5 = true from rfl] at h)
  have HF := hid (fits_j5 N p1 p2 p3 q1 q2 q3 p4 p5 p6 p7 p8 p9 q4 q5 q6 q7 q8 q9 W1)
  have d1 : decide (N ≤ A) = false := by simp; omega
  have d2 : decide (M < N) = false := by simp; omega
  clear hA hM
  have x0 := gm_cell (j := 0) hbx rfl
  have x1 := gm_cell (j := 1) hbx rfl
  clear hW1 hbx
  go_enter Tryz.func44, Tryz.ntmps44
  go_wp2_with fail
  rw [← HWE.out]
  refine HJ.out.mono ?_
  rintro e w1 ⟨rfl, hw1⟩
  subst hw1
  go_upto_region 5 with fail
  refine wp_region_lit ?_
  refine wpList_load_mid rfl 79 _ rfl w.heap.size 0 rfl [.int .i64 5, .int .i64 N, .int .i64 0, .int .i64 0, .int .i64 0, .slice p1 0 q1, .slice p2 0 q2, .bool false, .int .i64 0, .slice p3 0 q3, .int .i64 0, .slice p4 0 q4, .int .i64 0, .int .i64 0, .int .i64 0, .slice p5 0 q5, .slice p6 0 q6, .bool false, .int .i64 0, .slice p7 0 q7, .slice p8 0 q8, .slice p9 0 q9] _ HRg.out Tryz.underlying79 rfl HSZ.out ?_
  simp only [Act.put, List.setIfInBounds_toArray]
  go_wp2_with fail
  refine HF.out.mono ?_
  rintro e w2 ⟨rfl, hb2⟩
  have h2 := gm_low hb2 HBX.out
  have HB2 := hid (HB1.out.trans (hb2.mono HB1.out.size))
  clear x0 x1
  have x0 := gm_cell (j := 0) h2 rfl
  clear h2 hb2
  go_wp2
  go_ret
  exact ⟨rfl, HB2.out⟩
set_option maxHeartbeats 1000000 in
set_option maxRecDepth 100000 in
theorem chk_flip (p1 p2 p3 : Option Addr) (q1 q2 q3 : Nat) (p4 p5 p6 p7 p8 p9 : Option Addr) (q4 q5 q6 q7 q8 q9 : Nat) (A M : Int) (w : World) : Calls Tryz.prog 44 #[.agg #[.int .i64 2, .int .i64 0, .int .i64 0, .int .i64 0, .int .i64 0, .slice p1 0 q1, .slice p2 0 q2, .bool false, .int .i64 0, .slice p3 0 q3, .int .i64 0, .slice p4 0 q4, .int .i64 0, .int .i64 0, .int .i64 0, .slice p5 0 q5, .slice p6 0 q6, .bool false, .int .i64 0, .slice p7 0 q7, .slice p8 0 q8, .slice p9 0 q9], .int .i64 A, .int .i64 M] w fun e w' => e = .returned (.int .i64 0) ∧ Below w.heap.size w w' := by
  obtain ⟨W1, hW1⟩ : ∃ W1, W1 = w.alloc (.cells #[.int .i64 2, .int .i64 0, .int .i64 0, .int .i64 0, .int .i64 0, .slice p1 0 q1, .slice p2 0 q2, .bool false, .int .i64 0, .slice p3 0 q3, .int .i64 0, .slice p4 0 q4, .int .i64 0, .int .i64 0, .int .i64 0, .slice p5 0 q5, .slice p6 0 q6, .bool false, .int .i64 0, .slice p7 0 q7, .slice p8 0 q8, .slice p9 0 q9] 79) := ⟨_, rfl⟩
  have HWE := hid hW1
  have HB1 := hid (show Below w.heap.size w W1 by rw [hW1]; exact (Below.refl _ _).alloc (Nat.le_refl _) _)
  have hbx : W1.heap[w.heap.size]? = some (.cells #[.int .i64 2, .int .i64 0, .int .i64 0, .int .i64 0, .int .i64 0, .slice p1 0 q1, .slice p2 0 q2, .bool false, .int .i64 0, .slice p3 0 q3, .int .i64 0, .slice p4 0 q4, .int .i64 0, .int .i64 0, .int .i64 0, .slice p5 0 q5, .slice p6 0 q6, .bool false, .int .i64 0, .slice p7 0 q7, .slice p8 0 q8, .slice p9 0 q9] 79) := by rw [hW1]; exact heap_alloc_new w _
  have HBX := hid hbx
  have HRg := hid (show W1.rangeAt w.heap.size 0 [.int .i64 2, .int .i64 0, .int .i64 0, .int .i64 0, .int .i64 0, .slice p1 0 q1, .slice p2 0 q2, .bool false, .int .i64 0, .slice p3 0 q3, .int .i64 0, .slice p4 0 q4, .int .i64 0, .int .i64 0, .int .i64 0, .slice p5 0 q5, .slice p6 0 q6, .bool false, .int .i64 0, .slice p7 0 q7, .slice p8 0 q8, .slice p9 0 q9] from fun j v hj => by rw [Nat.zero_add]; exact gm_cell hbx (by simpa using hj))
  have HSZ := hid (show (Tryz.prog.info? 79).map (·.size) = some ([.int .i64 2, .int .i64 0, .int .i64 0, .int .i64 0, .int .i64 0, .slice p1 0 q1, .slice p2 0 q2, .bool false, .int .i64 0, .slice p3 0 q3, .int .i64 0, .slice p4 0 q4, .int .i64 0, .int .i64 0, .int .i64 0, .slice p5 0 q5, .slice p6 0 q6, .bool false, .int .i64 0, .slice p7 0 q7, .slice p8 0 q8, .slice p9 0 q9] : List Value).length from show (Tryz.prog.info? 79).map (·.size) = some 22 by kernel_rfl)
  have HJ := hid (show Calls Tryz.prog 76 #[.int .i64 2] W1 fun e w' => e = .returned (.bool false) ∧ w' = W1 by have h := isJump_any 2 W1; rwa [show jumpB 2 = false from rfl] at h)
  have HF := hid (fits_flip p1 p2 p3 q1 q2 q3 p4 p5 p6 p7 p8 p9 q4 q5 q6 q7 q8 q9 W1)
  have x0 := gm_cell (j := 0) hbx rfl
  have x1 := gm_cell (j := 1) hbx rfl
  clear hW1 hbx
  go_enter Tryz.func44, Tryz.ntmps44
  go_wp2_with fail
  rw [← HWE.out]
  refine HJ.out.mono ?_
  rintro e w1 ⟨rfl, hw1⟩
  subst hw1
  go_upto_region 5 with fail
  refine wp_region_lit ?_
  refine wpList_load_mid rfl 79 _ rfl w.heap.size 0 rfl [.int .i64 2, .int .i64 0, .int .i64 0, .int .i64 0, .int .i64 0, .slice p1 0 q1, .slice p2 0 q2, .bool false, .int .i64 0, .slice p3 0 q3, .int .i64 0, .slice p4 0 q4, .int .i64 0, .int .i64 0, .int .i64 0, .slice p5 0 q5, .slice p6 0 q6, .bool false, .int .i64 0, .slice p7 0 q7, .slice p8 0 q8, .slice p9 0 q9] _ HRg.out Tryz.underlying79 rfl HSZ.out ?_
  simp only [Act.put, List.setIfInBounds_toArray]
  go_wp2_with fail
  refine HF.out.mono ?_
  rintro e w2 ⟨rfl, hb2⟩
  have h2 := gm_low hb2 HBX.out
  have HB2 := hid (HB1.out.trans (hb2.mono HB1.out.size))
  clear x0 x1
  have x0 := gm_cell (j := 0) h2 rfl
  clear h2 hb2
  go_wp2
  go_ret
  exact ⟨rfl, HB2.out⟩
set_option maxHeartbeats 1000000 in
set_option maxRecDepth 100000 in
theorem chk_ask (t : Tst) (a1 a2 a3 : Option Addr) (c1 c2 c3 : Nat) (p4 p5 p6 p7 p8 p9 : Option Addr) (q4 q5 q6 q7 q8 q9 : Nat) (hk : jumpB t.kind = false) (A M : Int) (w : World) (ha : ∀ w2, Below w.heap.size w w2 → Calls Tryz.prog 78 #[.agg #[.int .i64 2, .slice none 0 0, .int .i64 t.kind, .int .i64 t.mat, .int .i64 t.part, .slice a1 t.names.length c1, .slice a2 t.keys.length c2, .bool t.over, .int .i64 t.limit, .slice a3 0 c3, .slice none 0 0, .slice none 0 0]] w2 fun e w' => e = .returned (.int .i64 0) ∧ Below w2.heap.size w2 w') : Calls Tryz.prog 44 #[.agg #[.int .i64 1, .int .i64 0, .int .i64 t.kind, .int .i64 t.mat, .int .i64 t.part, .slice a1 t.names.length c1, .slice a2 t.keys.length c2, .bool t.over, .int .i64 t.limit, .slice a3 0 c3, .int .i64 0, .slice p4 0 q4, .int .i64 0, .int .i64 0, .int .i64 0, .slice p5 0 q5, .slice p6 0 q6, .bool false, .int .i64 0, .slice p7 0 q7, .slice p8 0 q8, .slice p9 0 q9], .int .i64 A, .int .i64 M] w fun e w' => e = .returned (.int .i64 0) ∧ Below w.heap.size w w' := by
  obtain ⟨W1, hW1⟩ : ∃ W1, W1 = w.alloc (.cells #[.int .i64 1, .int .i64 0, .int .i64 t.kind, .int .i64 t.mat, .int .i64 t.part, .slice a1 t.names.length c1, .slice a2 t.keys.length c2, .bool t.over, .int .i64 t.limit, .slice a3 0 c3, .int .i64 0, .slice p4 0 q4, .int .i64 0, .int .i64 0, .int .i64 0, .slice p5 0 q5, .slice p6 0 q6, .bool false, .int .i64 0, .slice p7 0 q7, .slice p8 0 q8, .slice p9 0 q9] 79) := ⟨_, rfl⟩
  have HWE := hid hW1
  have HB1 := hid (show Below w.heap.size w W1 by rw [hW1]; exact (Below.refl _ _).alloc (Nat.le_refl _) _)
  have hbx : W1.heap[w.heap.size]? = some (.cells #[.int .i64 1, .int .i64 0, .int .i64 t.kind, .int .i64 t.mat, .int .i64 t.part, .slice a1 t.names.length c1, .slice a2 t.keys.length c2, .bool t.over, .int .i64 t.limit, .slice a3 0 c3, .int .i64 0, .slice p4 0 q4, .int .i64 0, .int .i64 0, .int .i64 0, .slice p5 0 q5, .slice p6 0 q6, .bool false, .int .i64 0, .slice p7 0 q7, .slice p8 0 q8, .slice p9 0 q9] 79) := by rw [hW1]; exact heap_alloc_new w _
  have HBX := hid hbx
  have HRg := hid (show W1.rangeAt w.heap.size 0 [.int .i64 1, .int .i64 0, .int .i64 t.kind, .int .i64 t.mat, .int .i64 t.part, .slice a1 t.names.length c1, .slice a2 t.keys.length c2, .bool t.over, .int .i64 t.limit, .slice a3 0 c3, .int .i64 0, .slice p4 0 q4, .int .i64 0, .int .i64 0, .int .i64 0, .slice p5 0 q5, .slice p6 0 q6, .bool false, .int .i64 0, .slice p7 0 q7, .slice p8 0 q8, .slice p9 0 q9] from fun j v hj => by rw [Nat.zero_add]; exact gm_cell hbx (by simpa using hj))
  have HSZ := hid (show (Tryz.prog.info? 79).map (·.size) = some ([.int .i64 1, .int .i64 0, .int .i64 t.kind, .int .i64 t.mat, .int .i64 t.part, .slice a1 t.names.length c1, .slice a2 t.keys.length c2, .bool t.over, .int .i64 t.limit, .slice a3 0 c3, .int .i64 0, .slice p4 0 q4, .int .i64 0, .int .i64 0, .int .i64 0, .slice p5 0 q5, .slice p6 0 q6, .bool false, .int .i64 0, .slice p7 0 q7, .slice p8 0 q8, .slice p9 0 q9] : List Value).length from show (Tryz.prog.info? 79).map (·.size) = some 22 by kernel_rfl)
  have HJ := hid (show Calls Tryz.prog 76 #[.int .i64 1] W1 fun e w' => e = .returned (.bool false) ∧ w' = W1 by have h := isJump_any 1 W1; rwa [show jumpB 1 = false from rfl] at h)
  have HF := hid (fits_ask t a1 a2 a3 c1 c2 c3 p4 p5 p6 p7 p8 p9 q4 q5 q6 q7 q8 q9 hk W1)
  have HA := hid ha
  clear ha hk
  have x0 := gm_cell (j := 0) hbx rfl
  have x1 := gm_cell (j := 1) hbx rfl
  clear hW1 hbx
  go_enter Tryz.func44, Tryz.ntmps44
  go_wp2_with fail
  rw [← HWE.out]
  refine HJ.out.mono ?_
  rintro e w1 ⟨rfl, hw1⟩
  subst hw1
  go_upto_region 5 with fail
  refine wp_region_lit ?_
  refine wpList_load_mid rfl 79 _ rfl w.heap.size 0 rfl [.int .i64 1, .int .i64 0, .int .i64 t.kind, .int .i64 t.mat, .int .i64 t.part, .slice a1 t.names.length c1, .slice a2 t.keys.length c2, .bool t.over, .int .i64 t.limit, .slice a3 0 c3, .int .i64 0, .slice p4 0 q4, .int .i64 0, .int .i64 0, .int .i64 0, .slice p5 0 q5, .slice p6 0 q6, .bool false, .int .i64 0, .slice p7 0 q7, .slice p8 0 q8, .slice p9 0 q9] _ HRg.out Tryz.underlying79 rfl HSZ.out ?_
  simp only [Act.put, List.setIfInBounds_toArray]
  go_wp2_with fail
  refine HF.out.mono ?_
  rintro e w2 ⟨rfl, hb2⟩
  have h2 := gm_low hb2 HBX.out
  have HB2 := hid (HB1.out.trans (hb2.mono HB1.out.size))
  clear x0 x1
  have x0 := gm_cell (j := 0) h2 rfl
  have x2 := gm_cell (j := 2) h2 rfl
  have x3 := gm_cell (j := 3) h2 rfl
  have x4 := gm_cell (j := 4) h2 rfl
  have x5 := gm_cell (j := 5) h2 rfl
  have x6 := gm_cell (j := 6) h2 rfl
  have x7 := gm_cell (j := 7) h2 rfl
  have x8 := gm_cell (j := 8) h2 rfl
  have x9 := gm_cell (j := 9) h2 rfl
  clear h2 hb2
  go_wp2_with fail
  refine (HA.out _ HB2.out).mono ?_
  rintro e w3 ⟨rfl, hb3⟩
  have HB3 := hid (HB2.out.trans (hb3.mono HB2.out.size))
  clear hb3
  go_wp2
  go_ret
  exact ⟨rfl, HB3.out⟩
set_option maxHeartbeats 1000000 in
set_option maxRecDepth 100000 in
theorem chk_do (k : Int) (ax : Option Addr) (n cx : Nat) (p1 p2 p3 : Option Addr) (q1 q2 q3 : Nat) (p5 p6 p7 p8 p9 : Option Addr) (q5 q6 q7 q8 q9 : Nat) (hk : (k == 2) = false) (A M : Int) (w : World) (ha : ∀ w2, Below w.heap.size w w2 → Calls Tryz.prog 78 #[.agg #[.int .i64 k, .slice ax n cx, .int .i64 0, .int .i64 0, .int .i64 0, .slice p5 0 q5, .slice p6 0 q6, .bool false, .int .i64 0, .slice p7 0 q7, .slice p8 0 q8, .slice p9 0 q9]] w2 fun e w' => e = .returned (.int .i64 0) ∧ Below w2.heap.size w2 w') : Calls Tryz.prog 44 #[.agg #[.int .i64 6, .int .i64 0, .int .i64 0, .int .i64 0, .int .i64 0, .slice p1 0 q1, .slice p2 0 q2, .bool false, .int .i64 0, .slice p3 0 q3, .int .i64 k, .slice ax n cx, .int .i64 0, .int .i64 0, .int .i64 0, .slice p5 0 q5, .slice p6 0 q6, .bool false, .int .i64 0, .slice p7 0 q7, .slice p8 0 q8, .slice p9 0 q9], .int .i64 A, .int .i64 M] w fun e w' => e = .returned (.int .i64 0) ∧ Below w.heap.size w w' := by
  obtain ⟨W1, hW1⟩ : ∃ W1, W1 = w.alloc (.cells #[.int .i64 6, .int .i64 0, .int .i64 0, .int .i64 0, .int .i64 0, .slice p1 0 q1, .slice p2 0 q2, .bool false, .int .i64 0, .slice p3 0 q3, .int .i64 k, .slice ax n cx, .int .i64 0, .int .i64 0, .int .i64 0, .slice p5 0 q5, .slice p6 0 q6, .bool false, .int .i64 0, .slice p7 0 q7, .slice p8 0 q8, .slice p9 0 q9] 79) := ⟨_, rfl⟩
  have HWE := hid hW1
  have HB1 := hid (show Below w.heap.size w W1 by rw [hW1]; exact (Below.refl _ _).alloc (Nat.le_refl _) _)
  have hbx : W1.heap[w.heap.size]? = some (.cells #[.int .i64 6, .int .i64 0, .int .i64 0, .int .i64 0, .int .i64 0, .slice p1 0 q1, .slice p2 0 q2, .bool false, .int .i64 0, .slice p3 0 q3, .int .i64 k, .slice ax n cx, .int .i64 0, .int .i64 0, .int .i64 0, .slice p5 0 q5, .slice p6 0 q6, .bool false, .int .i64 0, .slice p7 0 q7, .slice p8 0 q8, .slice p9 0 q9] 79) := by rw [hW1]; exact heap_alloc_new w _
  have HBX := hid hbx
  have HRg := hid (show W1.rangeAt w.heap.size 0 [.int .i64 6, .int .i64 0, .int .i64 0, .int .i64 0, .int .i64 0, .slice p1 0 q1, .slice p2 0 q2, .bool false, .int .i64 0, .slice p3 0 q3, .int .i64 k, .slice ax n cx, .int .i64 0, .int .i64 0, .int .i64 0, .slice p5 0 q5, .slice p6 0 q6, .bool false, .int .i64 0, .slice p7 0 q7, .slice p8 0 q8, .slice p9 0 q9] from fun j v hj => by rw [Nat.zero_add]; exact gm_cell hbx (by simpa using hj))
  have HSZ := hid (show (Tryz.prog.info? 79).map (·.size) = some ([.int .i64 6, .int .i64 0, .int .i64 0, .int .i64 0, .int .i64 0, .slice p1 0 q1, .slice p2 0 q2, .bool false, .int .i64 0, .slice p3 0 q3, .int .i64 k, .slice ax n cx, .int .i64 0, .int .i64 0, .int .i64 0, .slice p5 0 q5, .slice p6 0 q6, .bool false, .int .i64 0, .slice p7 0 q7, .slice p8 0 q8, .slice p9 0 q9] : List Value).length from show (Tryz.prog.info? 79).map (·.size) = some 22 by kernel_rfl)
  have HJ := hid (show Calls Tryz.prog 76 #[.int .i64 6] W1 fun e w' => e = .returned (.bool false) ∧ w' = W1 by have h := isJump_any 6 W1; rwa [show jumpB 6 = false from rfl] at h)
  have HF := hid (fits_do k ax n cx p1 p2 p3 q1 q2 q3 p5 p6 p7 p8 p9 q5 q6 q7 q8 q9 hk W1)
  have HA := hid ha
  clear ha hk
  have x0 := gm_cell (j := 0) hbx rfl
  have x1 := gm_cell (j := 1) hbx rfl
  clear hW1 hbx
  go_enter Tryz.func44, Tryz.ntmps44
  go_wp2_with fail
  rw [← HWE.out]
  refine HJ.out.mono ?_
  rintro e w1 ⟨rfl, hw1⟩
  subst hw1
  go_upto_region 5 with fail
  refine wp_region_lit ?_
  refine wpList_load_mid rfl 79 _ rfl w.heap.size 0 rfl [.int .i64 6, .int .i64 0, .int .i64 0, .int .i64 0, .int .i64 0, .slice p1 0 q1, .slice p2 0 q2, .bool false, .int .i64 0, .slice p3 0 q3, .int .i64 k, .slice ax n cx, .int .i64 0, .int .i64 0, .int .i64 0, .slice p5 0 q5, .slice p6 0 q6, .bool false, .int .i64 0, .slice p7 0 q7, .slice p8 0 q8, .slice p9 0 q9] _ HRg.out Tryz.underlying79 rfl HSZ.out ?_
  simp only [Act.put, List.setIfInBounds_toArray]
  go_wp2_with fail
  refine HF.out.mono ?_
  rintro e w2 ⟨rfl, hb2⟩
  have h2 := gm_low hb2 HBX.out
  have HB2 := hid (HB1.out.trans (hb2.mono HB1.out.size))
  clear x0 x1
  have x0 := gm_cell (j := 0) h2 rfl
  have x10 := gm_cell (j := 10) h2 rfl
  have x11 := gm_cell (j := 11) h2 rfl
  have x12 := gm_cell (j := 12) h2 rfl
  have x13 := gm_cell (j := 13) h2 rfl
  have x14 := gm_cell (j := 14) h2 rfl
  have x15 := gm_cell (j := 15) h2 rfl
  have x16 := gm_cell (j := 16) h2 rfl
  have x17 := gm_cell (j := 17) h2 rfl
  have x18 := gm_cell (j := 18) h2 rfl
  have x19 := gm_cell (j := 19) h2 rfl
  have x20 := gm_cell (j := 20) h2 rfl
  have x21 := gm_cell (j := 21) h2 rfl
  clear h2 hb2
  go_wp2_with fail
  refine (HA.out _ HB2.out).mono ?_
  rintro e w3 ⟨rfl, hb3⟩
  have HB3 := hid (HB2.out.trans (hb3.mono HB2.out.size))
  clear hb3
  go_wp2
  go_ret
  exact ⟨rfl, HB3.out⟩
end Go.Proofs.YtlcnfpeabnnjoaaGreatDoor
