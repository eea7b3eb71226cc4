/-
  code.fits: the walks.
-/
import Derived.Test.YtlcnfpeabnnjoaaGreatDoorCodChk
namespace Go.Proofs.YtlcnfpeabnnjoaaGreatDoor
open Go.RowKit Go.Proofs

set_option maxHeartbeats 1000000 in
set_option maxRecDepth 100000 in
theorem fits_j3 (N : Int) (p1 p2 p3 : Option Addr) (q1 q2 q3 : Nat) (p4 p5 p6 p7 p8 p9 : Option Addr) (q4 q5 q6 q7 q8 q9 : Nat) (w : World) : Calls Tryz.prog 77 #[.agg #[.int .i64 3, .int .i64 N, .int .i64 0, .int .i64 0, .int .i64 0, .slice p1 0 q1, .slice p2 0 q2, .bool false, .int .i64 0, .slice p3 0 q3, .int .i64 0, .slice p4 0 q4, .int .i64 0, .int .i64 0, .int .i64 0, .slice p5 0 q5, .slice p6 0 q6, .bool false, .int .i64 0, .slice p7 0 q7, .slice p8 0 q8, .slice p9 0 q9]] w fun e w' => e = .returned (.bool true) ∧ Below w.heap.size w w' := by
  obtain ⟨W1, hW1⟩ : ∃ W1, W1 = w.alloc (.cells #[.int .i64 3, .int .i64 N, .int .i64 0, .int .i64 0, .int .i64 0, .slice p1 0 q1, .slice p2 0 q2, .bool false, .int .i64 0, .slice p3 0 q3, .int .i64 0, .slice p4 0 q4, .int .i64 0, .int .i64 0, .int .i64 0, .slice p5 0 q5, .slice p6 0 q6, .bool false, .int .i64 0, .slice p7 0 q7, .slice p8 0 q8, .slice p9 0 q9] 79) := ⟨_, rfl⟩
  have HWE := hid hW1
  have HB1 := hid (show Below w.heap.size w W1 by rw [hW1]; exact (Below.refl _ _).alloc (Nat.le_refl _) _)
  have hbx : W1.heap[w.heap.size]? = some (.cells #[.int .i64 3, .int .i64 N, .int .i64 0, .int .i64 0, .int .i64 0, .slice p1 0 q1, .slice p2 0 q2, .bool false, .int .i64 0, .slice p3 0 q3, .int .i64 0, .slice p4 0 q4, .int .i64 0, .int .i64 0, .int .i64 0, .slice p5 0 q5, .slice p6 0 q6, .bool false, .int .i64 0, .slice p7 0 q7, .slice p8 0 q8, .slice p9 0 q9] 79) := by rw [hW1]; exact heap_alloc_new w _
  have HBX := hid hbx
  have HJ := hid (show Calls Tryz.prog 76 #[.int .i64 3] W1 fun e w' => e = .returned (.bool true) ∧ w' = W1 by have h := isJump_any 3 W1; rwa [show jumpB 3 = true from rfl] at h)
  have x0 := gm_cell (j := 0) hbx rfl
  have x1 := gm_cell (j := 1) hbx rfl
  have x2 := gm_cell (j := 2) hbx rfl
  have x3 := gm_cell (j := 3) hbx rfl
  have x4 := gm_cell (j := 4) hbx rfl
  have x5 := gm_cell (j := 5) hbx rfl
  have x6 := gm_cell (j := 6) hbx rfl
  have x7 := gm_cell (j := 7) hbx rfl
  have x8 := gm_cell (j := 8) hbx rfl
  have x9 := gm_cell (j := 9) hbx rfl
  clear hW1 hbx
  go_enter Tryz.func77, Tryz.ntmps77
  go_wp2_with fail
  rw [← HWE.out]
  refine HJ.out.mono ?_
  rintro e w1 ⟨rfl, hw1⟩
  subst hw1
  go_wp2_with fail
  refine (noTest0 _ _ _ _ _ _ _).mono ?_
  rintro e w2 ⟨rfl, hb2⟩
  have h2 := gm_low hb2 HBX.out
  have HBX2 := hid h2
  have HB2 := hid (HB1.out.trans (hb2.mono HB1.out.size))
  clear x0 x1 x2 x3 x4 x5 x6 x7 x8 x9
  have x0 := gm_cell (j := 0) h2 rfl
  have x10 := gm_cell (j := 10) h2 rfl
  have x11 := gm_cell (j := 11) h2 rfl
  have x12 := gm_cell (j := 12) h2 rfl
  have x13 := gm_cell (j := 13) h2 rfl
  have x14 := gm_cell (j := 14) h2 rfl
  have x15 := gm_cell (j := 15) h2 rfl
  have x16 := gm_cell (j := 16) h2 rfl
  have x17 := gm_cell (j := 17) h2 rfl
  have x18 := gm_cell (j := 18) h2 rfl
  have x19 := gm_cell (j := 19) h2 rfl
  have x20 := gm_cell (j := 20) h2 rfl
  have x21 := gm_cell (j := 21) h2 rfl
  clear h2 hb2
  go_wp2_with fail
  refine (noCmd0 _ _ _ _ _ _ _ _ _ _ _ _ _).mono ?_
  rintro e w3 ⟨rfl, hb3⟩
  have h3 := gm_low hb3 HBX2.out
  have HB3 := hid (HB2.out.trans (hb3.mono HB2.out.size))
  clear x0 x10 x11 x12 x13 x14 x15 x16 x17 x18 x19 x20 x21
  have x2 := gm_cell (j := 2) h3 rfl
  have x10 := gm_cell (j := 10) h3 rfl
  clear h3 hb3
  go_wp2_with fail
  refine (hasTests_any _ _).mono ?_
  rintro e w4 ⟨rfl, hw4⟩
  subst hw4
  rw [show jumpB 0 = false from rfl]
  go_wp2
  go_ret
  exact ⟨rfl, HB3.out⟩
set_option maxHeartbeats 1000000 in
set_option maxRecDepth 100000 in
theorem fits_j4 (N : Int) (p1 p2 p3 : Option Addr) (q1 q2 q3 : Nat) (p4 p5 p6 p7 p8 p9 : Option Addr) (q4 q5 q6 q7 q8 q9 : Nat) (w : World) : Calls Tryz.prog 77 #[.agg #[.int .i64 4, .int .i64 N, .int .i64 0, .int .i64 0, .int .i64 0, .slice p1 0 q1, .slice p2 0 q2, .bool false, .int .i64 0, .slice p3 0 q3, .int .i64 0, .slice p4 0 q4, .int .i64 0, .int .i64 0, .int .i64 0, .slice p5 0 q5, .slice p6 0 q6, .bool false, .int .i64 0, .slice p7 0 q7, .slice p8 0 q8, .slice p9 0 q9]] w fun e w' => e = .returned (.bool true) ∧ Below w.heap.size w w' := by
  obtain ⟨W1, hW1⟩ : ∃ W1, W1 = w.alloc (.cells #[.int .i64 4, .int .i64 N, .int .i64 0, .int .i64 0, .int .i64 0, .slice p1 0 q1, .slice p2 0 q2, .bool false, .int .i64 0, .slice p3 0 q3, .int .i64 0, .slice p4 0 q4, .int .i64 0, .int .i64 0, .int .i64 0, .slice p5 0 q5, .slice p6 0 q6, .bool false, .int .i64 0, .slice p7 0 q7, .slice p8 0 q8, .slice p9 0 q9] 79) := ⟨_, rfl⟩
  have HWE := hid hW1
  have HB1 := hid (show Below w.heap.size w W1 by rw [hW1]; exact (Below.refl _ _).alloc (Nat.le_refl _) _)
  have hbx : W1.heap[w.heap.size]? = some (.cells #[.int .i64 4, .int .i64 N, .int .i64 0, .int .i64 0, .int .i64 0, .slice p1 0 q1, .slice p2 0 q2, .bool false, .int .i64 0, .slice p3 0 q3, .int .i64 0, .slice p4 0 q4, .int .i64 0, .int .i64 0, .int .i64 0, .slice p5 0 q5, .slice p6 0 q6, .bool false, .int .i64 0, .slice p7 0 q7, .slice p8 0 q8, .slice p9 0 q9] 79) := by rw [hW1]; exact heap_alloc_new w _
  have HBX := hid hbx
  have HJ := hid (show Calls Tryz.prog 76 #[.int .i64 4] W1 fun e w' => e = .returned (.bool true) ∧ w' = W1 by have h := isJump_any 4 W1; rwa [show jumpB 4 = true from rfl] at h)
  have x0 := gm_cell (j := 0) hbx rfl
  have x1 := gm_cell (j := 1) hbx rfl
  have x2 := gm_cell (j := 2) hbx rfl
  have x3 := gm_cell (j := 3) hbx rfl
  have x4 := gm_cell (j := 4) hbx rfl
  have x5 := gm_cell (j := 5) hbx rfl
  have x6 := gm_cell (j := 6) hbx rfl
  have x7 := gm_cell (j := 7) hbx rfl
  have x8 := gm_cell (j := 8) hbx rfl
  have x9 := gm_cell (j := 9) hbx rfl
  clear hW1 hbx
  go_enter Tryz.func77, Tryz.ntmps77
  go_wp2_with fail
  rw [← HWE.out]
  refine HJ.out.mono ?_
  rintro e w1 ⟨rfl, hw1⟩
  subst hw1
  go_wp2_with fail
  refine (noTest0 _ _ _ _ _ _ _).mono ?_
  rintro e w2 ⟨rfl, hb2⟩
  have h2 := gm_low hb2 HBX.out
  have HBX2 := hid h2
  have HB2 := hid (HB1.out.trans (hb2.mono HB1.out.size))
  clear x0 x1 x2 x3 x4 x5 x6 x7 x8 x9
  have x0 := gm_cell (j := 0) h2 rfl
  have x10 := gm_cell (j := 10) h2 rfl
  have x11 := gm_cell (j := 11) h2 rfl
  have x12 := gm_cell (j := 12) h2 rfl
  have x13 := gm_cell (j := 13) h2 rfl
  have x14 := gm_cell (j := 14) h2 rfl
  have x15 := gm_cell (j := 15) h2 rfl
  have x16 := gm_cell (j := 16) h2 rfl
  have x17 := gm_cell (j := 17) h2 rfl
  have x18 := gm_cell (j := 18) h2 rfl
  have x19 := gm_cell (j := 19) h2 rfl
  have x20 := gm_cell (j := 20) h2 rfl
  have x21 := gm_cell (j := 21) h2 rfl
  clear h2 hb2
  go_wp2_with fail
  refine (noCmd0 _ _ _ _ _ _ _ _ _ _ _ _ _).mono ?_
  rintro e w3 ⟨rfl, hb3⟩
  have h3 := gm_low hb3 HBX2.out
  have HB3 := hid (HB2.out.trans (hb3.mono HB2.out.size))
  clear x0 x10 x11 x12 x13 x14 x15 x16 x17 x18 x19 x20 x21
  have x2 := gm_cell (j := 2) h3 rfl
  have x10 := gm_cell (j := 10) h3 rfl
  clear h3 hb3
  go_wp2_with fail
  refine (hasTests_any _ _).mono ?_
  rintro e w4 ⟨rfl, hw4⟩
  subst hw4
  rw [show jumpB 0 = false from rfl]
  go_wp2
  go_ret
  exact ⟨rfl, HB3.out⟩
set_option maxHeartbeats 1000000 in
set_option maxRecDepth 100000 in
theorem fits_j5 (N : Int) (p1 p2 p3 : Option Addr) (q1 q2 q3 : Nat) (p4 p5 p6 p7 p8 p9 : Option Addr) (q4 q5 q6 q7 q8 q9 : Nat) (w : World) : Calls Tryz.prog 77 #[.agg #[.int .i64 5, .int .i64 N, .int .i64 0, .int .i64 0, .int .i64 0, .slice p1 0 q1, .slice p2 0 q2, .bool false, .int .i64 0, .slice p3 0 q3, .int .i64 0, .slice p4 0 q4, .int .i64 0, .int .i64 0, .int .i64 0, .slice p5 0 q5, .slice p6 0 q6, .bool false, .int .i64 0, .slice p7 0 q7, .slice p8 0 q8, .slice p9 0 q9]] w fun e w' => e = .returned (.bool true) ∧ Below w.heap.size w w' := by
  obtain ⟨W1, hW1⟩ : ∃ W1, W1 = w.alloc (.cells #[.int .i64 5, .int .i64 N, .int .i64 0, .int .i64 0, .int .i64 0, .slice p1 0 q1, .slice p2 0 q2, .bool false, .int .i64 0, .slice p3 0 q3, .int .i64 0, .slice p4 0 q4, .int .i64 0, .int .i64 0, .int .i64 0, .slice p5 0 q5, .slice p6 0 q6, .bool false, .int .i64 0, .slice p7 0 q7, .slice p8 0 q8, .slice p9 0 q9] 79) := ⟨_, rfl⟩
  have HWE := hid hW1
  have HB1 := hid (show Below w.heap.size w W1 by rw [hW1]; exact (Below.refl _ _).alloc (Nat.le_refl _) _)
  have hbx : W1.heap[w.heap.size]? = some (.cells #[.int .i64 5, .int .i64 N, .int .i64 0, .int .i64 0, .int .i64 0, .slice p1 0 q1, .slice p2 0 q2, .bool false, .int .i64 0, .slice p3 0 q3, .int .i64 0, .slice p4 0 q4, .int .i64 0, .int .i64 0, .int .i64 0, .slice p5 0 q5, .slice p6 0 q6, .bool false, .int .i64 0, .slice p7 0 q7, .slice p8 0 q8, .slice p9 0 q9] 79) := by rw [hW1]; exact heap_alloc_new w _
  have HBX := hid hbx
  have HJ := hid (show Calls Tryz.prog 76 #[.int .i64 5] W1 fun e w' => e = .returned (.bool true) ∧ w' = W1 by have h := isJump_any 5 W1; rwa [show jumpB 5 = true from rfl] at h)
  have x0 := gm_cell (j := 0) hbx rfl
  have x1 := gm_cell (j := 1) hbx rfl
  have x2 := gm_cell (j := 2) hbx rfl
  have x3 := gm_cell (j := 3) hbx rfl
  have x4 := gm_cell (j := 4) hbx rfl
  have x5 := gm_cell (j := 5) hbx rfl
  have x6 := gm_cell (j := 6) hbx rfl
  have x7 := gm_cell (j := 7) hbx rfl
  have x8 := gm_cell (j := 8) hbx rfl
  have x9 := gm_cell (j := 9) hbx rfl
  clear hW1 hbx
  go_enter Tryz.func77, Tryz.ntmps77
  go_wp2_with fail
  rw [← HWE.out]
  refine HJ.out.mono ?_
  rintro e w1 ⟨rfl, hw1⟩
  subst hw1
  go_wp2_with fail
  refine (noTest0 _ _ _ _ _ _ _).mono ?_
  rintro e w2 ⟨rfl, hb2⟩
  have h2 := gm_low hb2 HBX.out
  have HBX2 := hid h2
  have HB2 := hid (HB1.out.trans (hb2.mono HB1.out.size))
  clear x0 x1 x2 x3 x4 x5 x6 x7 x8 x9
  have x0 := gm_cell (j := 0) h2 rfl
  have x10 := gm_cell (j := 10) h2 rfl
  have x11 := gm_cell (j := 11) h2 rfl
  have x12 := gm_cell (j := 12) h2 rfl
  have x13 := gm_cell (j := 13) h2 rfl
  have x14 := gm_cell (j := 14) h2 rfl
  have x15 := gm_cell (j := 15) h2 rfl
  have x16 := gm_cell (j := 16) h2 rfl
  have x17 := gm_cell (j := 17) h2 rfl
  have x18 := gm_cell (j := 18) h2 rfl
  have x19 := gm_cell (j := 19) h2 rfl
  have x20 := gm_cell (j := 20) h2 rfl
  have x21 := gm_cell (j := 21) h2 rfl
  clear h2 hb2
  go_wp2_with fail
  refine (noCmd0 _ _ _ _ _ _ _ _ _ _ _ _ _).mono ?_
  rintro e w3 ⟨rfl, hb3⟩
  have h3 := gm_low hb3 HBX2.out
  have HB3 := hid (HB2.out.trans (hb3.mono HB2.out.size))
  clear x0 x10 x11 x12 x13 x14 x15 x16 x17 x18 x19 x20 x21
  have x2 := gm_cell (j := 2) h3 rfl
  have x10 := gm_cell (j := 10) h3 rfl
  clear h3 hb3
  go_wp2_with fail
  refine (hasTests_any _ _).mono ?_
  rintro e w4 ⟨rfl, hw4⟩
  subst hw4
  rw [show jumpB 0 = false from rfl]
  go_wp2
  go_ret
  exact ⟨rfl, HB3.out⟩
set_option maxHeartbeats 1000000 in
set_option maxRecDepth 100000 in
theorem fits_flip (p1 p2 p3 : Option Addr) (q1 q2 q3 : Nat) (p4 p5 p6 p7 p8 p9 : Option Addr) (q4 q5 q6 q7 q8 q9 : Nat) (w : World) : Calls Tryz.prog 77 #[.agg #[.int .i64 2, .int .i64 0, .int .i64 0, .int .i64 0, .int .i64 0, .slice p1 0 q1, .slice p2 0 q2, .bool false, .int .i64 0, .slice p3 0 q3, .int .i64 0, .slice p4 0 q4, .int .i64 0, .int .i64 0, .int .i64 0, .slice p5 0 q5, .slice p6 0 q6, .bool false, .int .i64 0, .slice p7 0 q7, .slice p8 0 q8, .slice p9 0 q9]] w fun e w' => e = .returned (.bool true) ∧ Below w.heap.size w w' := by
  obtain ⟨W1, hW1⟩ : ∃ W1, W1 = w.alloc (.cells #[.int .i64 2, .int .i64 0, .int .i64 0, .int .i64 0, .int .i64 0, .slice p1 0 q1, .slice p2 0 q2, .bool false, .int .i64 0, .slice p3 0 q3, .int .i64 0, .slice p4 0 q4, .int .i64 0, .int .i64 0, .int .i64 0, .slice p5 0 q5, .slice p6 0 q6, .bool false, .int .i64 0, .slice p7 0 q7, .slice p8 0 q8, .slice p9 0 q9] 79) := ⟨_, rfl⟩
  have HWE := hid hW1
  have HB1 := hid (show Below w.heap.size w W1 by rw [hW1]; exact (Below.refl _ _).alloc (Nat.le_refl _) _)
  have hbx : W1.heap[w.heap.size]? = some (.cells #[.int .i64 2, .int .i64 0, .int .i64 0, .int .i64 0, .int .i64 0, .slice p1 0 q1, .slice p2 0 q2, .bool false, .int .i64 0, .slice p3 0 q3, .int .i64 0, .slice p4 0 q4, .int .i64 0, .int .i64 0, .int .i64 0, .slice p5 0 q5, .slice p6 0 q6, .bool false, .int .i64 0, .slice p7 0 q7, .slice p8 0 q8, .slice p9 0 q9] 79) := by rw [hW1]; exact heap_alloc_new w _
  have HBX := hid hbx
  have HJ := hid (show Calls Tryz.prog 76 #[.int .i64 2] W1 fun e w' => e = .returned (.bool false) ∧ w' = W1 by have h := isJump_any 2 W1; rwa [show jumpB 2 = false from rfl] at h)
  have x0 := gm_cell (j := 0) hbx rfl
  have x1 := gm_cell (j := 1) hbx rfl
  have x2 := gm_cell (j := 2) hbx rfl
  have x3 := gm_cell (j := 3) hbx rfl
  have x4 := gm_cell (j := 4) hbx rfl
  have x5 := gm_cell (j := 5) hbx rfl
  have x6 := gm_cell (j := 6) hbx rfl
  have x7 := gm_cell (j := 7) hbx rfl
  have x8 := gm_cell (j := 8) hbx rfl
  have x9 := gm_cell (j := 9) hbx rfl
  clear hW1 hbx
  go_enter Tryz.func77, Tryz.ntmps77
  go_wp2_with fail
  rw [← HWE.out]
  refine HJ.out.mono ?_
  rintro e w1 ⟨rfl, hw1⟩
  subst hw1
  go_wp2_with fail
  refine (noTest0 _ _ _ _ _ _ _).mono ?_
  rintro e w2 ⟨rfl, hb2⟩
  have h2 := gm_low hb2 HBX.out
  have HBX2 := hid h2
  have HB2 := hid (HB1.out.trans (hb2.mono HB1.out.size))
  clear x0 x1 x2 x3 x4 x5 x6 x7 x8 x9
  have x0 := gm_cell (j := 0) h2 rfl
  have x10 := gm_cell (j := 10) h2 rfl
  have x11 := gm_cell (j := 11) h2 rfl
  have x12 := gm_cell (j := 12) h2 rfl
  have x13 := gm_cell (j := 13) h2 rfl
  have x14 := gm_cell (j := 14) h2 rfl
  have x15 := gm_cell (j := 15) h2 rfl
  have x16 := gm_cell (j := 16) h2 rfl
  have x17 := gm_cell (j := 17) h2 rfl
  have x18 := gm_cell (j := 18) h2 rfl
  have x19 := gm_cell (j := 19) h2 rfl
  have x20 := gm_cell (j := 20) h2 rfl
  have x21 := gm_cell (j := 21) h2 rfl
  clear h2 hb2
  go_wp2_with fail
  refine (noCmd0 _ _ _ _ _ _ _ _ _ _ _ _ _).mono ?_
  rintro e w3 ⟨rfl, hb3⟩
  have h3 := gm_low hb3 HBX2.out
  have HB3 := hid (HB2.out.trans (hb3.mono HB2.out.size))
  clear x0 x10 x11 x12 x13 x14 x15 x16 x17 x18 x19 x20 x21
  have x2 := gm_cell (j := 2) h3 rfl
  have x10 := gm_cell (j := 10) h3 rfl
  clear h3 hb3
  go_wp2_with fail
  refine (hasTests_any _ _).mono ?_
  rintro e w4 ⟨rfl, hw4⟩
  subst hw4
  rw [show jumpB 0 = false from rfl]
  go_wp2
  go_ret
  exact ⟨rfl, HB3.out⟩
set_option maxHeartbeats 1000000 in
set_option maxRecDepth 100000 in
theorem fits_ask (t : Tst) (a1 a2 a3 : Option Addr) (c1 c2 c3 : Nat) (p4 p5 p6 p7 p8 p9 : Option Addr) (q4 q5 q6 q7 q8 q9 : Nat) (hk : jumpB t.kind = false) (w : World) : Calls Tryz.prog 77 #[.agg #[.int .i64 1, .int .i64 0, .int .i64 t.kind, .int .i64 t.mat, .int .i64 t.part, .slice a1 t.names.length c1, .slice a2 t.keys.length c2, .bool t.over, .int .i64 t.limit, .slice a3 0 c3, .int .i64 0, .slice p4 0 q4, .int .i64 0, .int .i64 0, .int .i64 0, .slice p5 0 q5, .slice p6 0 q6, .bool false, .int .i64 0, .slice p7 0 q7, .slice p8 0 q8, .slice p9 0 q9]] w fun e w' => e = .returned (.bool true) ∧ Below w.heap.size w w' := by
  obtain ⟨W1, hW1⟩ : ∃ W1, W1 = w.alloc (.cells #[.int .i64 1, .int .i64 0, .int .i64 t.kind, .int .i64 t.mat, .int .i64 t.part, .slice a1 t.names.length c1, .slice a2 t.keys.length c2, .bool t.over, .int .i64 t.limit, .slice a3 0 c3, .int .i64 0, .slice p4 0 q4, .int .i64 0, .int .i64 0, .int .i64 0, .slice p5 0 q5, .slice p6 0 q6, .bool false, .int .i64 0, .slice p7 0 q7, .slice p8 0 q8, .slice p9 0 q9] 79) := ⟨_, rfl⟩
  have HWE := hid hW1
  have HK := hid hk
  have HB1 := hid (show Below w.heap.size w W1 by rw [hW1]; exact (Below.refl _ _).alloc (Nat.le_refl _) _)
  have hbx : W1.heap[w.heap.size]? = some (.cells #[.int .i64 1, .int .i64 0, .int .i64 t.kind, .int .i64 t.mat, .int .i64 t.part, .slice a1 t.names.length c1, .slice a2 t.keys.length c2, .bool t.over, .int .i64 t.limit, .slice a3 0 c3, .int .i64 0, .slice p4 0 q4, .int .i64 0, .int .i64 0, .int .i64 0, .slice p5 0 q5, .slice p6 0 q6, .bool false, .int .i64 0, .slice p7 0 q7, .slice p8 0 q8, .slice p9 0 q9] 79) := by rw [hW1]; exact heap_alloc_new w _
  have HBX := hid hbx
  have HJ := hid (show Calls Tryz.prog 76 #[.int .i64 1] W1 fun e w' => e = .returned (.bool false) ∧ w' = W1 by have h := isJump_any 1 W1; rwa [show jumpB 1 = false from rfl] at h)
  have x0 := gm_cell (j := 0) hbx rfl
  have x1 := gm_cell (j := 1) hbx rfl
  have x10 := gm_cell (j := 10) hbx rfl
  have x11 := gm_cell (j := 11) hbx rfl
  have x12 := gm_cell (j := 12) hbx rfl
  have x13 := gm_cell (j := 13) hbx rfl
  have x14 := gm_cell (j := 14) hbx rfl
  have x15 := gm_cell (j := 15) hbx rfl
  have x16 := gm_cell (j := 16) hbx rfl
  have x17 := gm_cell (j := 17) hbx rfl
  have x18 := gm_cell (j := 18) hbx rfl
  have x19 := gm_cell (j := 19) hbx rfl
  have x20 := gm_cell (j := 20) hbx rfl
  have x21 := gm_cell (j := 21) hbx rfl
  clear hW1 hk hbx
  go_enter Tryz.func77, Tryz.ntmps77
  go_wp2_with fail
  rw [← HWE.out]
  refine HJ.out.mono ?_
  rintro e w1 ⟨rfl, hw1⟩
  subst hw1
  go_wp2_with fail
  refine (noCmd0 _ _ _ _ _ _ _ _ _ _ _ _ _).mono ?_
  rintro e w3 ⟨rfl, hb3⟩
  have h3 := gm_low hb3 HBX.out
  have HB3 := hid (HB1.out.trans (hb3.mono HB1.out.size))
  clear x0 x1 x10 x11 x12 x13 x14 x15 x16 x17 x18 x19 x20 x21
  have x2 := gm_cell (j := 2) h3 rfl
  have x10 := gm_cell (j := 10) h3 rfl
  clear h3 hb3
  go_wp2_with fail
  refine (hasTests_any _ _).mono ?_
  rintro e w4 ⟨rfl, hw4⟩
  subst hw4
  rw [HK.out]
  go_wp2
  go_ret
  exact ⟨rfl, HB3.out⟩
set_option maxHeartbeats 1000000 in
set_option maxRecDepth 100000 in
theorem fits_do (k : Int) (ax : Option Addr) (n cx : Nat) (p1 p2 p3 : Option Addr) (q1 q2 q3 : Nat) (p5 p6 p7 p8 p9 : Option Addr) (q5 q6 q7 q8 q9 : Nat) (hk : (k == 2) = false) (w : World) : Calls Tryz.prog 77 #[.agg #[.int .i64 6, .int .i64 0, .int .i64 0, .int .i64 0, .int .i64 0, .slice p1 0 q1, .slice p2 0 q2, .bool false, .int .i64 0, .slice p3 0 q3, .int .i64 k, .slice ax n cx, .int .i64 0, .int .i64 0, .int .i64 0, .slice p5 0 q5, .slice p6 0 q6, .bool false, .int .i64 0, .slice p7 0 q7, .slice p8 0 q8, .slice p9 0 q9]] w fun e w' => e = .returned (.bool true) ∧ Below w.heap.size w w' := by
  obtain ⟨W1, hW1⟩ : ∃ W1, W1 = w.alloc (.cells #[.int .i64 6, .int .i64 0, .int .i64 0, .int .i64 0, .int .i64 0, .slice p1 0 q1, .slice p2 0 q2, .bool false, .int .i64 0, .slice p3 0 q3, .int .i64 k, .slice ax n cx, .int .i64 0, .int .i64 0, .int .i64 0, .slice p5 0 q5, .slice p6 0 q6, .bool false, .int .i64 0, .slice p7 0 q7, .slice p8 0 q8, .slice p9 0 q9] 79) := ⟨_, rfl⟩
  have HWE := hid hW1
  have HK := hid hk
  have HB1 := hid (show Below w.heap.size w W1 by rw [hW1]; exact (Below.refl _ _).alloc (Nat.le_refl _) _)
  have hbx : W1.heap[w.heap.size]? = some (.cells #[.int .i64 6, .int .i64 0, .int .i64 0, .int .i64 0, .int .i64 0, .slice p1 0 q1, .slice p2 0 q2, .bool false, .int .i64 0, .slice p3 0 q3, .int .i64 k, .slice ax n cx, .int .i64 0, .int .i64 0, .int .i64 0, .slice p5 0 q5, .slice p6 0 q6, .bool false, .int .i64 0, .slice p7 0 q7, .slice p8 0 q8, .slice p9 0 q9] 79) := by rw [hW1]; exact heap_alloc_new w _
  have HBX := hid hbx
  have HJ := hid (show Calls Tryz.prog 76 #[.int .i64 6] W1 fun e w' => e = .returned (.bool false) ∧ w' = W1 by have h := isJump_any 6 W1; rwa [show jumpB 6 = false from rfl] at h)
  have x0 := gm_cell (j := 0) hbx rfl
  have x1 := gm_cell (j := 1) hbx rfl
  have x2 := gm_cell (j := 2) hbx rfl
  have x3 := gm_cell (j := 3) hbx rfl
  have x4 := gm_cell (j := 4) hbx rfl
  have x5 := gm_cell (j := 5) hbx rfl
  have x6 := gm_cell (j := 6) hbx rfl
  have x7 := gm_cell (j := 7) hbx rfl
  have x8 := gm_cell (j := 8) hbx rfl
  have x9 := gm_cell (j := 9) hbx rfl
  clear hW1 hk hbx
  go_enter Tryz.func77, Tryz.ntmps77
  go_wp2_with fail
  rw [← HWE.out]
  refine HJ.out.mono ?_
  rintro e w1 ⟨rfl, hw1⟩
  subst hw1
  go_wp2_with fail
  refine (noTest0 _ _ _ _ _ _ _).mono ?_
  rintro e w2 ⟨rfl, hb2⟩
  have h2 := gm_low hb2 HBX.out
  have HBX2 := hid h2
  have HB2 := hid (HB1.out.trans (hb2.mono HB1.out.size))
  clear x0 x1 x2 x3 x4 x5 x6 x7 x8 x9
  have x0 := gm_cell (j := 0) h2 rfl
  have x2 := gm_cell (j := 2) h2 rfl
  have x10 := gm_cell (j := 10) h2 rfl
  clear h2 hb2
  go_wp2_with fail
  refine (hasTests_any _ _).mono ?_
  rintro e w4 ⟨rfl, hw4⟩
  subst hw4
  rw [show jumpB 0 = false from rfl]
  go_wp2
  go_ret
  refine ⟨?_, HB2.out⟩
  show Ending.returned (Value.bool (k != 2)) = .returned (.bool true)
  rw [bne, HK.out]; rfl
end Go.Proofs.YtlcnfpeabnnjoaaGreatDoor
