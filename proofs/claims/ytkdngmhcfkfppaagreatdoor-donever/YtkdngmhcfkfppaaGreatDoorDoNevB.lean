/-
  Reject and keeping do not go together: walked.
-/
import Derived.Test.YtkdngmhcfkfppaaGreatDoorDoBare
namespace Go.Proofs.YtkdngmhcfkfppaaGreatDoor
open Go.RowKit Go.Proofs

set_option maxHeartbeats 8000000 in
set_option maxRecDepth 100000 in
theorem doNever_0t (w : World) (hm : Tabs w) (k : Int) (wk : (Lit.int .i64 k).wf = true) (s : List UInt8) (ls : s.length ≤ maxLen) (hp : pickN k 4 = 0) :
    Calls Tryz.prog 8 #[.bool true, .int .i64 k, .string (S s)] w fun e w' => e = .returned (.bool true) ∧ Below w.heap.size w w' := by
  have HM := hid hm
  clear hm
  obtain ⟨W0, hW0⟩ : ∃ W0, W0 = ((((((((w.alloc (.cells #[.string ⟨#[97]⟩] 9)).alloc (.cells #[.string ⟨#[97, 64, 98]⟩] 9)).alloc (.cells #[.int .i64 3, .slice none 0 0, .int .i64 0, .int .i64 0, .int .i64 0, .slice none 0 0, .slice none 0 0, .bool false, .int .i64 0, .slice none 0 0, .slice none 0 0, .slice none 0 0, .int .i64 5, .slice (some ⟨w.heap.size, 0, none⟩) 1 1, .int .i64 0, .int .i64 0, .int .i64 0, .slice none 0 0, .slice none 0 0, .bool false, .int .i64 0, .slice none 0 0, .slice none 0 0, .slice none 0 0, .int .i64 6, .slice (some ⟨w.heap.size + 1, 0, none⟩) 1 1, .int .i64 0, .int .i64 0, .int .i64 0, .slice none 0 0, .slice none 0 0, .bool false, .int .i64 0, .slice none 0 0, .slice none 0 0, .slice none 0 0, .int .i64 4, .slice none 0 0, .int .i64 0, .int .i64 0, .int .i64 0, .slice none 0 0, .slice none 0 0, .bool false, .int .i64 0, .slice none 0 0, .slice none 0 0, .slice none 0 0] 65)).alloc (.cells #[.int .i64 3, .slice none 0 0, .int .i64 0, .int .i64 0, .int .i64 0, .slice none 0 0, .slice none 0 0, .bool false, .int .i64 0, .slice none 0 0, .slice none 0 0, .slice none 0 0] 65)).alloc (.cells #[.string (S (s.take 12))] 9)).alloc (.cells #[.int .i64 7, .slice (some ⟨w.heap.size + 1 + 1 + 1 + 1, 0, none⟩) 1 1, .int .i64 0, .int .i64 0, .int .i64 0, .slice none 0 0, .slice none 0 0, .bool false, .int .i64 0, .slice none 0 0, .slice none 0 0, .slice none 0 0] 65)).alloc (.cells #[.int .i64 7, .slice (some ⟨w.heap.size + 1 + 1 + 1 + 1, 0, none⟩) 1 1, .int .i64 0, .int .i64 0, .int .i64 0, .slice none 0 0, .slice none 0 0, .bool false, .int .i64 0, .slice none 0 0, .slice none 0 0, .slice none 0 0] 65)).alloc (.cells #[.int .i64 3, .slice none 0 0, .int .i64 0, .int .i64 0, .int .i64 0, .slice none 0 0, .slice none 0 0, .bool false, .int .i64 0, .slice none 0 0, .slice none 0 0, .slice none 0 0] 65)) := ⟨_, rfl⟩
  have HWE := hid hW0
  have HB0 := hid (show Below w.heap.size w W0 by rw [hW0]; exact ((((((((Below.refl _ _).alloc (by simp; try omega) _).alloc (by simp; try omega) _).alloc (by simp; try omega) _).alloc (by simp; try omega) _).alloc (by simp; try omega) _).alloc (by simp; try omega) _).alloc (by simp; try omega) _).alloc (by simp; try omega) _)
  have hs0 : W0.heap.size = w.heap.size + 8 := by rw [hW0]; simp
  have HT0 := hid (show W0.heap[w.heap.size]? = some (.cells #[.string ⟨#[97]⟩] 9) by rw [hW0]; exact heap_old _ (heap_old _ (heap_old _ (heap_old _ (heap_old _ (heap_old _ (heap_old _ (heap_at _ (by simp)))))))))
  have HT1 := hid (show W0.heap[w.heap.size + 1]? = some (.cells #[.string ⟨#[97, 64, 98]⟩] 9) by rw [hW0]; exact heap_old _ (heap_old _ (heap_old _ (heap_old _ (heap_old _ (heap_old _ (heap_at _ (by simp))))))))
  have HT4 := hid (show W0.heap[w.heap.size + 1 + 1 + 1 + 1]? = some (.cells #[.string (S (s.take 12))] 9) by rw [hW0]; exact heap_old _ (heap_old _ (heap_old _ (heap_at _ (by simp)))))
  have HO0 := hid (show W0.heap[w.heap.size + 1 + 1 + 1]? = some (.cells #[.int .i64 3, .slice none 0 0, .int .i64 0, .int .i64 0, .int .i64 0, .slice none 0 0, .slice none 0 0, .bool false, .int .i64 0, .slice none 0 0, .slice none 0 0, .slice none 0 0] 65) by rw [hW0]; exact heap_old _ (heap_old _ (heap_old _ (heap_old _ (heap_at _ (by simp))))))
  have HY0 := hid (show W0.heap[w.heap.size + 1 + 1 + 1 + 1 + 1 + 1 + 1]? = some (.cells #[.int .i64 3, .slice none 0 0, .int .i64 0, .int .i64 0, .int .i64 0, .slice none 0 0, .slice none 0 0, .bool false, .int .i64 0, .slice none 0 0, .slice none 0 0, .slice none 0 0] 65) by rw [hW0]; exact heap_at _ (by simp))
  clear hW0
  have HX := hid (show TxtsM anyB W0 (.slice (some ⟨w.heap.size + 1 + 1 + 1 + 1, 0, none⟩) ([s.take 12] : List (List UInt8)).length 1) [s.take 12] from rowM_one (t := 9) (fr := (0, 0)) (cs := [.string (S (s.take 12))]) (HT4.out) rfl trivial rfl)
  have HYT := hid (show TxtsM anyB W0 (.slice none ([] : List (List UInt8)).length 0) [] from rowM_nil _ _ _ _ _ _)
  have HD1 := hid (show Calls Tryz.prog 17 #[.agg #[.slice none 0 0, .int .i64 0, .bool false, .int .i64 0], .agg #[.int .i64 7, .slice (some ⟨w.heap.size + 1 + 1 + 1 + 1, 0, none⟩) 1 1, .int .i64 0, .int .i64 0, .int .i64 0, .slice none 0 0, .slice none 0 0, .bool false, .int .i64 0, .slice none 0 0, .slice none 0 0, .slice none 0 0]] W0 (DoR W0 (⟨[(actP 0 (bareC 7 [s.take 12]))], 0, true, 0⟩, false)) by
    have h := do_bare ⟨[], 0, false, 0⟩ none 0 7 [s.take 12] (some ⟨w.heap.size + 1 + 1 + 1 + 1, 0, none⟩) 1 W0 (HM.out.next HB0.out) (rowM_nil _ _ _ _ _ _) (fun _ => ⟨rfl, rfl⟩) (by simp) (by decide) (by decide) HX.out (bare_nc (s.take 12)).2.2.2.2 (bare_may (s.take 12)).2.2.2.2 (by decide)
    have hg : goesP ⟨[], 0, false, 0⟩ (bareC 7 [s.take 12]) = (⟨[(actP 0 (bareC 7 [s.take 12]))], 0, true, 0⟩, false) := rfl
    rw [hg] at h
    exact h)
  clear HX
  go_enter Tryz.func8, Tryz.ntmps8
  go_wp2_with fail
  refine (picked_any k 4 _ wk (by omega) (by omega)).mono ?_
  rw [hp]
  rintro e w1 ⟨rfl, rfl⟩
  go_wp2_with fail
  refine (short_any s _ ls).mono ?_
  rintro e w1 ⟨rfl, rfl⟩
  go_wp2_with fail
  rw [← HWE.out]
  refine HD1.out.mono ?_
  rintro e w1 ⟨a1, k1, he, hA1, hn1, hb1⟩
  rw [show e = .returned (.tuple #[.agg #[.slice a1 1 k1, .int .i64 0, .bool true, .int .i64 0], .bool true, .int .i64 0]) from he]
  simp only
  clear he HD1 HWE
  obtain ⟨W1, hW1⟩ : ∃ W1, W1 = w1.alloc (.cells #[.slice a1 1 k1, .int .i64 0, .bool true, .int .i64 0] 59) := ⟨_, rfl⟩
  have HWE := hid hW1
  have hal : Below w1.heap.size w1 W1 := by rw [hW1]; exact (Below.refl _ _).alloc (Nat.le_refl _) _
  have hb01 : Below W0.heap.size W0 W1 := hb1.trans (hal.mono hb1.size)
  have HB1 := hid (HB0.out.trans (hb01.mono HB0.out.size))
  have HO1 := hid (jlow hb01 HO0.out)
  have HY1 := hid (jlow hb01 HY0.out)
  have HD2 := hid (show Calls Tryz.prog 17 #[.agg #[.slice a1 1 k1, .int .i64 0, .bool true, .int .i64 0], .agg #[.int .i64 3, .slice none 0 0, .int .i64 0, .int .i64 0, .int .i64 0, .slice none 0 0, .slice none 0 0, .bool false, .int .i64 0, .slice none 0 0, .slice none 0 0, .slice none 0 0]] W1 (DoR W1 (⟨[(actP 0 (bareC 7 [s.take 12]))], 0, true, 9⟩, true)) by
    have h := do_bare ⟨[(actP 0 (bareC 7 [s.take 12]))], 0, true, 0⟩ a1 k1 3 [] none 0 W1 (HM.out.next HB1.out) (AtnsM.next hA1 hal) hn1 (by simp) (by show (0 : Int) ≤ 0; omega) (by show (0 : Int) ≤ 31; omega) (TxtsM.next HYT.out hb01) (bare_nc (s.take 12)).1 (bare_may (s.take 12)).1 (by decide)
    have hg : goesP ⟨[(actP 0 (bareC 7 [s.take 12]))], 0, true, 0⟩ (bareC 3 []) = (⟨[(actP 0 (bareC 7 [s.take 12]))], 0, true, 9⟩, true) := rfl
    rw [hg] at h
    exact h)
  have hY := HY1.out
  rw [HWE.out] at hY
  have y0 : (w1.alloc (.cells #[.slice a1 1 k1, .int .i64 0, .bool true, .int .i64 0] 59)).cell? ⟨w.heap.size + 1 + 1 + 1 + 1 + 1 + 1 + 1, 0, none⟩ = some (.int .i64 3) := by simp [World.cell?, hY]
  have y1 : (w1.alloc (.cells #[.slice a1 1 k1, .int .i64 0, .bool true, .int .i64 0] 59)).cell? ⟨w.heap.size + 1 + 1 + 1 + 1 + 1 + 1 + 1, 1, none⟩ = some (.slice none 0 0) := by simp [World.cell?, hY]
  have y2 : (w1.alloc (.cells #[.slice a1 1 k1, .int .i64 0, .bool true, .int .i64 0] 59)).cell? ⟨w.heap.size + 1 + 1 + 1 + 1 + 1 + 1 + 1, 2, none⟩ = some (.int .i64 0) := by simp [World.cell?, hY]
  have y3 : (w1.alloc (.cells #[.slice a1 1 k1, .int .i64 0, .bool true, .int .i64 0] 59)).cell? ⟨w.heap.size + 1 + 1 + 1 + 1 + 1 + 1 + 1, 3, none⟩ = some (.int .i64 0) := by simp [World.cell?, hY]
  have y4 : (w1.alloc (.cells #[.slice a1 1 k1, .int .i64 0, .bool true, .int .i64 0] 59)).cell? ⟨w.heap.size + 1 + 1 + 1 + 1 + 1 + 1 + 1, 4, none⟩ = some (.int .i64 0) := by simp [World.cell?, hY]
  have y5 : (w1.alloc (.cells #[.slice a1 1 k1, .int .i64 0, .bool true, .int .i64 0] 59)).cell? ⟨w.heap.size + 1 + 1 + 1 + 1 + 1 + 1 + 1, 5, none⟩ = some (.slice none 0 0) := by simp [World.cell?, hY]
  have y6 : (w1.alloc (.cells #[.slice a1 1 k1, .int .i64 0, .bool true, .int .i64 0] 59)).cell? ⟨w.heap.size + 1 + 1 + 1 + 1 + 1 + 1 + 1, 6, none⟩ = some (.slice none 0 0) := by simp [World.cell?, hY]
  have y7 : (w1.alloc (.cells #[.slice a1 1 k1, .int .i64 0, .bool true, .int .i64 0] 59)).cell? ⟨w.heap.size + 1 + 1 + 1 + 1 + 1 + 1 + 1, 7, none⟩ = some (.bool false) := by simp [World.cell?, hY]
  have y8 : (w1.alloc (.cells #[.slice a1 1 k1, .int .i64 0, .bool true, .int .i64 0] 59)).cell? ⟨w.heap.size + 1 + 1 + 1 + 1 + 1 + 1 + 1, 8, none⟩ = some (.int .i64 0) := by simp [World.cell?, hY]
  have y9 : (w1.alloc (.cells #[.slice a1 1 k1, .int .i64 0, .bool true, .int .i64 0] 59)).cell? ⟨w.heap.size + 1 + 1 + 1 + 1 + 1 + 1 + 1, 9, none⟩ = some (.slice none 0 0) := by simp [World.cell?, hY]
  have y10 : (w1.alloc (.cells #[.slice a1 1 k1, .int .i64 0, .bool true, .int .i64 0] 59)).cell? ⟨w.heap.size + 1 + 1 + 1 + 1 + 1 + 1 + 1, 10, none⟩ = some (.slice none 0 0) := by simp [World.cell?, hY]
  have y11 : (w1.alloc (.cells #[.slice a1 1 k1, .int .i64 0, .bool true, .int .i64 0] 59)).cell? ⟨w.heap.size + 1 + 1 + 1 + 1 + 1 + 1 + 1, 11, none⟩ = some (.slice none 0 0) := by simp [World.cell?, hY]
  clear hY hal hb01 hW1 hA1 hn1 hb1 HYT HT0 HT1 HT4
  go_wp2_with fail
  rw [← HWE.out]
  refine HD2.out.mono ?_
  rintro e w2 ⟨a2, k2, he, _, _, hb2⟩
  rw [show e = .returned (.tuple #[.agg #[.slice a2 1 k2, .int .i64 0, .bool true, .int .i64 9], .bool false, .int .i64 0]) from he]
  simp only
  clear he HD2 HWE y0 y1 y2 y3 y4 y5 y6 y7 y8 y9 y10 y11
  have hO := jlow hb2 HO1.out
  have HB2 := hid (show Below w.heap.size w (w2.alloc (.cells #[.slice a2 1 k2, .int .i64 0, .bool true, .int .i64 9] 59)) from (HB1.out.trans (hb2.mono HB1.out.size)).alloc (Nat.le_trans HB1.out.size hb2.size) _)
  have o0 : (w2.alloc (.cells #[.slice a2 1 k2, .int .i64 0, .bool true, .int .i64 9] 59)).cell? ⟨w.heap.size + 1 + 1 + 1, 0, none⟩ = some (.int .i64 3) := by
    have h := heap_old (.cells #[.slice a2 1 k2, .int .i64 0, .bool true, .int .i64 9] 59) hO
    simp [World.cell?, h]
  clear hO hb2
  go_wp2
  go_ret
  exact ⟨rfl, HB2.out⟩

set_option maxHeartbeats 8000000 in
set_option maxRecDepth 100000 in
theorem doNever_0f (w : World) (hm : Tabs w) (k : Int) (wk : (Lit.int .i64 k).wf = true) (s : List UInt8) (ls : s.length ≤ maxLen) (hp : pickN k 4 = 0) :
    Calls Tryz.prog 8 #[.bool false, .int .i64 k, .string (S s)] w fun e w' => e = .returned (.bool true) ∧ Below w.heap.size w w' := by
  have HM := hid hm
  clear hm
  obtain ⟨W0, hW0⟩ : ∃ W0, W0 = ((((((((w.alloc (.cells #[.string ⟨#[97]⟩] 9)).alloc (.cells #[.string ⟨#[97, 64, 98]⟩] 9)).alloc (.cells #[.int .i64 3, .slice none 0 0, .int .i64 0, .int .i64 0, .int .i64 0, .slice none 0 0, .slice none 0 0, .bool false, .int .i64 0, .slice none 0 0, .slice none 0 0, .slice none 0 0, .int .i64 5, .slice (some ⟨w.heap.size, 0, none⟩) 1 1, .int .i64 0, .int .i64 0, .int .i64 0, .slice none 0 0, .slice none 0 0, .bool false, .int .i64 0, .slice none 0 0, .slice none 0 0, .slice none 0 0, .int .i64 6, .slice (some ⟨w.heap.size + 1, 0, none⟩) 1 1, .int .i64 0, .int .i64 0, .int .i64 0, .slice none 0 0, .slice none 0 0, .bool false, .int .i64 0, .slice none 0 0, .slice none 0 0, .slice none 0 0, .int .i64 4, .slice none 0 0, .int .i64 0, .int .i64 0, .int .i64 0, .slice none 0 0, .slice none 0 0, .bool false, .int .i64 0, .slice none 0 0, .slice none 0 0, .slice none 0 0] 65)).alloc (.cells #[.int .i64 3, .slice none 0 0, .int .i64 0, .int .i64 0, .int .i64 0, .slice none 0 0, .slice none 0 0, .bool false, .int .i64 0, .slice none 0 0, .slice none 0 0, .slice none 0 0] 65)).alloc (.cells #[.string (S (s.take 12))] 9)).alloc (.cells #[.int .i64 7, .slice (some ⟨w.heap.size + 1 + 1 + 1 + 1, 0, none⟩) 1 1, .int .i64 0, .int .i64 0, .int .i64 0, .slice none 0 0, .slice none 0 0, .bool false, .int .i64 0, .slice none 0 0, .slice none 0 0, .slice none 0 0] 65)).alloc (.cells #[.int .i64 3, .slice none 0 0, .int .i64 0, .int .i64 0, .int .i64 0, .slice none 0 0, .slice none 0 0, .bool false, .int .i64 0, .slice none 0 0, .slice none 0 0, .slice none 0 0] 65)).alloc (.cells #[.int .i64 7, .slice (some ⟨w.heap.size + 1 + 1 + 1 + 1, 0, none⟩) 1 1, .int .i64 0, .int .i64 0, .int .i64 0, .slice none 0 0, .slice none 0 0, .bool false, .int .i64 0, .slice none 0 0, .slice none 0 0, .slice none 0 0] 65)) := ⟨_, rfl⟩
  have HWE := hid hW0
  have HB0 := hid (show Below w.heap.size w W0 by rw [hW0]; exact ((((((((Below.refl _ _).alloc (by simp; try omega) _).alloc (by simp; try omega) _).alloc (by simp; try omega) _).alloc (by simp; try omega) _).alloc (by simp; try omega) _).alloc (by simp; try omega) _).alloc (by simp; try omega) _).alloc (by simp; try omega) _)
  have hs0 : W0.heap.size = w.heap.size + 8 := by rw [hW0]; simp
  have HT0 := hid (show W0.heap[w.heap.size]? = some (.cells #[.string ⟨#[97]⟩] 9) by rw [hW0]; exact heap_old _ (heap_old _ (heap_old _ (heap_old _ (heap_old _ (heap_old _ (heap_old _ (heap_at _ (by simp)))))))))
  have HT1 := hid (show W0.heap[w.heap.size + 1]? = some (.cells #[.string ⟨#[97, 64, 98]⟩] 9) by rw [hW0]; exact heap_old _ (heap_old _ (heap_old _ (heap_old _ (heap_old _ (heap_old _ (heap_at _ (by simp))))))))
  have HT4 := hid (show W0.heap[w.heap.size + 1 + 1 + 1 + 1]? = some (.cells #[.string (S (s.take 12))] 9) by rw [hW0]; exact heap_old _ (heap_old _ (heap_old _ (heap_at _ (by simp)))))
  have HO0 := hid (show W0.heap[w.heap.size + 1 + 1 + 1]? = some (.cells #[.int .i64 3, .slice none 0 0, .int .i64 0, .int .i64 0, .int .i64 0, .slice none 0 0, .slice none 0 0, .bool false, .int .i64 0, .slice none 0 0, .slice none 0 0, .slice none 0 0] 65) by rw [hW0]; exact heap_old _ (heap_old _ (heap_old _ (heap_old _ (heap_at _ (by simp))))))
  have HY0 := hid (show W0.heap[w.heap.size + 1 + 1 + 1 + 1 + 1 + 1 + 1]? = some (.cells #[.int .i64 7, .slice (some ⟨w.heap.size + 1 + 1 + 1 + 1, 0, none⟩) 1 1, .int .i64 0, .int .i64 0, .int .i64 0, .slice none 0 0, .slice none 0 0, .bool false, .int .i64 0, .slice none 0 0, .slice none 0 0, .slice none 0 0] 65) by rw [hW0]; exact heap_at _ (by simp))
  clear hW0
  have HX := hid (show TxtsM anyB W0 (.slice none ([] : List (List UInt8)).length 0) [] from rowM_nil _ _ _ _ _ _)
  have HYT := hid (show TxtsM anyB W0 (.slice (some ⟨w.heap.size + 1 + 1 + 1 + 1, 0, none⟩) ([s.take 12] : List (List UInt8)).length 1) [s.take 12] from rowM_one (t := 9) (fr := (0, 0)) (cs := [.string (S (s.take 12))]) (HT4.out) rfl trivial rfl)
  have HD1 := hid (show Calls Tryz.prog 17 #[.agg #[.slice none 0 0, .int .i64 0, .bool false, .int .i64 0], .agg #[.int .i64 3, .slice none 0 0, .int .i64 0, .int .i64 0, .int .i64 0, .slice none 0 0, .slice none 0 0, .bool false, .int .i64 0, .slice none 0 0, .slice none 0 0, .slice none 0 0]] W0 (DoR W0 (⟨[(actP 0 (bareC 3 []))], 0, true, 0⟩, false)) by
    have h := do_bare ⟨[], 0, false, 0⟩ none 0 3 [] none 0 W0 (HM.out.next HB0.out) (rowM_nil _ _ _ _ _ _) (fun _ => ⟨rfl, rfl⟩) (by simp) (by decide) (by decide) HX.out (bare_nc (s.take 12)).1 (bare_may (s.take 12)).1 (by decide)
    have hg : goesP ⟨[], 0, false, 0⟩ (bareC 3 []) = (⟨[(actP 0 (bareC 3 []))], 0, true, 0⟩, false) := rfl
    rw [hg] at h
    exact h)
  clear HX
  go_enter Tryz.func8, Tryz.ntmps8
  go_wp2_with fail
  refine (picked_any k 4 _ wk (by omega) (by omega)).mono ?_
  rw [hp]
  rintro e w1 ⟨rfl, rfl⟩
  go_wp2_with fail
  refine (short_any s _ ls).mono ?_
  rintro e w1 ⟨rfl, rfl⟩
  go_wp2_with fail
  rw [← HWE.out]
  refine HD1.out.mono ?_
  rintro e w1 ⟨a1, k1, he, hA1, hn1, hb1⟩
  rw [show e = .returned (.tuple #[.agg #[.slice a1 1 k1, .int .i64 0, .bool true, .int .i64 0], .bool true, .int .i64 0]) from he]
  simp only
  clear he HD1 HWE
  obtain ⟨W1, hW1⟩ : ∃ W1, W1 = w1.alloc (.cells #[.slice a1 1 k1, .int .i64 0, .bool true, .int .i64 0] 59) := ⟨_, rfl⟩
  have HWE := hid hW1
  have hal : Below w1.heap.size w1 W1 := by rw [hW1]; exact (Below.refl _ _).alloc (Nat.le_refl _) _
  have hb01 : Below W0.heap.size W0 W1 := hb1.trans (hal.mono hb1.size)
  have HB1 := hid (HB0.out.trans (hb01.mono HB0.out.size))
  have HO1 := hid (jlow hb01 HO0.out)
  have HY1 := hid (jlow hb01 HY0.out)
  have HD2 := hid (show Calls Tryz.prog 17 #[.agg #[.slice a1 1 k1, .int .i64 0, .bool true, .int .i64 0], .agg #[.int .i64 7, .slice (some ⟨w.heap.size + 1 + 1 + 1 + 1, 0, none⟩) 1 1, .int .i64 0, .int .i64 0, .int .i64 0, .slice none 0 0, .slice none 0 0, .bool false, .int .i64 0, .slice none 0 0, .slice none 0 0, .slice none 0 0]] W1 (DoR W1 (⟨[(actP 0 (bareC 3 []))], 0, true, 9⟩, true)) by
    have h := do_bare ⟨[(actP 0 (bareC 3 []))], 0, true, 0⟩ a1 k1 7 [s.take 12] (some ⟨w.heap.size + 1 + 1 + 1 + 1, 0, none⟩) 1 W1 (HM.out.next HB1.out) (AtnsM.next hA1 hal) hn1 (by simp) (by show (0 : Int) ≤ 0; omega) (by show (0 : Int) ≤ 31; omega) (TxtsM.next HYT.out hb01) (bare_nc (s.take 12)).2.2.2.2 (bare_may (s.take 12)).2.2.2.2 (by decide)
    have hg : goesP ⟨[(actP 0 (bareC 3 []))], 0, true, 0⟩ (bareC 7 [s.take 12]) = (⟨[(actP 0 (bareC 3 []))], 0, true, 9⟩, true) := rfl
    rw [hg] at h
    exact h)
  have hY := HY1.out
  rw [HWE.out] at hY
  have y0 : (w1.alloc (.cells #[.slice a1 1 k1, .int .i64 0, .bool true, .int .i64 0] 59)).cell? ⟨w.heap.size + 1 + 1 + 1 + 1 + 1 + 1 + 1, 0, none⟩ = some (.int .i64 7) := by simp [World.cell?, hY]
  have y1 : (w1.alloc (.cells #[.slice a1 1 k1, .int .i64 0, .bool true, .int .i64 0] 59)).cell? ⟨w.heap.size + 1 + 1 + 1 + 1 + 1 + 1 + 1, 1, none⟩ = some (.slice (some ⟨w.heap.size + 1 + 1 + 1 + 1, 0, none⟩) 1 1) := by simp [World.cell?, hY]
  have y2 : (w1.alloc (.cells #[.slice a1 1 k1, .int .i64 0, .bool true, .int .i64 0] 59)).cell? ⟨w.heap.size + 1 + 1 + 1 + 1 + 1 + 1 + 1, 2, none⟩ = some (.int .i64 0) := by simp [World.cell?, hY]
  have y3 : (w1.alloc (.cells #[.slice a1 1 k1, .int .i64 0, .bool true, .int .i64 0] 59)).cell? ⟨w.heap.size + 1 + 1 + 1 + 1 + 1 + 1 + 1, 3, none⟩ = some (.int .i64 0) := by simp [World.cell?, hY]
  have y4 : (w1.alloc (.cells #[.slice a1 1 k1, .int .i64 0, .bool true, .int .i64 0] 59)).cell? ⟨w.heap.size + 1 + 1 + 1 + 1 + 1 + 1 + 1, 4, none⟩ = some (.int .i64 0) := by simp [World.cell?, hY]
  have y5 : (w1.alloc (.cells #[.slice a1 1 k1, .int .i64 0, .bool true, .int .i64 0] 59)).cell? ⟨w.heap.size + 1 + 1 + 1 + 1 + 1 + 1 + 1, 5, none⟩ = some (.slice none 0 0) := by simp [World.cell?, hY]
  have y6 : (w1.alloc (.cells #[.slice a1 1 k1, .int .i64 0, .bool true, .int .i64 0] 59)).cell? ⟨w.heap.size + 1 + 1 + 1 + 1 + 1 + 1 + 1, 6, none⟩ = some (.slice none 0 0) := by simp [World.cell?, hY]
  have y7 : (w1.alloc (.cells #[.slice a1 1 k1, .int .i64 0, .bool true, .int .i64 0] 59)).cell? ⟨w.heap.size + 1 + 1 + 1 + 1 + 1 + 1 + 1, 7, none⟩ = some (.bool false) := by simp [World.cell?, hY]
  have y8 : (w1.alloc (.cells #[.slice a1 1 k1, .int .i64 0, .bool true, .int .i64 0] 59)).cell? ⟨w.heap.size + 1 + 1 + 1 + 1 + 1 + 1 + 1, 8, none⟩ = some (.int .i64 0) := by simp [World.cell?, hY]
  have y9 : (w1.alloc (.cells #[.slice a1 1 k1, .int .i64 0, .bool true, .int .i64 0] 59)).cell? ⟨w.heap.size + 1 + 1 + 1 + 1 + 1 + 1 + 1, 9, none⟩ = some (.slice none 0 0) := by simp [World.cell?, hY]
  have y10 : (w1.alloc (.cells #[.slice a1 1 k1, .int .i64 0, .bool true, .int .i64 0] 59)).cell? ⟨w.heap.size + 1 + 1 + 1 + 1 + 1 + 1 + 1, 10, none⟩ = some (.slice none 0 0) := by simp [World.cell?, hY]
  have y11 : (w1.alloc (.cells #[.slice a1 1 k1, .int .i64 0, .bool true, .int .i64 0] 59)).cell? ⟨w.heap.size + 1 + 1 + 1 + 1 + 1 + 1 + 1, 11, none⟩ = some (.slice none 0 0) := by simp [World.cell?, hY]
  clear hY hal hb01 hW1 hA1 hn1 hb1 HYT HT0 HT1 HT4
  go_wp2_with fail
  rw [← HWE.out]
  refine HD2.out.mono ?_
  rintro e w2 ⟨a2, k2, he, _, _, hb2⟩
  rw [show e = .returned (.tuple #[.agg #[.slice a2 1 k2, .int .i64 0, .bool true, .int .i64 9], .bool false, .int .i64 0]) from he]
  simp only
  clear he HD2 HWE y0 y1 y2 y3 y4 y5 y6 y7 y8 y9 y10 y11
  have hO := jlow hb2 HO1.out
  have HB2 := hid (show Below w.heap.size w (w2.alloc (.cells #[.slice a2 1 k2, .int .i64 0, .bool true, .int .i64 9] 59)) from (HB1.out.trans (hb2.mono HB1.out.size)).alloc (Nat.le_trans HB1.out.size hb2.size) _)
  have o0 : (w2.alloc (.cells #[.slice a2 1 k2, .int .i64 0, .bool true, .int .i64 9] 59)).cell? ⟨w.heap.size + 1 + 1 + 1, 0, none⟩ = some (.int .i64 3) := by
    have h := heap_old (.cells #[.slice a2 1 k2, .int .i64 0, .bool true, .int .i64 9] 59) hO
    simp [World.cell?, h]
  clear hO hb2
  go_wp2
  go_ret
  exact ⟨rfl, HB2.out⟩
end Go.Proofs.YtkdngmhcfkfppaaGreatDoor
