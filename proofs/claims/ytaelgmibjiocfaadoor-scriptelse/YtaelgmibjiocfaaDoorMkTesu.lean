/-
  What the laws' maker of tests does, where it compares: the walks.
-/
import Derived.Test.YtaelgmibjiocfaaDoorMkTest
namespace Go.Proofs.YtaelgmibjiocfaaDoor
open Go.RowKit Go.Proofs

set_option maxHeartbeats 8000000 in
set_option maxRecDepth 100000 in
theorem test_hdr (d m n : Nat) (x : Stk) (cs : List Value) (w : World) (h : StkM (n + 1) w x cs) (hp : pickN x.kind 10 = 5) :
    Calls Tryd.prog 4 #[.agg cs.toArray, .int .i64 d] w (TestP (m + 1) w) := by
  obtain ⟨ai, ci, rfl, wk, wa, wb, ls, lt, hic, hcm, hR⟩ := h
  obtain ⟨i0, hi, hz0, hz1, hz2⟩ := info_parts infoTxt
  clear hR
  by_cases hd : d < 3
  all_goals
    go_enter Tryd.func4, Tryd.ntmps4
    go_wp2_with fail
    refine (picked_any x.kind 10 _ wk (by omega) (by omega)).mono ?_
    rintro e w1 ⟨rfl, rfl⟩
    rw [hp]
    go_wp2_with fail
    refine (picked_any x.a 3 _ wa (by omega) (by omega)).mono ?_
    rintro e w1 ⟨rfl, rfl⟩
    have hpa := pickN_lt x.a 3 (by omega)
    generalize pickN x.a 3 = pa at *
    go_wp2_with fail
    refine (picked_any x.b 4 _ wb (by omega) (by omega)).mono ?_
    rintro e w1 ⟨rfl, rfl⟩
    have hpb := pickN_lt x.b 4 (by omega)
    generalize pickN x.b 4 = pb at *
    obtain ⟨nm, hnm, hnl⟩ := hdr_at hpb
    have hb4 : (pb : Int) < 4 := by omega
    have hb0 : (0 : Int) ≤ (pb : Int) := by omega
    go_wp2_with fail
    refine (short_any x.s _ ls).mono ?_
    rintro e w1 ⟨rfl, rfl⟩
    go_wp2_with fail
    refine (picked_any x.a 2 _ wa (by omega) (by omega)).mono ?_
    rintro e w1 ⟨rfl, rfl⟩
    have hp2 := pickN_lt x.a 2 (by omega)
    generalize pickN x.a 2 = p2 at *
    match p2, hp2 with
    | 0, _ =>
      go_wp2
      refine bodyPost_ret (v := .agg #[.int .i64 6, .int .i64 (1 + (pa : Int)), .int .i64 0, .slice (some ⟨w.heap.size + 1 + 1 + 1 + 1, 0, none⟩) 1 1, .slice (some ⟨w.heap.size + 1 + 1 + 1 + 1 + 1, 0, none⟩) 1 1, .bool false, .int .i64 0, .slice none 0 0]) (by simp [results, Tryd.results4, go_sem]) rfl ?_
      refine TestP.cmp 6 _ _ nm [x.s.take 12] _ _ rfl ?_ ?_ hnl (fun s hs => by simp at hs; rw [hs, List.length_take]; omega) (fun h => by omega) (fit_cmp (by omega) (by omega) ⟨_, rfl⟩) ?_
      · exact rowM_one (t := 9) (fr := (0, 0)) (cs := [.string (S nm)]) (heap_old _ (heap_at _ (by simp))) rfl (show w.heap.size ≤ _ by omega) rfl
      · exact rowM_one (t := 9) (fr := (0, 0)) (cs := [.string (S (x.s.take 12))]) (heap_at _ (by simp)) rfl (show w.heap.size ≤ _ by omega) rfl
      · exact ((((((Below.refl _ _).alloc (Nat.le_refl _) _).alloc (by simp) _).alloc (by simp; omega) _).alloc (by simp; omega) _).alloc (by simp; omega) _).alloc (by simp; omega) _
    | 1, _ =>
      obtain ⟨W, hW⟩ : ∃ W, W = (((((w.alloc (.cells #[.int .i64 x.kind, .int .i64 x.a, .int .i64 x.b, .string (S x.s), .string (S x.t), .slice ai x.ins.length ci] 24)).alloc (.cells #[.int .i64 0, .int .i64 0, .int .i64 0, .slice none 0 0, .slice none 0 0, .bool false, .int .i64 0, .slice none 0 0] 28)).alloc (.cells #[.int .i64 6, .int .i64 (1 + (pa : Int)), .int .i64 0, .slice (some ⟨w.heap.size + 1 + 1 + 1 + 1, 0, none⟩) 1 1, .slice (some ⟨w.heap.size + 1 + 1 + 1 + 1 + 1, 0, none⟩) 1 1, .bool false, .int .i64 0, .slice none 0 0] 28)).alloc (.cells #[.string ⟨#[115, 117, 98, 106, 101, 99, 116]⟩, .string ⟨#[116, 111]⟩, .string ⟨#[102, 114, 111, 109]⟩, .string ⟨#[120]⟩] 9)).alloc (.cells #[.string (S nm)] 9)).alloc (.cells #[.string (S (x.s.take 12))] 9) := ⟨_, rfl⟩
      have HWE := hid hW
      have hx := box6 (t := 24) (show W.heap[w.heap.size]? = _ by rw [hW]; exact heap_old _ (heap_old _ (heap_old _ (heap_old _ (heap_old _ (heap_at _ rfl))))))
      have hr := (show W.heap[w.heap.size + 1]? = some (.cells #[.int .i64 0, .int .i64 0, .int .i64 0, .slice none 0 0, .slice none 0 0, .bool false, .int .i64 0, .slice none 0 0] 28) by rw [hW]; exact heap_old _ (heap_old _ (heap_old _ (heap_old _ (heap_at _ (by simp))))))
      have ht := (show W.heap[w.heap.size + 1 + 1]? = some (.cells #[.int .i64 6, .int .i64 (1 + (pa : Int)), .int .i64 0, .slice (some ⟨w.heap.size + 1 + 1 + 1 + 1, 0, none⟩) 1 1, .slice (some ⟨w.heap.size + 1 + 1 + 1 + 1 + 1, 0, none⟩) 1 1, .bool false, .int .i64 0, .slice none 0 0] 28) by rw [hW]; exact heap_old _ (heap_old _ (heap_old _ (heap_at _ (by simp)))))
      have hn := (show W.heap[w.heap.size + 1 + 1 + 1 + 1]? = some (.cells #[.string (S nm)] 9) by rw [hW]; exact heap_old _ (heap_at _ (by simp)))
      have hk := (show W.heap[w.heap.size + 1 + 1 + 1 + 1 + 1]? = some (.cells #[.string (S (x.s.take 12))] 9) by rw [hW]; exact heap_at _ (by simp))
      have HSZ := hid (show W.heap.size = w.heap.size + 6 by rw [hW]; simp)
      have lt2 : w.heap.size + 1 + 1 < W.heap.size := by rw [HSZ.out]; omega
      have lt0 : w.heap.size < W.heap.size := by omega
      have HB := hid (show Below w.heap.size w W by rw [hW]; exact ((((((Below.refl _ _).alloc (Nat.le_refl _) _).alloc (by simp) _).alloc (by simp; omega) _).alloc (by simp; omega) _).alloc (by simp; omega) _).alloc (by simp; omega) _)
      have HO := hid (show World.ownsRow W.drew (w.heap.size + 5) 9 1 (.slice (some ⟨w.heap.size + 1 + 1 + 1 + 1 + 1, 0, none⟩) 1 1) 1 [.string (S (x.s.take 12))] from ⟨by rfl, .inr ⟨_, 1, _, rfl, by omega, hk, by omega, by unfold maxLen; omega, by rfl, by rfl⟩⟩)
      have x4 := hx.2.2.2.2.1
      have HR := hid hr
      have HT := hid ht
      have HNM := hid hn
      obtain ⟨t0, t1, t2, t3, t4, t5, t6, t7, g0, g1, g2, g3, g4, g5, g6, g7⟩ := box8 ht
      clear hW hx hr ht hn hk
      go_wp2_with fail
      rw [← HWE.out]
      go_region_law
        (first
          | (refine step_append_lies _ (by rfl) _ _ _ (by rfl) (w.heap.size + 5) 9 i0 _ 1 16 Tryd.underlying25 hi hz0 hz1 hz2 rfl (by omega) (.slice (some ⟨w.heap.size + 1 + 1 + 1 + 1 + 1, 0, none⟩) 1 1) 1 [.string (S (x.s.take 12))] (by rfl) (World.ownsRow.alloc HO.out _) ⟨_, 0, none⟩ 1 1 [.string (S (x.t.take 12))] (by rfl) (by rfl) (cell_one_fresh _ _ _) (by simp [Value.oneCell']) (by omega) (by unfold maxLen; omega) (by omega) (by have := HSZ.out; simp; omega) _ rfl ?_
             intro g cap w3 hown3 hgrow hat hlt3
             have ht3 := grown_heap hgrow (heap_old _ HT.out) (own_ne (by omega))
             have hr3 := grown_heap hgrow (heap_old _ HR.out) (own_ne (by omega))
             have hn3 := hid (grown_heap hgrow (heap_old _ HNM.out) (own_ne (by omega)))
             have hB3 := hid (grown_below (HB.out.alloc (by have := HSZ.out; omega) _) hgrow (by have := HSZ.out; show w.heap.size ≤ (W.heap.push _).size; rw [Array.size_push]; omega) (by omega))
             obtain ⟨u0, u1, u2, u3, u4, u5, u6, u7, v0, v1, v2, v3, v4, v5, v6, v7⟩ := box8 ht3
             obtain ⟨p0, p1, p2, p3, p4, p5, p6, p7, o0, o1, o2, o3, o4, o5, o6, o7⟩ := box8 hr3
             clear ht3 hr3 hgrow hat)
          | (go_simp
             go_at_call 7
             refine (short_any x.t _ lt).mono ?_
             rintro e wS ⟨rfl, rfl⟩))
      all_goals
        have HTX := hid (show TxtsM (fun b => w.heap.size + 1 + 1 < b) w3 (.slice (some ⟨g, 0, none⟩) 2 cap) [x.s.take 12, x.t.take 12] from mk_txts (l := [x.s.take 12, x.t.take 12]) hown3 rfl (fun b hb => by show w.heap.size + 1 + 1 < b; omega) (by unfold maxLen; simp))
        clear hown3
        go_wp2
        refine bodyPost_ret (v := .agg #[.int .i64 6, .int .i64 (1 + (pa : Int)), .int .i64 0, .slice (some ⟨w.heap.size + 1 + 1 + 1 + 1, 0, none⟩) 1 1, .slice (some ⟨g, 0, none⟩) 2 cap, .bool false, .int .i64 0, .slice none 0 0]) (by simp [results, Tryd.results4, go_sem, *]) rfl ?_
        exact TestP.two 6 _ _ nm _ _ rfl hn3.out (by omega) HTX.out hnl (fun h => by omega) (by rw [List.length_take]; omega) (by rw [List.length_take]; omega) (fit_two (by omega) (by omega)) hB3.out

set_option maxHeartbeats 8000000 in
set_option maxRecDepth 100000 in
theorem test_adr (d m n : Nat) (x : Stk) (cs : List Value) (w : World) (h : StkM (n + 1) w x cs) (hp : pickN x.kind 10 = 6) :
    Calls Tryd.prog 4 #[.agg cs.toArray, .int .i64 d] w (TestP (m + 1) w) := by
  obtain ⟨ai, ci, rfl, wk, wa, wb, ls, lt, hic, hcm, hR⟩ := h
  obtain ⟨i0, hi, hz0, hz1, hz2⟩ := info_parts infoTxt
  clear hR
  by_cases hd : d < 3
  all_goals
    go_enter Tryd.func4, Tryd.ntmps4
    go_wp2_with fail
    refine (picked_any x.kind 10 _ wk (by omega) (by omega)).mono ?_
    rintro e w1 ⟨rfl, rfl⟩
    rw [hp]
    go_wp2_with fail
    refine (picked_any x.a 3 _ wa (by omega) (by omega)).mono ?_
    rintro e w1 ⟨rfl, rfl⟩
    have hpa := pickN_lt x.a 3 (by omega)
    generalize pickN x.a 3 = pa at *
    go_wp2_with fail
    refine (picked_any x.b 4 _ wb (by omega) (by omega)).mono ?_
    rintro e w1 ⟨rfl, rfl⟩
    have hpb := pickN_lt x.b 4 (by omega)
    generalize pickN x.b 4 = pb at *
    obtain ⟨nm, hnm, hnl⟩ := hdr_at hpb
    have hb4 : (pb : Int) < 4 := by omega
    have hb0 : (0 : Int) ≤ (pb : Int) := by omega
    go_wp2_with fail
    refine (picked_any x.b 3 _ wb (by omega) (by omega)).mono ?_
    rintro e w1 ⟨rfl, rfl⟩
    have hpp := pickN_lt x.b 3 (by omega)
    generalize pickN x.b 3 = pp at *
    go_wp2_with fail
    refine (short_any x.s _ ls).mono ?_
    rintro e w1 ⟨rfl, rfl⟩
    go_wp2_with fail
    refine (picked_any x.a 2 _ wa (by omega) (by omega)).mono ?_
    rintro e w1 ⟨rfl, rfl⟩
    have hp2 := pickN_lt x.a 2 (by omega)
    generalize pickN x.a 2 = p2 at *
    match p2, hp2 with
    | 0, _ =>
      go_wp2
      refine bodyPost_ret (v := .agg #[.int .i64 7, .int .i64 (1 + (pa : Int)), .int .i64 (1 + (pp : Int)), .slice (some ⟨w.heap.size + 1 + 1 + 1 + 1, 0, none⟩) 1 1, .slice (some ⟨w.heap.size + 1 + 1 + 1 + 1 + 1, 0, none⟩) 1 1, .bool false, .int .i64 0, .slice none 0 0]) (by simp [results, Tryd.results4, go_sem]) rfl ?_
      refine TestP.cmp 7 _ _ nm [x.s.take 12] _ _ rfl ?_ ?_ hnl (fun s hs => by simp at hs; rw [hs, List.length_take]; omega) (fun h => by omega) (fit_cmp (by omega) (by omega) ⟨_, rfl⟩) ?_
      · exact rowM_one (t := 9) (fr := (0, 0)) (cs := [.string (S nm)]) (heap_old _ (heap_at _ (by simp))) rfl (show w.heap.size ≤ _ by omega) rfl
      · exact rowM_one (t := 9) (fr := (0, 0)) (cs := [.string (S (x.s.take 12))]) (heap_at _ (by simp)) rfl (show w.heap.size ≤ _ by omega) rfl
      · exact ((((((Below.refl _ _).alloc (Nat.le_refl _) _).alloc (by simp) _).alloc (by simp; omega) _).alloc (by simp; omega) _).alloc (by simp; omega) _).alloc (by simp; omega) _
    | 1, _ =>
      obtain ⟨W, hW⟩ : ∃ W, W = (((((w.alloc (.cells #[.int .i64 x.kind, .int .i64 x.a, .int .i64 x.b, .string (S x.s), .string (S x.t), .slice ai x.ins.length ci] 24)).alloc (.cells #[.int .i64 0, .int .i64 0, .int .i64 0, .slice none 0 0, .slice none 0 0, .bool false, .int .i64 0, .slice none 0 0] 28)).alloc (.cells #[.int .i64 7, .int .i64 (1 + (pa : Int)), .int .i64 (1 + (pp : Int)), .slice (some ⟨w.heap.size + 1 + 1 + 1 + 1, 0, none⟩) 1 1, .slice (some ⟨w.heap.size + 1 + 1 + 1 + 1 + 1, 0, none⟩) 1 1, .bool false, .int .i64 0, .slice none 0 0] 28)).alloc (.cells #[.string ⟨#[115, 117, 98, 106, 101, 99, 116]⟩, .string ⟨#[116, 111]⟩, .string ⟨#[102, 114, 111, 109]⟩, .string ⟨#[120]⟩] 9)).alloc (.cells #[.string (S nm)] 9)).alloc (.cells #[.string (S (x.s.take 12))] 9) := ⟨_, rfl⟩
      have HWE := hid hW
      have hx := box6 (t := 24) (show W.heap[w.heap.size]? = _ by rw [hW]; exact heap_old _ (heap_old _ (heap_old _ (heap_old _ (heap_old _ (heap_at _ rfl))))))
      have hr := (show W.heap[w.heap.size + 1]? = some (.cells #[.int .i64 0, .int .i64 0, .int .i64 0, .slice none 0 0, .slice none 0 0, .bool false, .int .i64 0, .slice none 0 0] 28) by rw [hW]; exact heap_old _ (heap_old _ (heap_old _ (heap_old _ (heap_at _ (by simp))))))
      have ht := (show W.heap[w.heap.size + 1 + 1]? = some (.cells #[.int .i64 7, .int .i64 (1 + (pa : Int)), .int .i64 (1 + (pp : Int)), .slice (some ⟨w.heap.size + 1 + 1 + 1 + 1, 0, none⟩) 1 1, .slice (some ⟨w.heap.size + 1 + 1 + 1 + 1 + 1, 0, none⟩) 1 1, .bool false, .int .i64 0, .slice none 0 0] 28) by rw [hW]; exact heap_old _ (heap_old _ (heap_old _ (heap_at _ (by simp)))))
      have hn := (show W.heap[w.heap.size + 1 + 1 + 1 + 1]? = some (.cells #[.string (S nm)] 9) by rw [hW]; exact heap_old _ (heap_at _ (by simp)))
      have hk := (show W.heap[w.heap.size + 1 + 1 + 1 + 1 + 1]? = some (.cells #[.string (S (x.s.take 12))] 9) by rw [hW]; exact heap_at _ (by simp))
      have HSZ := hid (show W.heap.size = w.heap.size + 6 by rw [hW]; simp)
      have lt2 : w.heap.size + 1 + 1 < W.heap.size := by rw [HSZ.out]; omega
      have lt0 : w.heap.size < W.heap.size := by omega
      have HB := hid (show Below w.heap.size w W by rw [hW]; exact ((((((Below.refl _ _).alloc (Nat.le_refl _) _).alloc (by simp) _).alloc (by simp; omega) _).alloc (by simp; omega) _).alloc (by simp; omega) _).alloc (by simp; omega) _)
      have HO := hid (show World.ownsRow W.drew (w.heap.size + 5) 9 1 (.slice (some ⟨w.heap.size + 1 + 1 + 1 + 1 + 1, 0, none⟩) 1 1) 1 [.string (S (x.s.take 12))] from ⟨by rfl, .inr ⟨_, 1, _, rfl, by omega, hk, by omega, by unfold maxLen; omega, by rfl, by rfl⟩⟩)
      have x4 := hx.2.2.2.2.1
      have HR := hid hr
      have HT := hid ht
      have HNM := hid hn
      obtain ⟨t0, t1, t2, t3, t4, t5, t6, t7, g0, g1, g2, g3, g4, g5, g6, g7⟩ := box8 ht
      clear hW hx hr ht hn hk
      go_wp2_with fail
      rw [← HWE.out]
      go_region_law
        (first
          | (refine step_append_lies _ (by rfl) _ _ _ (by rfl) (w.heap.size + 5) 9 i0 _ 1 16 Tryd.underlying25 hi hz0 hz1 hz2 rfl (by omega) (.slice (some ⟨w.heap.size + 1 + 1 + 1 + 1 + 1, 0, none⟩) 1 1) 1 [.string (S (x.s.take 12))] (by rfl) (World.ownsRow.alloc HO.out _) ⟨_, 0, none⟩ 1 1 [.string (S (x.t.take 12))] (by rfl) (by rfl) (cell_one_fresh _ _ _) (by simp [Value.oneCell']) (by omega) (by unfold maxLen; omega) (by omega) (by have := HSZ.out; simp; omega) _ rfl ?_
             intro g cap w3 hown3 hgrow hat hlt3
             have ht3 := grown_heap hgrow (heap_old _ HT.out) (own_ne (by omega))
             have hr3 := grown_heap hgrow (heap_old _ HR.out) (own_ne (by omega))
             have hn3 := hid (grown_heap hgrow (heap_old _ HNM.out) (own_ne (by omega)))
             have hB3 := hid (grown_below (HB.out.alloc (by have := HSZ.out; omega) _) hgrow (by have := HSZ.out; show w.heap.size ≤ (W.heap.push _).size; rw [Array.size_push]; omega) (by omega))
             obtain ⟨u0, u1, u2, u3, u4, u5, u6, u7, v0, v1, v2, v3, v4, v5, v6, v7⟩ := box8 ht3
             obtain ⟨p0, p1, p2, p3, p4, p5, p6, p7, o0, o1, o2, o3, o4, o5, o6, o7⟩ := box8 hr3
             clear ht3 hr3 hgrow hat)
          | (go_simp
             go_at_call 7
             refine (short_any x.t _ lt).mono ?_
             rintro e wS ⟨rfl, rfl⟩))
      all_goals
        have HTX := hid (show TxtsM (fun b => w.heap.size + 1 + 1 < b) w3 (.slice (some ⟨g, 0, none⟩) 2 cap) [x.s.take 12, x.t.take 12] from mk_txts (l := [x.s.take 12, x.t.take 12]) hown3 rfl (fun b hb => by show w.heap.size + 1 + 1 < b; omega) (by unfold maxLen; simp))
        clear hown3
        go_wp2
        refine bodyPost_ret (v := .agg #[.int .i64 7, .int .i64 (1 + (pa : Int)), .int .i64 (1 + (pp : Int)), .slice (some ⟨w.heap.size + 1 + 1 + 1 + 1, 0, none⟩) 1 1, .slice (some ⟨g, 0, none⟩) 2 cap, .bool false, .int .i64 0, .slice none 0 0]) (by simp [results, Tryd.results4, go_sem, *]) rfl ?_
        exact TestP.two 7 _ _ nm _ _ rfl hn3.out (by omega) HTX.out hnl (fun h => by omega) (by rw [List.length_take]; omega) (by rw [List.length_take]; omega) (fit_two (by omega) (by omega)) hB3.out

set_option maxHeartbeats 8000000 in
set_option maxRecDepth 100000 in
theorem test_env (d m n : Nat) (x : Stk) (cs : List Value) (w : World) (h : StkM (n + 1) w x cs) (hp : pickN x.kind 10 = 7) :
    Calls Tryd.prog 4 #[.agg cs.toArray, .int .i64 d] w (TestP (m + 1) w) := by
  obtain ⟨ai, ci, rfl, wk, wa, wb, ls, lt, hic, hcm, hR⟩ := h
  obtain ⟨i0, hi, hz0, hz1, hz2⟩ := info_parts infoTxt
  clear hR
  by_cases hd : d < 3
  all_goals
    go_enter Tryd.func4, Tryd.ntmps4
    go_wp2_with fail
    refine (picked_any x.kind 10 _ wk (by omega) (by omega)).mono ?_
    rintro e w1 ⟨rfl, rfl⟩
    rw [hp]
    go_wp2_with fail
    refine (picked_any x.a 3 _ wa (by omega) (by omega)).mono ?_
    rintro e w1 ⟨rfl, rfl⟩
    have hpa := pickN_lt x.a 3 (by omega)
    generalize pickN x.a 3 = pa at *
    go_wp2_with fail
    refine (picked_any x.b 4 _ wb (by omega) (by omega)).mono ?_
    rintro e w1 ⟨rfl, rfl⟩
    have hpb := pickN_lt x.b 4 (by omega)
    generalize pickN x.b 4 = pb at *
    obtain ⟨nm, hnm, hnl⟩ := hdr_at hpb
    have hb4 : (pb : Int) < 4 := by omega
    have hb0 : (0 : Int) ≤ (pb : Int) := by omega
    go_wp2_with fail
    refine (picked_any x.b 3 _ wb (by omega) (by omega)).mono ?_
    rintro e w1 ⟨rfl, rfl⟩
    have hpp := pickN_lt x.b 3 (by omega)
    generalize pickN x.b 3 = pp at *
    go_wp2_with fail
    refine (picked_any x.b 2 _ wb (by omega) (by omega)).mono ?_
    rintro e w1 ⟨rfl, rfl⟩
    have hpe := pickN_lt x.b 2 (by omega)
    generalize pickN x.b 2 = pe at *
    obtain ⟨ne, hne, hnp⟩ := env_at hpe
    have he4 : (pe : Int) < 2 := by omega
    have he0 : (0 : Int) ≤ (pe : Int) := by omega
    go_wp2_with fail
    refine (short_any x.s _ ls).mono ?_
    rintro e w1 ⟨rfl, rfl⟩
    go_wp2_with fail
    refine (picked_any x.a 2 _ wa (by omega) (by omega)).mono ?_
    rintro e w1 ⟨rfl, rfl⟩
    have hp2 := pickN_lt x.a 2 (by omega)
    generalize pickN x.a 2 = p2 at *
    match p2, hp2 with
    | 0, _ =>
      go_wp2
      refine bodyPost_ret (v := .agg #[.int .i64 8, .int .i64 (1 + (pa : Int)), .int .i64 (1 + (pp : Int)), .slice (some ⟨w.heap.size + 1 + 1 + 1 + 1 + 1 + 1, 0, none⟩) 1 1, .slice (some ⟨w.heap.size + 1 + 1 + 1 + 1 + 1 + 1 + 1, 0, none⟩) 1 1, .bool false, .int .i64 0, .slice none 0 0]) (by simp [results, Tryd.results4, go_sem]) rfl ?_
      refine TestP.cmp 8 _ _ ne [x.s.take 12] _ _ rfl ?_ ?_ (partP_len hnp) (fun s hs => by simp at hs; rw [hs, List.length_take]; omega) (fun h => hnp) (fit_cmp (by omega) (by omega) ⟨_, rfl⟩) ?_
      · exact rowM_one (t := 9) (fr := (0, 0)) (cs := [.string (S ne)]) (heap_old _ (heap_at _ (by simp))) rfl (show w.heap.size ≤ _ by omega) rfl
      · exact rowM_one (t := 9) (fr := (0, 0)) (cs := [.string (S (x.s.take 12))]) (heap_at _ (by simp)) rfl (show w.heap.size ≤ _ by omega) rfl
      · exact ((((((((Below.refl _ _).alloc (Nat.le_refl _) _).alloc (by simp) _).alloc (by simp; omega) _).alloc (by simp; omega) _).alloc (by simp; omega) _).alloc (by simp; omega) _).alloc (by simp; omega) _).alloc (by simp; omega) _
    | 1, _ =>
      obtain ⟨W, hW⟩ : ∃ W, W = (((((((w.alloc (.cells #[.int .i64 x.kind, .int .i64 x.a, .int .i64 x.b, .string (S x.s), .string (S x.t), .slice ai x.ins.length ci] 24)).alloc (.cells #[.int .i64 0, .int .i64 0, .int .i64 0, .slice none 0 0, .slice none 0 0, .bool false, .int .i64 0, .slice none 0 0] 28)).alloc (.cells #[.int .i64 8, .int .i64 (1 + (pa : Int)), .int .i64 (1 + (pp : Int)), .slice (some ⟨w.heap.size + 1 + 1 + 1 + 1 + 1 + 1, 0, none⟩) 1 1, .slice (some ⟨w.heap.size + 1 + 1 + 1 + 1 + 1 + 1 + 1, 0, none⟩) 1 1, .bool false, .int .i64 0, .slice none 0 0] 28)).alloc (.cells #[.string ⟨#[115, 117, 98, 106, 101, 99, 116]⟩, .string ⟨#[116, 111]⟩, .string ⟨#[102, 114, 111, 109]⟩, .string ⟨#[120]⟩] 9)).alloc (.cells #[.string (S nm)] 9)).alloc (.cells #[.string ⟨#[102, 114, 111, 109]⟩, .string ⟨#[116, 111]⟩] 9)).alloc (.cells #[.string (S ne)] 9)).alloc (.cells #[.string (S (x.s.take 12))] 9) := ⟨_, rfl⟩
      have HWE := hid hW
      have hx := box6 (t := 24) (show W.heap[w.heap.size]? = _ by rw [hW]; exact heap_old _ (heap_old _ (heap_old _ (heap_old _ (heap_old _ (heap_old _ (heap_old _ (heap_at _ rfl))))))))
      have hr := (show W.heap[w.heap.size + 1]? = some (.cells #[.int .i64 0, .int .i64 0, .int .i64 0, .slice none 0 0, .slice none 0 0, .bool false, .int .i64 0, .slice none 0 0] 28) by rw [hW]; exact heap_old _ (heap_old _ (heap_old _ (heap_old _ (heap_old _ (heap_old _ (heap_at _ (by simp))))))))
      have ht := (show W.heap[w.heap.size + 1 + 1]? = some (.cells #[.int .i64 8, .int .i64 (1 + (pa : Int)), .int .i64 (1 + (pp : Int)), .slice (some ⟨w.heap.size + 1 + 1 + 1 + 1 + 1 + 1, 0, none⟩) 1 1, .slice (some ⟨w.heap.size + 1 + 1 + 1 + 1 + 1 + 1 + 1, 0, none⟩) 1 1, .bool false, .int .i64 0, .slice none 0 0] 28) by rw [hW]; exact heap_old _ (heap_old _ (heap_old _ (heap_old _ (heap_old _ (heap_at _ (by simp)))))))
      have hn := (show W.heap[w.heap.size + 1 + 1 + 1 + 1 + 1 + 1]? = some (.cells #[.string (S ne)] 9) by rw [hW]; exact heap_old _ (heap_at _ (by simp)))
      have hk := (show W.heap[w.heap.size + 1 + 1 + 1 + 1 + 1 + 1 + 1]? = some (.cells #[.string (S (x.s.take 12))] 9) by rw [hW]; exact heap_at _ (by simp))
      have HSZ := hid (show W.heap.size = w.heap.size + 8 by rw [hW]; simp)
      have lt2 : w.heap.size + 1 + 1 < W.heap.size := by rw [HSZ.out]; omega
      have lt0 : w.heap.size < W.heap.size := by omega
      have HB := hid (show Below w.heap.size w W by rw [hW]; exact ((((((((Below.refl _ _).alloc (Nat.le_refl _) _).alloc (by simp) _).alloc (by simp; omega) _).alloc (by simp; omega) _).alloc (by simp; omega) _).alloc (by simp; omega) _).alloc (by simp; omega) _).alloc (by simp; omega) _)
      have HO := hid (show World.ownsRow W.drew (w.heap.size + 7) 9 1 (.slice (some ⟨w.heap.size + 1 + 1 + 1 + 1 + 1 + 1 + 1, 0, none⟩) 1 1) 1 [.string (S (x.s.take 12))] from ⟨by rfl, .inr ⟨_, 1, _, rfl, by omega, hk, by omega, by unfold maxLen; omega, by rfl, by rfl⟩⟩)
      have x4 := hx.2.2.2.2.1
      have HR := hid hr
      have HT := hid ht
      have HNM := hid hn
      obtain ⟨t0, t1, t2, t3, t4, t5, t6, t7, g0, g1, g2, g3, g4, g5, g6, g7⟩ := box8 ht
      clear hW hx hr ht hn hk
      go_wp2_with fail
      rw [← HWE.out]
      go_region_law
        (first
          | (refine step_append_lies _ (by rfl) _ _ _ (by rfl) (w.heap.size + 7) 9 i0 _ 1 16 Tryd.underlying25 hi hz0 hz1 hz2 rfl (by omega) (.slice (some ⟨w.heap.size + 1 + 1 + 1 + 1 + 1 + 1 + 1, 0, none⟩) 1 1) 1 [.string (S (x.s.take 12))] (by rfl) (World.ownsRow.alloc HO.out _) ⟨_, 0, none⟩ 1 1 [.string (S (x.t.take 12))] (by rfl) (by rfl) (cell_one_fresh _ _ _) (by simp [Value.oneCell']) (by omega) (by unfold maxLen; omega) (by omega) (by have := HSZ.out; simp; omega) _ rfl ?_
             intro g cap w3 hown3 hgrow hat hlt3
             have ht3 := grown_heap hgrow (heap_old _ HT.out) (own_ne (by omega))
             have hr3 := grown_heap hgrow (heap_old _ HR.out) (own_ne (by omega))
             have hn3 := hid (grown_heap hgrow (heap_old _ HNM.out) (own_ne (by omega)))
             have hB3 := hid (grown_below (HB.out.alloc (by have := HSZ.out; omega) _) hgrow (by have := HSZ.out; show w.heap.size ≤ (W.heap.push _).size; rw [Array.size_push]; omega) (by omega))
             obtain ⟨u0, u1, u2, u3, u4, u5, u6, u7, v0, v1, v2, v3, v4, v5, v6, v7⟩ := box8 ht3
             obtain ⟨p0, p1, p2, p3, p4, p5, p6, p7, o0, o1, o2, o3, o4, o5, o6, o7⟩ := box8 hr3
             clear ht3 hr3 hgrow hat)
          | (go_simp
             go_at_call 7
             refine (short_any x.t _ lt).mono ?_
             rintro e wS ⟨rfl, rfl⟩))
      all_goals
        have HTX := hid (show TxtsM (fun b => w.heap.size + 1 + 1 < b) w3 (.slice (some ⟨g, 0, none⟩) 2 cap) [x.s.take 12, x.t.take 12] from mk_txts (l := [x.s.take 12, x.t.take 12]) hown3 rfl (fun b hb => by show w.heap.size + 1 + 1 < b; omega) (by unfold maxLen; simp))
        clear hown3
        go_wp2
        refine bodyPost_ret (v := .agg #[.int .i64 8, .int .i64 (1 + (pa : Int)), .int .i64 (1 + (pp : Int)), .slice (some ⟨w.heap.size + 1 + 1 + 1 + 1 + 1 + 1, 0, none⟩) 1 1, .slice (some ⟨g, 0, none⟩) 2 cap, .bool false, .int .i64 0, .slice none 0 0]) (by simp [results, Tryd.results4, go_sem, *]) rfl ?_
        exact TestP.two 8 _ _ ne _ _ rfl hn3.out (by omega) HTX.out (partP_len hnp) (fun h => hnp) (by rw [List.length_take]; omega) (by rw [List.length_take]; omega) (fit_two (by omega) (by omega)) hB3.out

end Go.Proofs.YtaelgmibjiocfaaDoor
