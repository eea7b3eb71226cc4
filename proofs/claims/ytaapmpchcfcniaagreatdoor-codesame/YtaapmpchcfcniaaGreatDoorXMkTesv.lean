/-
  What the laws' maker of tests does, where it asks for fields; all of it: the walks.
-/
import Derived.Test.YtaapmpchcfcniaaGreatDoorXQCodCkl9
import Derived.Test.YtaapmpchcfcniaaGreatDoorXMkTesu
namespace Go.Proofs.YtaapmpchcfcniaaGreatDoor
open Go.RowKit Go.Proofs
set_option maxHeartbeats 8000000 in
set_option maxRecDepth 100000 in
theorem jdB (d m n : Nat) (x : Stk) (cs : List Value) (w : World) (h : StkM (n + 1) w x cs) (hp : jB x.kind 10 = 8) :
 Calls Tryz.prog 11 #[.agg cs.toArray, .int .i64 d] w (TestP (m + 1) w) := by
 obtain ⟨ai, ci, rfl, wk, wa, wb, ls, lt, hic, hcm, hR⟩ := h; clear hR; obtain ⟨pa, hpa⟩ : ∃ pa, pa = jB x.a 3 := ⟨_, rfl⟩; have ha3 : pa < 3 := by rw [hpa]; exact jz _ _ (by omega)
 obtain ⟨pb, hpb⟩ : ∃ pb, pb = jB x.b 2 := ⟨_, rfl⟩; have hb2 : pb < 2 := by rw [hpb]; exact jz _ _ (by omega)
 have HPA := hid hpa; have HPB := hid hpb; have HLS := hid (show (S x.s).size ≤ maxLen by rw [jy]; exact ls); have HWD := hid (show zW (S x.s).data.toList = zW x.s by rw [jv]); obtain ⟨nm, hnm, hnl⟩ := jnk ha3; have ja : (pa : Int) < 3 := by omega
 have ja0 : (0 : Int) ≤ (pa : Int) := by omega
 obtain ⟨q, hq⟩ : ∃ q : Nat, q = pb + 1 := ⟨_, rfl⟩; have hwb : IntKind.i64.wrap (1 + (pb : Int)) = (q : Int) := by rw [IntKind.wrap_i64]; omega
 have jq : (q : Int) ≤ 2 := by omega
 have jq0 : (0 : Int) ≤ (q : Int) := by omega
 have hq2 : q ≤ 2 := by omega
 have HQ0 := hid (show 0 < q by omega); clear hpa hpb hq; go_enter Tryz.func11, Tryz.ntmps11; go_wp2_with fail; refine (jg x.kind 10 _ wk (by omega) (by omega)).mono ?_; rintro e w1 ⟨rfl, rfl⟩; rw [hp]; go_upto_region 2 with fail
 go_cut [23] (fun v wx => v = .bool false ∧ wx = (w.alloc (.cells #[.int .i64 x.kind, .int .i64 x.a, .int .i64 x.b, .string (S x.s), .string (S x.t), .slice ai x.ins.length ci] 50)).alloc (.cells #[.int .i64 0, .int .i64 0, .int .i64 0, .slice none 0 0, .slice none 0 0, .bool false, .int .i64 0, .slice none 0 0] 54))
 case first =>
  by_cases hd : d < 3
  · have d1 : ¬ (3 : Int) ≤ (d : Int) := by omega
    go_wp2_with fail
    go_meet
    exact ⟨by first | rfl | simp, rfl⟩
  · have d1 : (3 : Int) ≤ (d : Int) := by omega
    go_wp2_with fail
    go_meet
    exact ⟨by first | rfl | simp, rfl⟩
 obtain ⟨rfl, hwc⟩ := hcut; rw [hwc]; clear hwc; obtain ⟨W, hW⟩ : ∃ W, W = ((w.alloc (.cells #[.int .i64 x.kind, .int .i64 x.a, .int .i64 x.b, .string (S x.s), .string (S x.t), .slice ai x.ins.length ci] 50)).alloc (.cells #[.int .i64 0, .int .i64 0, .int .i64 0, .slice none 0 0, .slice none 0 0, .bool false, .int .i64 0, .slice none 0 0] 54)).alloc (.cells #[.int .i64 9, .int .i64 0, .int .i64 0, .slice none 0 0, .slice none 0 0, .bool false, .int .i64 0, .slice none 0 0] 54) := ⟨_, rfl⟩; have HWE := hid hW; have hx := hid (show W.heap[w.heap.size]? = some (.cells #[.int .i64 x.kind, .int .i64 x.a, .int .i64 x.b, .string (S x.s), .string (S x.t), .slice ai x.ins.length ci] 50) by rw [hW]; exact jf _ (jf _ (jm _ rfl))); have hr := hid (show W.heap[w.heap.size + 1]? = some (.cells #[.int .i64 0, .int .i64 0, .int .i64 0, .slice none 0 0, .slice none 0 0, .bool false, .int .i64 0, .slice none 0 0] 54) by rw [hW]; exact jf _ (jm _ (by simp))); have ht := hid (show W.heap[w.heap.size + 1 + 1]? = some (.cells #[.int .i64 9, .int .i64 0, .int .i64 0, .slice none 0 0, .slice none 0 0, .bool false, .int .i64 0, .slice none 0 0] 54) by rw [hW]; exact jm _ (by simp)); have HSZ := hid (show W.heap.size = w.heap.size + 3 by rw [hW]; simp); have HB := hid (show Below w.heap.size w W by rw [hW]; exact ((nb0 _ _).alloc (by simp) _).alloc (by simp; omega) _); obtain ⟨x0, x1, x2, x3, x4, x5⟩ := jal hx.out; obtain ⟨u0, u1, u2, u3, u4, u5, u6, u7, v0, v1, v2, v3, v4, v5, v6, v7⟩ := box8 ht.out; have lt2 : w.heap.size + 1 + 1 < W.heap.size := by have := HSZ.out; omega
 have lt0 : w.heap.size < W.heap.size := by omega
 clear hW; go_wp2; rw [← HWE.out]; refine wp_region_held_drew (S := fun w' => w'.cell? ⟨w.heap.size, 1, none⟩ = some (.int .i64 x.a) ∧ w'.cell? ⟨w.heap.size, 2, none⟩ = some (.int .i64 x.b) ∧ w'.cell? ⟨w.heap.size, 3, none⟩ = some (.string (S x.s))) (by kernel_rfl) ?_ (fun hHeld => ?_)
 · exact ⟨x1, x2, x3⟩
 refine wpAnyH_take (i := 1) (v := ?v36) rfl (by kernel_rfl) (by kernel_rfl) (by kernel_rfl) (fun _ _ _ h => h) (Or.inl ⟨by rfl, ?hy36⟩) (by assumption) ?_
 case hy36 =>
  intro w hSw
  (try dsimp only at hSw)
  go_simp
  all_goals with_reducible rfl
 change wpAnyH _ _ _ _ _ _ _ (Act.put _ (some 139) _) _
 try simp only [Act.put, List.setIfInBounds_toArray, List.set_cons_zero, List.set_cons_succ]
 refine wpAnyH_take (i := 2) (v := ?v37) rfl (by kernel_rfl) (by kernel_rfl) (by kernel_rfl) (fun _ _ _ h => h) (Or.inl ⟨by rfl, ?hy37⟩) (by assumption) ?_
 case hy37 =>
  intro w hSw
  (try dsimp only at hSw)
  go_simp
  all_goals with_reducible rfl
 change wpAnyH _ _ _ _ _ _ _ (Act.put _ (some 140) _) _
 try simp only [Act.put, List.setIfInBounds_toArray, List.set_cons_zero, List.set_cons_succ]
 refine wpAnyH_take (i := 6) (v := ?v38) rfl (by kernel_rfl) (by kernel_rfl) (by kernel_rfl) (fun _ _ _ h => h) (Or.inl ⟨by rfl, ?hy38⟩) (by assumption) ?_
 case hy38 =>
  intro w hSw
  (try dsimp only at hSw)
  go_simp
  all_goals with_reducible rfl
 change wpAnyH _ _ _ _ _ _ _ (Act.put _ (some 144) _) _
 try simp only [Act.put, List.setIfInBounds_toArray, List.set_cons_zero, List.set_cons_succ]
 refine wpAnyH_take (i := 7) (v := ?v39) rfl (by kernel_rfl) (by kernel_rfl) (by kernel_rfl) (fun _ _ _ h => h) (Or.inl ⟨by rfl, ?hy39⟩) (by assumption) ?_
 case hy39 =>
  intro w hSw
  (try dsimp only at hSw)
  go_simp
  all_goals with_reducible rfl
 change wpAnyH _ _ _ _ _ _ _ (Act.put _ (some 145) _) _
 try simp only [Act.put, List.setIfInBounds_toArray, List.set_cons_zero, List.set_cons_succ]
 refine wpAnyH_take (i := 10) (v := ?v40) rfl (by kernel_rfl) (by kernel_rfl) (by kernel_rfl) (fun _ _ _ h => h) (Or.inl ⟨by rfl, ?hy40⟩) (by assumption) ?_
 case hy40 =>
  intro w hSw
  (try dsimp only at hSw)
  go_simp
  all_goals with_reducible rfl
 change wpAnyH _ _ _ _ _ _ _ (Act.put _ (some 148) _) _
 try simp only [Act.put, List.setIfInBounds_toArray, List.set_cons_zero, List.set_cons_succ]
 refine wpAnyH_take (i := 11) (v := ?v41) rfl (by kernel_rfl) (by kernel_rfl) (by kernel_rfl) (fun _ _ _ h => h) (Or.inl ⟨by rfl, ?hy41⟩) (by assumption) ?_
 case hy41 =>
  intro w hSw
  (try dsimp only at hSw)
  go_simp
  all_goals with_reducible rfl
 change wpAnyH _ _ _ _ _ _ _ (Act.put _ (some 149) _) _
 try simp only [Act.put, List.setIfInBounds_toArray, List.set_cons_zero, List.set_cons_succ]
 refine wpAnyH_ready (rs := [0, 3]) (by kernel_rfl) (by simp) ?_; refine AllReadyH.cons rfl (fun K hK => ?_) ?_
 · go_simp
   refine hK.out _ _ ?_ (fun hHeld => ?_)
   · (try dsimp only)
     all_goals go_keep
   clear hK K
   try simp only [Act.put, List.setIfInBounds_toArray, List.set_cons_zero, List.set_cons_succ]
   refine qs (E := fun w' : World => w'.cell? ⟨W.heap.size, pa, none⟩ = some (.string (S nm))) hHeld (by exact vf W hnm ha3) (fun hHeld1 => ?_); clear hHeld; refine wpAnyH_ready (rs := [3]) (by kernel_rfl) (by simp) ?_; refine AllReadyH.cons rfl (fun K hK => ?_) ?_
   · go_simp
     refine (jg x.a 3 _ wa (by decide) (by decide)).mono ?_; rintro e u ⟨rfl, hu⟩; have hu' := hu.symm; subst hu'; rw [← HPA.out]; go_wp2_with fail; refine hK.out _ _ ?_ (fun hHeld => ?_)
     · (try dsimp only)
       all_goals go_keep
     clear hK K
     try simp only [Act.put, List.setIfInBounds_toArray, List.set_cons_zero, List.set_cons_succ]
     refine wpAnyH_take (i := 4) (v := ?v42) rfl (by kernel_rfl) (by kernel_rfl) (by kernel_rfl) (fun _ _ _ h => h) (Or.inl ⟨by rfl, ?hy42⟩) (by assumption) ?_
     case hy42 =>
        intro w hSw
        (try dsimp only at hSw)
        go_simp
        all_goals with_reducible rfl
     change wpAnyH _ _ _ _ _ _ _ (Act.put _ (some 142) _) _
     try simp only [Act.put, List.setIfInBounds_toArray, List.set_cons_zero, List.set_cons_succ]
     refine wpAnyH_take (i := 5) (v := ?v43) rfl (by kernel_rfl) (by kernel_rfl) (by kernel_rfl) (fun _ _ _ h => h) (Or.inl ⟨by rfl, ?hy43⟩) (by assumption) ?_
     case hy43 =>
        intro w hSw
        (try dsimp only at hSw)
        go_simp
        all_goals with_reducible rfl
     change wpAnyH _ _ _ _ _ _ _ (Act.put _ (some 143) _) _
     try simp only [Act.put, List.setIfInBounds_toArray, List.set_cons_zero, List.set_cons_succ]
     refine wpAnyH_ready (rs := [8]) (by kernel_rfl) (by simp) ?_; refine AllReadyH.cons rfl (fun K hK => ?_) ?_
     · go_simp
       refine (jaj (S x.s) _ HLS.out).mono ?_; rintro e wS ⟨rfl, hbS⟩; rw [HWD.out]; have m1 : wS.cell? ⟨w.heap.size, 1, none⟩ = some (.int .i64 x.a) := jb (by exact je x1) hbS; have m2 : wS.cell? ⟨w.heap.size, 2, none⟩ = some (.int .i64 x.b) := jb (by exact je x2) hbS; have m3 : wS.cell? ⟨w.heap.size, 3, none⟩ = some (.string (S x.s)) := jb (by exact je x3) hbS; have marr : wS.cell? ⟨W.heap.size, pa, none⟩ = some (.string (S nm)) := jb (by exact vf W hnm ha3) hbS; have hTS := hid (jl hbS (by exact jf _ ht.out) (by have := HSZ.out; show w.heap.size + 1 + 1 < (W.heap.push _).size; rw [Array.size_push]; omega)); have hRS := hid (jl hbS (by exact jf _ hr.out) (by have := HSZ.out; show w.heap.size + 1 < (W.heap.push _).size; rw [Array.size_push]; omega)); obtain ⟨b0, b1, b2, b3, b4, b5, b6, b7, c0, c1, c2, c3, c4, c5, c6, c7⟩ := box8 hTS.out; obtain ⟨p0, p1, p2, p3, p4, p5, p6, p7, o0, o1, o2, o3, o4, o5, o6, o7⟩ := box8 hRS.out; have sS0 : w.heap.size < wS.heap.size := World.block_lt_of_cell? wS _ m1; have sS2 : w.heap.size + 1 + 1 < wS.heap.size := World.block_lt_of_cell? wS _ b0; have sS1 : w.heap.size + 1 < wS.heap.size := World.block_lt_of_cell? wS _ p0; have hBS := hid (show Below w.heap.size w wS from ((HB.out.alloc (by have := HSZ.out; omega) _).drew).trans (hbS.mono (by have := HSZ.out; show w.heap.size ≤ (W.heap.push _).size; rw [Array.size_push]; omega))); clear hbS; go_wp2_with fail; refine hK.out _ _ ?_ (fun hHeld => ?_)
       · (try dsimp only)
         all_goals go_keep
       clear hK K
       try simp only [Act.put, List.setIfInBounds_toArray, List.set_cons_zero, List.set_cons_succ]
       refine wpAnyH_ready (rs := [9, 12]) (by kernel_rfl) (by simp) ?_; refine AllReadyH.cons rfl (fun K hK => ?_) ?_
       · go_simp
         refine hK.out _ _ ?_ (fun hHeld => ?_)
         · (try dsimp only)
           all_goals go_keep
         clear hK K
         try simp only [Act.put, List.setIfInBounds_toArray, List.set_cons_zero, List.set_cons_succ]
         refine wpAnyH_ready (rs := [12]) (by kernel_rfl) (by simp) ?_; refine AllReadyH.cons rfl (fun K hK => ?_) ?_
         · go_simp
           refine (jg x.b 2 _ wb (by decide) (by decide)).mono ?_; rintro e u ⟨rfl, hu⟩; have hu' := hu.symm; subst hu'; rw [← HPB.out]; go_wp2_with fail; refine hK.out _ _ ?_ (fun hHeld => ?_)
           · (try dsimp only)
             all_goals go_keep
           clear hK K
           try simp only [Act.put, List.setIfInBounds_toArray, List.set_cons_zero, List.set_cons_succ]
           refine wpAnyH_take (i := 13) (v := ?v44) rfl (by kernel_rfl) (by kernel_rfl) (by kernel_rfl) (fun _ _ _ h => h) (Or.inl ⟨by rfl, ?hy44⟩) (by assumption) ?_
           case hy44 =>
            intro w hSw
            (try dsimp only at hSw)
            go_simp
            all_goals with_reducible rfl
           change wpAnyH _ _ _ _ _ _ _ (Act.put _ (some 151) _) _
           try simp only [Act.put, List.setIfInBounds_toArray, List.set_cons_zero, List.set_cons_succ]
           refine wpAnyH_take (i := 14) (v := ?v45) rfl (by kernel_rfl) (by kernel_rfl) (by kernel_rfl) (fun _ _ _ h => h) (Or.inl ⟨by rfl, ?hy45⟩) (by assumption) ?_
           case hy45 =>
            intro w hSw
            (try dsimp only at hSw)
            go_simp
            all_goals with_reducible rfl
           change wpAnyH _ _ _ _ _ _ _ (Act.put _ (some 152) _) _
           try simp only [Act.put, List.setIfInBounds_toArray, List.set_cons_zero, List.set_cons_succ]
           refine wpAnyH_take (i := 15) (v := ?v46) rfl (by kernel_rfl) (by kernel_rfl) (by kernel_rfl) (fun _ _ _ h => h) (Or.inl ⟨by rfl, ?hy46⟩) (by assumption) ?_
           case hy46 =>
            intro w hSw
            (try dsimp only at hSw)
            go_simp
            all_goals with_reducible rfl
           change wpAnyH _ _ _ _ _ _ _ (Act.put _ (some 153) _) _
           try simp only [Act.put, List.setIfInBounds_toArray, List.set_cons_zero, List.set_cons_succ]
           refine wpAnyH_ready (rs := [16]) (by kernel_rfl) (by simp) ?_; refine AllReadyH.cons rfl (fun K hK => ?_) ?_
           · go_simp
             refine hK.out _ _ ?_ (fun hHeld => ?_)
             · (try dsimp only)
               all_goals first | exact ⟨⟨je (jh m1 (by omega)), je (jh m2 (by omega)), je (jh m3 (by omega))⟩, je (jh marr (by omega))⟩ | exact ⟨⟨je (je (jh m1 (by omega))), je (je (jh m2 (by omega))), je (je (jh m3 (by omega)))⟩, je (qt _ _ (by simp [World.setCell]) hnm ha3)⟩
             clear hK K
             try simp only [Act.put, List.setIfInBounds_toArray, List.set_cons_zero, List.set_cons_succ]
             refine wpAnyH_done (by kernel_rfl) ?_ _; go_wp2; refine bodyPost_ret (v := .agg #[.int .i64 9, .int .i64 0, .int .i64 0, .slice (some ⟨wS.heap.size, 0, none⟩) q 2, .slice none 0 0, .bool false, .int .i64 0, .slice none 0 0]) (by simp [results, Tryz.results11, go_sem, *]) rfl ?_; exact TestP.exi1 nm (zW x.s) q rfl hnl (by have := zy x.s; omega) HQ0.out hq2 hBS.out sS2
           exact AllReadyH.nil
         exact AllReadyH.nil
       refine AllReadyH.cons rfl (fun K hK => ?_) ?_
       · go_simp
         refine (jg x.b 2 _ wb (by decide) (by decide)).mono ?_; rintro e u ⟨rfl, hu⟩; have hu' := hu.symm; subst hu'; rw [← HPB.out]; go_wp2_with fail; refine hK.out _ _ ?_ (fun hHeld => ?_)
         · (try dsimp only)
           all_goals go_keep
         clear hK K
         try simp only [Act.put, List.setIfInBounds_toArray, List.set_cons_zero, List.set_cons_succ]
         refine wpAnyH_take (i := 13) (v := ?v47) rfl (by kernel_rfl) (by kernel_rfl) (by kernel_rfl) (fun _ _ _ h => h) (Or.inl ⟨by rfl, ?hy47⟩) (by assumption) ?_
         case hy47 =>
            intro w hSw
            (try dsimp only at hSw)
            go_simp
            all_goals with_reducible rfl
         change wpAnyH _ _ _ _ _ _ _ (Act.put _ (some 151) _) _
         try simp only [Act.put, List.setIfInBounds_toArray, List.set_cons_zero, List.set_cons_succ]
         refine wpAnyH_ready (rs := [9]) (by kernel_rfl) (by simp) ?_; refine AllReadyH.cons rfl (fun K hK => ?_) ?_
         · go_simp
           refine hK.out _ _ ?_ (fun hHeld => ?_)
           · (try dsimp only)
             all_goals go_keep
           clear hK K
           try simp only [Act.put, List.setIfInBounds_toArray, List.set_cons_zero, List.set_cons_succ]
           refine wpAnyH_take (i := 14) (v := ?v48) rfl (by kernel_rfl) (by kernel_rfl) (by kernel_rfl) (fun _ _ _ h => h) (Or.inl ⟨by rfl, ?hy48⟩) (by assumption) ?_
           case hy48 =>
            intro w hSw
            (try dsimp only at hSw)
            go_simp
            all_goals with_reducible rfl
           change wpAnyH _ _ _ _ _ _ _ (Act.put _ (some 152) _) _
           try simp only [Act.put, List.setIfInBounds_toArray, List.set_cons_zero, List.set_cons_succ]
           refine wpAnyH_take (i := 15) (v := ?v49) rfl (by kernel_rfl) (by kernel_rfl) (by kernel_rfl) (fun _ _ _ h => h) (Or.inl ⟨by rfl, ?hy49⟩) (by assumption) ?_
           case hy49 =>
            intro w hSw
            (try dsimp only at hSw)
            go_simp
            all_goals with_reducible rfl
           change wpAnyH _ _ _ _ _ _ _ (Act.put _ (some 153) _) _
           try simp only [Act.put, List.setIfInBounds_toArray, List.set_cons_zero, List.set_cons_succ]
           refine wpAnyH_ready (rs := [16]) (by kernel_rfl) (by simp) ?_; refine AllReadyH.cons rfl (fun K hK => ?_) ?_
           · go_simp
             refine hK.out _ _ ?_ (fun hHeld => ?_)
             · (try dsimp only)
               all_goals first | exact ⟨⟨je (jh m1 (by omega)), je (jh m2 (by omega)), je (jh m3 (by omega))⟩, je (jh marr (by omega))⟩ | exact ⟨⟨je (je (jh m1 (by omega))), je (je (jh m2 (by omega))), je (je (jh m3 (by omega)))⟩, je (qt _ _ (by simp [World.setCell]) hnm ha3)⟩
             clear hK K
             try simp only [Act.put, List.setIfInBounds_toArray, List.set_cons_zero, List.set_cons_succ]
             refine wpAnyH_done (by kernel_rfl) ?_ _; go_wp2; refine bodyPost_ret (v := .agg #[.int .i64 9, .int .i64 0, .int .i64 0, .slice (some ⟨wS.heap.size, 0, none⟩) q 2, .slice none 0 0, .bool false, .int .i64 0, .slice none 0 0]) (by simp [results, Tryz.results11, go_sem, *]) rfl ?_; exact TestP.exi1 nm (zW x.s) q rfl hnl (by have := zy x.s; omega) HQ0.out hq2 hBS.out sS2
           exact AllReadyH.nil
         exact AllReadyH.nil
       exact AllReadyH.nil
     exact AllReadyH.nil
   exact AllReadyH.nil
 refine AllReadyH.cons rfl (fun K hK => ?_) ?_
 · go_simp
   refine (jg x.a 3 _ wa (by decide) (by decide)).mono ?_; rintro e u ⟨rfl, hu⟩; have hu' := hu.symm; subst hu'; rw [← HPA.out]; go_wp2_with fail; refine hK.out _ _ ?_ (fun hHeld => ?_)
   · (try dsimp only)
     all_goals go_keep
   clear hK K
   try simp only [Act.put, List.setIfInBounds_toArray, List.set_cons_zero, List.set_cons_succ]
   refine wpAnyH_ready (rs := [0, 8]) (by kernel_rfl) (by simp) ?_; refine AllReadyH.cons rfl (fun K hK => ?_) ?_
   · go_simp
     refine hK.out _ _ ?_ (fun hHeld => ?_)
     · (try dsimp only)
       all_goals go_keep
     clear hK K
     try simp only [Act.put, List.setIfInBounds_toArray, List.set_cons_zero, List.set_cons_succ]
     refine qs (E := fun w' : World => w'.cell? ⟨W.heap.size, pa, none⟩ = some (.string (S nm))) hHeld (by exact vf W hnm ha3) (fun hHeld1 => ?_); clear hHeld; refine wpAnyH_take (i := 4) (v := ?v50) rfl (by kernel_rfl) (by kernel_rfl) (by kernel_rfl) (fun _ _ _ h => h) (Or.inl ⟨by rfl, ?hy50⟩) (by assumption) ?_
     case hy50 =>
        intro w hSw
        (try dsimp only at hSw)
        go_simp
        all_goals with_reducible rfl
     change wpAnyH _ _ _ _ _ _ _ (Act.put _ (some 142) _) _
     try simp only [Act.put, List.setIfInBounds_toArray, List.set_cons_zero, List.set_cons_succ]
     refine wpAnyH_take (i := 5) (v := ?v51) rfl (by kernel_rfl) (by kernel_rfl) (by kernel_rfl) (fun _ _ _ h => h) (Or.inl ⟨by rfl, ?hy51⟩) (by assumption) ?_
     case hy51 =>
        intro w hSw
        (try dsimp only at hSw)
        go_simp
        all_goals with_reducible rfl
     change wpAnyH _ _ _ _ _ _ _ (Act.put _ (some 143) _) _
     try simp only [Act.put, List.setIfInBounds_toArray, List.set_cons_zero, List.set_cons_succ]
     refine wpAnyH_ready (rs := [8]) (by kernel_rfl) (by simp) ?_; refine AllReadyH.cons rfl (fun K hK => ?_) ?_
     · go_simp
       refine (jaj (S x.s) _ HLS.out).mono ?_; rintro e wS ⟨rfl, hbS⟩; rw [HWD.out]; have m1 : wS.cell? ⟨w.heap.size, 1, none⟩ = some (.int .i64 x.a) := jb (by exact je x1) hbS; have m2 : wS.cell? ⟨w.heap.size, 2, none⟩ = some (.int .i64 x.b) := jb (by exact je x2) hbS; have m3 : wS.cell? ⟨w.heap.size, 3, none⟩ = some (.string (S x.s)) := jb (by exact je x3) hbS; have marr : wS.cell? ⟨W.heap.size, pa, none⟩ = some (.string (S nm)) := jb (by exact vf W hnm ha3) hbS; have hTS := hid (jl hbS (by exact jf _ ht.out) (by have := HSZ.out; show w.heap.size + 1 + 1 < (W.heap.push _).size; rw [Array.size_push]; omega)); have hRS := hid (jl hbS (by exact jf _ hr.out) (by have := HSZ.out; show w.heap.size + 1 < (W.heap.push _).size; rw [Array.size_push]; omega)); obtain ⟨b0, b1, b2, b3, b4, b5, b6, b7, c0, c1, c2, c3, c4, c5, c6, c7⟩ := box8 hTS.out; obtain ⟨p0, p1, p2, p3, p4, p5, p6, p7, o0, o1, o2, o3, o4, o5, o6, o7⟩ := box8 hRS.out; have sS0 : w.heap.size < wS.heap.size := World.block_lt_of_cell? wS _ m1; have sS2 : w.heap.size + 1 + 1 < wS.heap.size := World.block_lt_of_cell? wS _ b0; have sS1 : w.heap.size + 1 < wS.heap.size := World.block_lt_of_cell? wS _ p0; have hBS := hid (show Below w.heap.size w wS from ((HB.out.alloc (by have := HSZ.out; omega) _).drew).trans (hbS.mono (by have := HSZ.out; show w.heap.size ≤ (W.heap.push _).size; rw [Array.size_push]; omega))); clear hbS; go_wp2_with fail; refine hK.out _ _ ?_ (fun hHeld => ?_)
       · (try dsimp only)
         all_goals go_keep
       clear hK K
       try simp only [Act.put, List.setIfInBounds_toArray, List.set_cons_zero, List.set_cons_succ]
       refine wpAnyH_ready (rs := [9, 12]) (by kernel_rfl) (by simp) ?_; refine AllReadyH.cons rfl (fun K hK => ?_) ?_
       · go_simp
         refine hK.out _ _ ?_ (fun hHeld => ?_)
         · (try dsimp only)
           all_goals go_keep
         clear hK K
         try simp only [Act.put, List.setIfInBounds_toArray, List.set_cons_zero, List.set_cons_succ]
         refine wpAnyH_ready (rs := [12]) (by kernel_rfl) (by simp) ?_; refine AllReadyH.cons rfl (fun K hK => ?_) ?_
         · go_simp
           refine (jg x.b 2 _ wb (by decide) (by decide)).mono ?_; rintro e u ⟨rfl, hu⟩; have hu' := hu.symm; subst hu'; rw [← HPB.out]; go_wp2_with fail; refine hK.out _ _ ?_ (fun hHeld => ?_)
           · (try dsimp only)
             all_goals go_keep
           clear hK K
           try simp only [Act.put, List.setIfInBounds_toArray, List.set_cons_zero, List.set_cons_succ]
           refine wpAnyH_take (i := 13) (v := ?v52) rfl (by kernel_rfl) (by kernel_rfl) (by kernel_rfl) (fun _ _ _ h => h) (Or.inl ⟨by rfl, ?hy52⟩) (by assumption) ?_
           case hy52 =>
            intro w hSw
            (try dsimp only at hSw)
            go_simp
            all_goals with_reducible rfl
           change wpAnyH _ _ _ _ _ _ _ (Act.put _ (some 151) _) _
           try simp only [Act.put, List.setIfInBounds_toArray, List.set_cons_zero, List.set_cons_succ]
           refine wpAnyH_take (i := 14) (v := ?v53) rfl (by kernel_rfl) (by kernel_rfl) (by kernel_rfl) (fun _ _ _ h => h) (Or.inl ⟨by rfl, ?hy53⟩) (by assumption) ?_
           case hy53 =>
            intro w hSw
            (try dsimp only at hSw)
            go_simp
            all_goals with_reducible rfl
           change wpAnyH _ _ _ _ _ _ _ (Act.put _ (some 152) _) _
           try simp only [Act.put, List.setIfInBounds_toArray, List.set_cons_zero, List.set_cons_succ]
           refine wpAnyH_take (i := 15) (v := ?v54) rfl (by kernel_rfl) (by kernel_rfl) (by kernel_rfl) (fun _ _ _ h => h) (Or.inl ⟨by rfl, ?hy54⟩) (by assumption) ?_
           case hy54 =>
            intro w hSw
            (try dsimp only at hSw)
            go_simp
            all_goals with_reducible rfl
           change wpAnyH _ _ _ _ _ _ _ (Act.put _ (some 153) _) _
           try simp only [Act.put, List.setIfInBounds_toArray, List.set_cons_zero, List.set_cons_succ]
           refine wpAnyH_ready (rs := [16]) (by kernel_rfl) (by simp) ?_; refine AllReadyH.cons rfl (fun K hK => ?_) ?_
           · go_simp
             refine hK.out _ _ ?_ (fun hHeld => ?_)
             · (try dsimp only)
               all_goals first | exact ⟨⟨je (jh m1 (by omega)), je (jh m2 (by omega)), je (jh m3 (by omega))⟩, je (jh marr (by omega))⟩ | exact ⟨⟨je (je (jh m1 (by omega))), je (je (jh m2 (by omega))), je (je (jh m3 (by omega)))⟩, je (qt _ _ (by simp [World.setCell]) hnm ha3)⟩
             clear hK K
             try simp only [Act.put, List.setIfInBounds_toArray, List.set_cons_zero, List.set_cons_succ]
             refine wpAnyH_done (by kernel_rfl) ?_ _; go_wp2; refine bodyPost_ret (v := .agg #[.int .i64 9, .int .i64 0, .int .i64 0, .slice (some ⟨wS.heap.size, 0, none⟩) q 2, .slice none 0 0, .bool false, .int .i64 0, .slice none 0 0]) (by simp [results, Tryz.results11, go_sem, *]) rfl ?_; exact TestP.exi1 nm (zW x.s) q rfl hnl (by have := zy x.s; omega) HQ0.out hq2 hBS.out sS2
           exact AllReadyH.nil
         exact AllReadyH.nil
       refine AllReadyH.cons rfl (fun K hK => ?_) ?_
       · go_simp
         refine (jg x.b 2 _ wb (by decide) (by decide)).mono ?_; rintro e u ⟨rfl, hu⟩; have hu' := hu.symm; subst hu'; rw [← HPB.out]; go_wp2_with fail; refine hK.out _ _ ?_ (fun hHeld => ?_)
         · (try dsimp only)
           all_goals go_keep
         clear hK K
         try simp only [Act.put, List.setIfInBounds_toArray, List.set_cons_zero, List.set_cons_succ]
         refine wpAnyH_take (i := 13) (v := ?v55) rfl (by kernel_rfl) (by kernel_rfl) (by kernel_rfl) (fun _ _ _ h => h) (Or.inl ⟨by rfl, ?hy55⟩) (by assumption) ?_
         case hy55 =>
            intro w hSw
            (try dsimp only at hSw)
            go_simp
            all_goals with_reducible rfl
         change wpAnyH _ _ _ _ _ _ _ (Act.put _ (some 151) _) _
         try simp only [Act.put, List.setIfInBounds_toArray, List.set_cons_zero, List.set_cons_succ]
         refine wpAnyH_ready (rs := [9]) (by kernel_rfl) (by simp) ?_; refine AllReadyH.cons rfl (fun K hK => ?_) ?_
         · go_simp
           refine hK.out _ _ ?_ (fun hHeld => ?_)
           · (try dsimp only)
             all_goals go_keep
           clear hK K
           try simp only [Act.put, List.setIfInBounds_toArray, List.set_cons_zero, List.set_cons_succ]
           refine wpAnyH_take (i := 14) (v := ?v56) rfl (by kernel_rfl) (by kernel_rfl) (by kernel_rfl) (fun _ _ _ h => h) (Or.inl ⟨by rfl, ?hy56⟩) (by assumption) ?_
           case hy56 =>
            intro w hSw
            (try dsimp only at hSw)
            go_simp
            all_goals with_reducible rfl
           change wpAnyH _ _ _ _ _ _ _ (Act.put _ (some 152) _) _
           try simp only [Act.put, List.setIfInBounds_toArray, List.set_cons_zero, List.set_cons_succ]
           refine wpAnyH_take (i := 15) (v := ?v57) rfl (by kernel_rfl) (by kernel_rfl) (by kernel_rfl) (fun _ _ _ h => h) (Or.inl ⟨by rfl, ?hy57⟩) (by assumption) ?_
           case hy57 =>
            intro w hSw
            (try dsimp only at hSw)
            go_simp
            all_goals with_reducible rfl
           change wpAnyH _ _ _ _ _ _ _ (Act.put _ (some 153) _) _
           try simp only [Act.put, List.setIfInBounds_toArray, List.set_cons_zero, List.set_cons_succ]
           refine wpAnyH_ready (rs := [16]) (by kernel_rfl) (by simp) ?_; refine AllReadyH.cons rfl (fun K hK => ?_) ?_
           · go_simp
             refine hK.out _ _ ?_ (fun hHeld => ?_)
             · (try dsimp only)
               all_goals first | exact ⟨⟨je (jh m1 (by omega)), je (jh m2 (by omega)), je (jh m3 (by omega))⟩, je (jh marr (by omega))⟩ | exact ⟨⟨je (je (jh m1 (by omega))), je (je (jh m2 (by omega))), je (je (jh m3 (by omega)))⟩, je (qt _ _ (by simp [World.setCell]) hnm ha3)⟩
             clear hK K
             try simp only [Act.put, List.setIfInBounds_toArray, List.set_cons_zero, List.set_cons_succ]
             refine wpAnyH_done (by kernel_rfl) ?_ _; go_wp2; refine bodyPost_ret (v := .agg #[.int .i64 9, .int .i64 0, .int .i64 0, .slice (some ⟨wS.heap.size, 0, none⟩) q 2, .slice none 0 0, .bool false, .int .i64 0, .slice none 0 0]) (by simp [results, Tryz.results11, go_sem, *]) rfl ?_; exact TestP.exi1 nm (zW x.s) q rfl hnl (by have := zy x.s; omega) HQ0.out hq2 hBS.out sS2
           exact AllReadyH.nil
         exact AllReadyH.nil
       exact AllReadyH.nil
     exact AllReadyH.nil
   refine AllReadyH.cons rfl (fun K hK => ?_) ?_
   · go_simp
     refine (jaj (S x.s) _ HLS.out).mono ?_; rintro e wS ⟨rfl, hbS⟩; rw [HWD.out]; have m1 : wS.cell? ⟨w.heap.size, 1, none⟩ = some (.int .i64 x.a) := jb (by exact x1) hbS; have m2 : wS.cell? ⟨w.heap.size, 2, none⟩ = some (.int .i64 x.b) := jb (by exact x2) hbS; have m3 : wS.cell? ⟨w.heap.size, 3, none⟩ = some (.string (S x.s)) := jb (by exact x3) hbS; have hTS := hid (jl hbS (by exact ht.out) (by have := HSZ.out; show w.heap.size + 1 + 1 < W.heap.size; omega)); have hRS := hid (jl hbS (by exact hr.out) (by have := HSZ.out; show w.heap.size + 1 < W.heap.size; omega)); obtain ⟨b0, b1, b2, b3, b4, b5, b6, b7, c0, c1, c2, c3, c4, c5, c6, c7⟩ := box8 hTS.out; obtain ⟨p0, p1, p2, p3, p4, p5, p6, p7, o0, o1, o2, o3, o4, o5, o6, o7⟩ := box8 hRS.out; have sS0 : w.heap.size < wS.heap.size := World.block_lt_of_cell? wS _ m1; have sS2 : w.heap.size + 1 + 1 < wS.heap.size := World.block_lt_of_cell? wS _ b0; have sS1 : w.heap.size + 1 < wS.heap.size := World.block_lt_of_cell? wS _ p0; have hBS := hid (show Below w.heap.size w wS from HB.out.drew.trans (hbS.mono (by have := HSZ.out; show w.heap.size ≤ W.heap.size; omega))); clear hbS; go_wp2_with fail; refine hK.out _ _ ?_ (fun hHeld => ?_)
     · (try dsimp only)
       all_goals go_keep
     clear hK K
     try simp only [Act.put, List.setIfInBounds_toArray, List.set_cons_zero, List.set_cons_succ]
     refine wpAnyH_ready (rs := [0, 12]) (by kernel_rfl) (by simp) ?_; refine AllReadyH.cons rfl (fun K hK => ?_) ?_
     · go_simp
       refine hK.out _ _ ?_ (fun hHeld => ?_)
       · (try dsimp only)
         all_goals go_keep
       clear hK K
       try simp only [Act.put, List.setIfInBounds_toArray, List.set_cons_zero, List.set_cons_succ]
       refine qs (E := fun w' : World => w'.cell? ⟨wS.heap.size, pa, none⟩ = some (.string (S nm))) hHeld (by exact vf wS hnm ha3) (fun hHeld1 => ?_); clear hHeld; refine wpAnyH_take (i := 4) (v := ?v58) rfl (by kernel_rfl) (by kernel_rfl) (by kernel_rfl) (fun _ _ _ h => h) (Or.inl ⟨by rfl, ?hy58⟩) (by assumption) ?_
       case hy58 =>
        intro w hSw
        (try dsimp only at hSw)
        go_simp
        all_goals with_reducible rfl
       change wpAnyH _ _ _ _ _ _ _ (Act.put _ (some 142) _) _
       try simp only [Act.put, List.setIfInBounds_toArray, List.set_cons_zero, List.set_cons_succ]
       refine wpAnyH_take (i := 5) (v := ?v59) rfl (by kernel_rfl) (by kernel_rfl) (by kernel_rfl) (fun _ _ _ h => h) (Or.inl ⟨by rfl, ?hy59⟩) (by assumption) ?_
       case hy59 =>
        intro w hSw
        (try dsimp only at hSw)
        go_simp
        all_goals with_reducible rfl
       change wpAnyH _ _ _ _ _ _ _ (Act.put _ (some 143) _) _
       try simp only [Act.put, List.setIfInBounds_toArray, List.set_cons_zero, List.set_cons_succ]
       refine wpAnyH_ready (rs := [9, 12]) (by kernel_rfl) (by simp) ?_; refine AllReadyH.cons rfl (fun K hK => ?_) ?_
       · go_simp
         refine hK.out _ _ ?_ (fun hHeld => ?_)
         · (try dsimp only)
           all_goals go_keep
         clear hK K
         try simp only [Act.put, List.setIfInBounds_toArray, List.set_cons_zero, List.set_cons_succ]
         refine wpAnyH_ready (rs := [12]) (by kernel_rfl) (by simp) ?_; refine AllReadyH.cons rfl (fun K hK => ?_) ?_
         · go_simp
           refine (jg x.b 2 _ wb (by decide) (by decide)).mono ?_; rintro e u ⟨rfl, hu⟩; have hu' := hu.symm; subst hu'; rw [← HPB.out]; go_wp2_with fail; refine hK.out _ _ ?_ (fun hHeld => ?_)
           · (try dsimp only)
             all_goals go_keep
           clear hK K
           try simp only [Act.put, List.setIfInBounds_toArray, List.set_cons_zero, List.set_cons_succ]
           refine wpAnyH_take (i := 13) (v := ?v60) rfl (by kernel_rfl) (by kernel_rfl) (by kernel_rfl) (fun _ _ _ h => h) (Or.inl ⟨by rfl, ?hy60⟩) (by assumption) ?_
           case hy60 =>
            intro w hSw
            (try dsimp only at hSw)
            go_simp
            all_goals with_reducible rfl
           change wpAnyH _ _ _ _ _ _ _ (Act.put _ (some 151) _) _
           try simp only [Act.put, List.setIfInBounds_toArray, List.set_cons_zero, List.set_cons_succ]
           refine wpAnyH_take (i := 14) (v := ?v61) rfl (by kernel_rfl) (by kernel_rfl) (by kernel_rfl) (fun _ _ _ h => h) (Or.inl ⟨by rfl, ?hy61⟩) (by assumption) ?_
           case hy61 =>
            intro w hSw
            (try dsimp only at hSw)
            go_simp
            all_goals with_reducible rfl
           change wpAnyH _ _ _ _ _ _ _ (Act.put _ (some 152) _) _
           try simp only [Act.put, List.setIfInBounds_toArray, List.set_cons_zero, List.set_cons_succ]
           refine wpAnyH_take (i := 15) (v := ?v62) rfl (by kernel_rfl) (by kernel_rfl) (by kernel_rfl) (fun _ _ _ h => h) (Or.inl ⟨by rfl, ?hy62⟩) (by assumption) ?_
           case hy62 =>
            intro w hSw
            (try dsimp only at hSw)
            go_simp
            all_goals with_reducible rfl
           change wpAnyH _ _ _ _ _ _ _ (Act.put _ (some 153) _) _
           try simp only [Act.put, List.setIfInBounds_toArray, List.set_cons_zero, List.set_cons_succ]
           refine wpAnyH_ready (rs := [16]) (by kernel_rfl) (by simp) ?_; refine AllReadyH.cons rfl (fun K hK => ?_) ?_
           · go_simp
             refine hK.out _ _ ?_ (fun hHeld => ?_)
             · (try dsimp only)
               all_goals first | exact ⟨⟨je (jh m1 (by omega)), je (jh m2 (by omega)), je (jh m3 (by omega))⟩, je (jh marr (by omega))⟩ | exact ⟨⟨je (je (jh m1 (by omega))), je (je (jh m2 (by omega))), je (je (jh m3 (by omega)))⟩, je (qt _ _ (by simp [World.setCell]) hnm ha3)⟩
             clear hK K
             try simp only [Act.put, List.setIfInBounds_toArray, List.set_cons_zero, List.set_cons_succ]
             refine wpAnyH_done (by kernel_rfl) ?_ _; go_wp2; refine bodyPost_ret (v := .agg #[.int .i64 9, .int .i64 0, .int .i64 0, .slice (some ⟨wS.heap.size + 1, 0, none⟩) q 2, .slice none 0 0, .bool false, .int .i64 0, .slice none 0 0]) (by simp [results, Tryz.results11, go_sem, *]) rfl ?_; exact TestP.exi2 nm (zW x.s) q rfl hnl (by have := zy x.s; omega) HQ0.out hq2 hBS.out sS2
           exact AllReadyH.nil
         exact AllReadyH.nil
       refine AllReadyH.cons rfl (fun K hK => ?_) ?_
       · go_simp
         refine (jg x.b 2 _ wb (by decide) (by decide)).mono ?_; rintro e u ⟨rfl, hu⟩; have hu' := hu.symm; subst hu'; rw [← HPB.out]; go_wp2_with fail; refine hK.out _ _ ?_ (fun hHeld => ?_)
         · (try dsimp only)
           all_goals go_keep
         clear hK K
         try simp only [Act.put, List.setIfInBounds_toArray, List.set_cons_zero, List.set_cons_succ]
         refine wpAnyH_take (i := 13) (v := ?v63) rfl (by kernel_rfl) (by kernel_rfl) (by kernel_rfl) (fun _ _ _ h => h) (Or.inl ⟨by rfl, ?hy63⟩) (by assumption) ?_
         case hy63 =>
            intro w hSw
            (try dsimp only at hSw)
            go_simp
            all_goals with_reducible rfl
         change wpAnyH _ _ _ _ _ _ _ (Act.put _ (some 151) _) _
         try simp only [Act.put, List.setIfInBounds_toArray, List.set_cons_zero, List.set_cons_succ]
         refine wpAnyH_ready (rs := [9]) (by kernel_rfl) (by simp) ?_; refine AllReadyH.cons rfl (fun K hK => ?_) ?_
         · go_simp
           refine hK.out _ _ ?_ (fun hHeld => ?_)
           · (try dsimp only)
             all_goals go_keep
           clear hK K
           try simp only [Act.put, List.setIfInBounds_toArray, List.set_cons_zero, List.set_cons_succ]
           refine wpAnyH_take (i := 14) (v := ?v64) rfl (by kernel_rfl) (by kernel_rfl) (by kernel_rfl) (fun _ _ _ h => h) (Or.inl ⟨by rfl, ?hy64⟩) (by assumption) ?_
           case hy64 =>
            intro w hSw
            (try dsimp only at hSw)
            go_simp
            all_goals with_reducible rfl
           change wpAnyH _ _ _ _ _ _ _ (Act.put _ (some 152) _) _
           try simp only [Act.put, List.setIfInBounds_toArray, List.set_cons_zero, List.set_cons_succ]
           refine wpAnyH_take (i := 15) (v := ?v65) rfl (by kernel_rfl) (by kernel_rfl) (by kernel_rfl) (fun _ _ _ h => h) (Or.inl ⟨by rfl, ?hy65⟩) (by assumption) ?_
           case hy65 =>
            intro w hSw
            (try dsimp only at hSw)
            go_simp
            all_goals with_reducible rfl
           change wpAnyH _ _ _ _ _ _ _ (Act.put _ (some 153) _) _
           try simp only [Act.put, List.setIfInBounds_toArray, List.set_cons_zero, List.set_cons_succ]
           refine wpAnyH_ready (rs := [16]) (by kernel_rfl) (by simp) ?_; refine AllReadyH.cons rfl (fun K hK => ?_) ?_
           · go_simp
             refine hK.out _ _ ?_ (fun hHeld => ?_)
             · (try dsimp only)
               all_goals first | exact ⟨⟨je (jh m1 (by omega)), je (jh m2 (by omega)), je (jh m3 (by omega))⟩, je (jh marr (by omega))⟩ | exact ⟨⟨je (je (jh m1 (by omega))), je (je (jh m2 (by omega))), je (je (jh m3 (by omega)))⟩, je (qt _ _ (by simp [World.setCell]) hnm ha3)⟩
             clear hK K
             try simp only [Act.put, List.setIfInBounds_toArray, List.set_cons_zero, List.set_cons_succ]
             refine wpAnyH_done (by kernel_rfl) ?_ _; go_wp2; refine bodyPost_ret (v := .agg #[.int .i64 9, .int .i64 0, .int .i64 0, .slice (some ⟨wS.heap.size + 1, 0, none⟩) q 2, .slice none 0 0, .bool false, .int .i64 0, .slice none 0 0]) (by simp [results, Tryz.results11, go_sem, *]) rfl ?_; exact TestP.exi2 nm (zW x.s) q rfl hnl (by have := zy x.s; omega) HQ0.out hq2 hBS.out sS2
           exact AllReadyH.nil
         exact AllReadyH.nil
       exact AllReadyH.nil
     refine AllReadyH.cons rfl (fun K hK => ?_) ?_
     · go_simp
       refine (jg x.b 2 _ wb (by decide) (by decide)).mono ?_; rintro e u ⟨rfl, hu⟩; have hu' := hu.symm; subst hu'; rw [← HPB.out]; go_wp2_with fail; refine hK.out _ _ ?_ (fun hHeld => ?_)
       · (try dsimp only)
         all_goals go_keep
       clear hK K
       try simp only [Act.put, List.setIfInBounds_toArray, List.set_cons_zero, List.set_cons_succ]
       refine wpAnyH_take (i := 13) (v := ?v66) rfl (by kernel_rfl) (by kernel_rfl) (by kernel_rfl) (fun _ _ _ h => h) (Or.inl ⟨by rfl, ?hy66⟩) (by assumption) ?_
       case hy66 =>
        intro w hSw
        (try dsimp only at hSw)
        go_simp
        all_goals with_reducible rfl
       change wpAnyH _ _ _ _ _ _ _ (Act.put _ (some 151) _) _
       try simp only [Act.put, List.setIfInBounds_toArray, List.set_cons_zero, List.set_cons_succ]
       refine wpAnyH_ready (rs := [0]) (by kernel_rfl) (by simp) ?_; refine AllReadyH.cons rfl (fun K hK => ?_) ?_
       · go_simp
         refine hK.out _ _ ?_ (fun hHeld => ?_)
         · (try dsimp only)
           all_goals go_keep
         clear hK K
         try simp only [Act.put, List.setIfInBounds_toArray, List.set_cons_zero, List.set_cons_succ]
         refine qs (E := fun w' : World => w'.cell? ⟨wS.heap.size, pa, none⟩ = some (.string (S nm))) hHeld (by exact vf wS hnm ha3) (fun hHeld1 => ?_); clear hHeld; refine wpAnyH_take (i := 4) (v := ?v67) rfl (by kernel_rfl) (by kernel_rfl) (by kernel_rfl) (fun _ _ _ h => h) (Or.inl ⟨by rfl, ?hy67⟩) (by assumption) ?_
         case hy67 =>
            intro w hSw
            (try dsimp only at hSw)
            go_simp
            all_goals with_reducible rfl
         change wpAnyH _ _ _ _ _ _ _ (Act.put _ (some 142) _) _
         try simp only [Act.put, List.setIfInBounds_toArray, List.set_cons_zero, List.set_cons_succ]
         refine wpAnyH_take (i := 5) (v := ?v68) rfl (by kernel_rfl) (by kernel_rfl) (by kernel_rfl) (fun _ _ _ h => h) (Or.inl ⟨by rfl, ?hy68⟩) (by assumption) ?_
         case hy68 =>
            intro w hSw
            (try dsimp only at hSw)
            go_simp
            all_goals with_reducible rfl
         change wpAnyH _ _ _ _ _ _ _ (Act.put _ (some 143) _) _
         try simp only [Act.put, List.setIfInBounds_toArray, List.set_cons_zero, List.set_cons_succ]
         refine wpAnyH_ready (rs := [9]) (by kernel_rfl) (by simp) ?_; refine AllReadyH.cons rfl (fun K hK => ?_) ?_
         · go_simp
           refine hK.out _ _ ?_ (fun hHeld => ?_)
           · (try dsimp only)
             all_goals go_keep
           clear hK K
           try simp only [Act.put, List.setIfInBounds_toArray, List.set_cons_zero, List.set_cons_succ]
           refine wpAnyH_take (i := 14) (v := ?v69) rfl (by kernel_rfl) (by kernel_rfl) (by kernel_rfl) (fun _ _ _ h => h) (Or.inl ⟨by rfl, ?hy69⟩) (by assumption) ?_
           case hy69 =>
            intro w hSw
            (try dsimp only at hSw)
            go_simp
            all_goals with_reducible rfl
           change wpAnyH _ _ _ _ _ _ _ (Act.put _ (some 152) _) _
           try simp only [Act.put, List.setIfInBounds_toArray, List.set_cons_zero, List.set_cons_succ]
           refine wpAnyH_take (i := 15) (v := ?v70) rfl (by kernel_rfl) (by kernel_rfl) (by kernel_rfl) (fun _ _ _ h => h) (Or.inl ⟨by rfl, ?hy70⟩) (by assumption) ?_
           case hy70 =>
            intro w hSw
            (try dsimp only at hSw)
            go_simp
            all_goals with_reducible rfl
           change wpAnyH _ _ _ _ _ _ _ (Act.put _ (some 153) _) _
           try simp only [Act.put, List.setIfInBounds_toArray, List.set_cons_zero, List.set_cons_succ]
           refine wpAnyH_ready (rs := [16]) (by kernel_rfl) (by simp) ?_; refine AllReadyH.cons rfl (fun K hK => ?_) ?_
           · go_simp
             refine hK.out _ _ ?_ (fun hHeld => ?_)
             · (try dsimp only)
               all_goals first | exact ⟨⟨je (jh m1 (by omega)), je (jh m2 (by omega)), je (jh m3 (by omega))⟩, je (jh marr (by omega))⟩ | exact ⟨⟨je (je (jh m1 (by omega))), je (je (jh m2 (by omega))), je (je (jh m3 (by omega)))⟩, je (qt _ _ (by simp [World.setCell]) hnm ha3)⟩
             clear hK K
             try simp only [Act.put, List.setIfInBounds_toArray, List.set_cons_zero, List.set_cons_succ]
             refine wpAnyH_done (by kernel_rfl) ?_ _; go_wp2; refine bodyPost_ret (v := .agg #[.int .i64 9, .int .i64 0, .int .i64 0, .slice (some ⟨wS.heap.size + 1, 0, none⟩) q 2, .slice none 0 0, .bool false, .int .i64 0, .slice none 0 0]) (by simp [results, Tryz.results11, go_sem, *]) rfl ?_; exact TestP.exi2 nm (zW x.s) q rfl hnl (by have := zy x.s; omega) HQ0.out hq2 hBS.out sS2
           exact AllReadyH.nil
         exact AllReadyH.nil
       exact AllReadyH.nil
     exact AllReadyH.nil
   exact AllReadyH.nil
 exact AllReadyH.nil
theorem jjt (d m : Nat) (hm : 0 < m) (ih : d < 3 → TestC (d + 1) m) : TestC d (m + 1) := by
 intro n x cs w h; cases n with
 | zero => exact h.elim
 | succ n =>
 have hp := jz x.kind 10 (by omega); have hc : jB x.kind 10 = 0 ∨ jB x.kind 10 = 1 ∨ jB x.kind 10 = 2 ∨ jB x.kind 10 = 3 ∨ jB x.kind 10 = 4 ∨ jB x.kind 10 = 5 ∨ jB x.kind 10 = 6 ∨ jB x.kind 10 = 7 ∨ jB x.kind 10 = 8 ∨ jB x.kind 10 = 9 := by omega
 by_cases hd : d < 3
 · rcases hc with h' | h' | h' | h' | h' | h' | h' | h' | h' | h'
   · exact jch d m n x cs w h h'
   · exact jbd d m n x cs w h h'
   · exact jlc d m n x cs w h h' hd (ih hd)
   · exact jlb d m n x cs w h h' hd hm (ih hd)
   · exact jjs d m n x cs w h h' hd hm (ih hd)
   · exact jdC d m n x cs w h h'
   · exact jdz d m n x cs w h h'
   · exact jdA d m n x cs w h h'
   · exact jdB d m n x cs w h h'
   · exact jcg d m n x cs w h h'
 · rcases hc with h' | h' | h' | h' | h' | h' | h' | h' | h' | h'
   · exact jch d m n x cs w h h'
   · exact jbd d m n x cs w h h'
   · exact jcY d m n x cs w h h' hd
   · exact jcZ d m n x cs w h h' hd
   · exact jc0 d m n x cs w h h' hd
   · exact jdC d m n x cs w h h'
   · exact jdz d m n x cs w h h'
   · exact jdA d m n x cs w h h'
   · exact jdB d m n x cs w h h'
   · exact jcg d m n x cs w h h'
theorem jn5 : TestC 3 1 := by
 intro n x cs w h; cases n with
 | zero => exact h.elim
 | succ n =>
 have hp := jz x.kind 10 (by omega); have hd : ¬ 3 < 3 := by omega
 have hc : jB x.kind 10 = 0 ∨ jB x.kind 10 = 1 ∨ jB x.kind 10 = 2 ∨ jB x.kind 10 = 3 ∨ jB x.kind 10 = 4 ∨ jB x.kind 10 = 5 ∨ jB x.kind 10 = 6 ∨ jB x.kind 10 = 7 ∨ jB x.kind 10 = 8 ∨ jB x.kind 10 = 9 := by omega
 rcases hc with h' | h' | h' | h' | h' | h' | h' | h' | h' | h'
 · exact jch 3 0 n x cs w h h'
 · exact jbd 3 0 n x cs w h h'
 · exact jcY 3 0 n x cs w h h' hd
 · exact jcZ 3 0 n x cs w h h' hd
 · exact jc0 3 0 n x cs w h h' hd
 · exact jdC 3 0 n x cs w h h'
 · exact jdz 3 0 n x cs w h h'
 · exact jdA 3 0 n x cs w h h'
 · exact jdB 3 0 n x cs w h h'
 · exact jcg 3 0 n x cs w h h'
theorem jn4 : TestC 2 2 := jjt 2 1 (by omega) fun _ => jn5
theorem test1 : TestC 1 3 := jjt 1 2 (by omega) fun _ => jn4
end Go.Proofs.YtaapmpchcfcniaaGreatDoor
