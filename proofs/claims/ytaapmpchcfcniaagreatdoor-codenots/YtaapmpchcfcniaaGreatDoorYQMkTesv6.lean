/-
  What the laws' maker of tests does, where it asks for fields; all of it: the walks.
  What the laws' makers of commands do: the walks.
  Scripts of the laws, judged: plain facts.
  Scripts that are refused, scripts that stop: plain facts; what judge.Judge does with a script that is refused: the walk.
  What the laws of the layer of scripts want besides their walks: what the table of words holds.
  What the table of flags holds, from what a row lays.
  What the laws of rules and of courses want besides their walks: what the tables of script and of rule hold.
-/
import Derived.Test.YtaapmpchcfcniaaGreatDoorYQCodRp3
import Derived.Test.YtaapmpchcfcniaaGreatDoorYMkTesu
import Derived.Deep.DeepCutAuto
import Derived.Test.YtaapmpchcfcniaaGreatDoorYScrCk
import Derived.Test.YtaapmpchcfcniaaGreatDoorYRowGw
import Derived.Test.YtaapmpchcfcniaaGreatDoorYQCodPur6
import Derived.Test.YtaapmpchcfcniaaGreatDoorYQJudCrs5
import Derived.Test.YtaapmpchcfcniaaGreatDoorYQMkTest6
import Derived.Test.YtaapmpchcfcniaaGreatDoorYQJudChk5
import Derived.Test.YtaapmpchcfcniaaGreatDoorYQCodFit7
import Derived.Test.YtaapmpchcfcniaaGreatDoorYQAppCmd6
import Derived.Test.YtaapmpchcfcniaaGreatDoorCards
import Derived.Test.YtaapmpchcfcniaaGreatDoorTie
import Derived.WalkKit
import Derived.ProofKit
import Derived.OpenShut
import Derived.ChangeOld
import Derived.Below
import Derived.Deep.DeepHandedRow
import Derived.Lib.LaidTab
import Derived.LaidSub
import Derived.Test.YtaapmpchcfcniaaGreatDoorYRulCs
namespace Go.Proofs.YtaapmpchcfcniaaGreatDoor
open Go.RowKit Go.Proofs
set_option maxHeartbeats 8000000 in
set_option maxRecDepth 100000 in
theorem jkj (d m n : Nat) (x : Stk) (cs : List Value) (w : World) (h : StkM (n + 1) w x cs) (hp : jR x.kind 10 = 8) :
    Calls Tryz.prog 11 #[.agg cs.toArray, .int .i64 d] w (TestP (m + 1) w) := by
  obtain ⟨ai, ci, rfl, wk, wa, wb, ls, lt, hic, hcm, hR⟩ := h; clear hR; obtain ⟨pa, hpa⟩ : ∃ pa, pa = jR x.a 3 := ⟨_, rfl⟩; have ha3 : pa < 3 := by rw [hpa]; exact jT _ _ (by omega)
  obtain ⟨pb, hpb⟩ : ∃ pb, pb = jR x.b 2 := ⟨_, rfl⟩; have hb2 : pb < 2 := by rw [hpb]; exact jT _ _ (by omega)
  have HPA := hid hpa; have HPB := hid hpb; have HLS := hid (show (S x.s).size ≤ maxLen by rw [jt]; exact ls); have HWD := hid (show zN (S x.s).data.toList = zN x.s by rw [jp]); obtain ⟨nm, hnm, hnl⟩ := jmh ha3; have ja : (pa : Int) < 3 := by omega
  have ja0 : (0 : Int) ≤ (pa : Int) := by omega
  obtain ⟨q, hq⟩ : ∃ q : Nat, q = pb + 1 := ⟨_, rfl⟩; have hwb : IntKind.i64.wrap (1 + (pb : Int)) = (q : Int) := by rw [IntKind.wrap_i64]; omega
  have jq : (q : Int) ≤ 2 := by omega
  have jq0 : (0 : Int) ≤ (q : Int) := by omega
  have hq2 : q ≤ 2 := by omega
  have HQ0 := hid (show 0 < q by omega); clear hpa hpb hq; go_enter Tryz.func11, Tryz.ntmps11; go_wp2_with fail; refine (jm x.kind 10 _ wk (by omega) (by omega)).mono ?_; rintro e w1 ⟨rfl, rfl⟩; rw [hp]; go_upto_region 2 with fail
  go_cut [23] (fun v wx => v = .bool false ∧ wx = (w.alloc (.cells #[.int .i64 x.kind, .int .i64 x.a, .int .i64 x.b, .string (S x.s), .string (S x.t), .slice ai x.ins.length ci] 50)).alloc (.cells #[.int .i64 0, .int .i64 0, .int .i64 0, .slice none 0 0, .slice none 0 0, .bool false, .int .i64 0, .slice none 0 0] 54))
  case first =>
    by_cases hd : d < 3
    · have d1 : ¬ (3 : Int) ≤ (d : Int) := by omega
      go_wp2_with fail
      go_meet
      exact ⟨by first | rfl | simp, rfl⟩
    · have d1 : (3 : Int) ≤ (d : Int) := by omega
      go_wp2_with fail
      go_meet
      exact ⟨by first | rfl | simp, rfl⟩
  obtain ⟨rfl, hwc⟩ := hcut; rw [hwc]; clear hwc; obtain ⟨W, hW⟩ : ∃ W, W = ((w.alloc (.cells #[.int .i64 x.kind, .int .i64 x.a, .int .i64 x.b, .string (S x.s), .string (S x.t), .slice ai x.ins.length ci] 50)).alloc (.cells #[.int .i64 0, .int .i64 0, .int .i64 0, .slice none 0 0, .slice none 0 0, .bool false, .int .i64 0, .slice none 0 0] 54)).alloc (.cells #[.int .i64 9, .int .i64 0, .int .i64 0, .slice none 0 0, .slice none 0 0, .bool false, .int .i64 0, .slice none 0 0] 54) := ⟨_, rfl⟩; have HWE := hid hW; have hx := hid (show W.heap[w.heap.size]? = some (.cells #[.int .i64 x.kind, .int .i64 x.a, .int .i64 x.b, .string (S x.s), .string (S x.t), .slice ai x.ins.length ci] 50) by rw [hW]; exact jf _ (jf _ (jy _ rfl))); have hr := hid (show W.heap[w.heap.size + 1]? = some (.cells #[.int .i64 0, .int .i64 0, .int .i64 0, .slice none 0 0, .slice none 0 0, .bool false, .int .i64 0, .slice none 0 0] 54) by rw [hW]; exact jf _ (jy _ (by simp))); have ht := hid (show W.heap[w.heap.size + 1 + 1]? = some (.cells #[.int .i64 9, .int .i64 0, .int .i64 0, .slice none 0 0, .slice none 0 0, .bool false, .int .i64 0, .slice none 0 0] 54) by rw [hW]; exact jy _ (by simp)); have HSZ := hid (show W.heap.size = w.heap.size + 3 by rw [hW]; simp); have HB := hid (show Below w.heap.size w W by rw [hW]; exact (((Below.refl _ _).alloc (Nat.le_refl _) _).alloc (by simp) _).alloc (by simp; omega) _); obtain ⟨x0, x1, x2, x3, x4, x5⟩ := jjD hx.out; obtain ⟨u0, u1, u2, u3, u4, u5, u6, u7, v0, v1, v2, v3, v4, v5, v6, v7⟩ := box8 ht.out; have lt2 : w.heap.size + 1 + 1 < W.heap.size := by have := HSZ.out; omega
  have lt0 : w.heap.size < W.heap.size := by omega
  clear hW; go_wp2; rw [← HWE.out]; refine wp_region_held_drew (S := fun w' => w'.cell? ⟨w.heap.size, 1, none⟩ = some (.int .i64 x.a) ∧ w'.cell? ⟨w.heap.size, 2, none⟩ = some (.int .i64 x.b) ∧ w'.cell? ⟨w.heap.size, 3, none⟩ = some (.string (S x.s))) (by kernel_rfl) ?_ (fun hHeld => ?_)
  · exact ⟨x1, x2, x3⟩
  refine wpAnyH_take (i := 1) (v := ?v36) rfl (by kernel_rfl) (by kernel_rfl) (by kernel_rfl) (fun _ _ _ h => h) (Or.inl ⟨by rfl, ?hy36⟩) (by assumption) ?_
  case hy36 =>
    intro w hSw
    (try dsimp only at hSw)
    go_simp
    all_goals with_reducible rfl
  change wpAnyH _ _ _ _ _ _ _ (Act.put _ (some 139) _) _
  try simp only [Act.put, List.setIfInBounds_toArray, List.set_cons_zero, List.set_cons_succ]
  refine wpAnyH_take (i := 2) (v := ?v37) rfl (by kernel_rfl) (by kernel_rfl) (by kernel_rfl) (fun _ _ _ h => h) (Or.inl ⟨by rfl, ?hy37⟩) (by assumption) ?_
  case hy37 =>
    intro w hSw
    (try dsimp only at hSw)
    go_simp
    all_goals with_reducible rfl
  change wpAnyH _ _ _ _ _ _ _ (Act.put _ (some 140) _) _
  try simp only [Act.put, List.setIfInBounds_toArray, List.set_cons_zero, List.set_cons_succ]
  refine wpAnyH_take (i := 6) (v := ?v38) rfl (by kernel_rfl) (by kernel_rfl) (by kernel_rfl) (fun _ _ _ h => h) (Or.inl ⟨by rfl, ?hy38⟩) (by assumption) ?_
  case hy38 =>
    intro w hSw
    (try dsimp only at hSw)
    go_simp
    all_goals with_reducible rfl
  change wpAnyH _ _ _ _ _ _ _ (Act.put _ (some 144) _) _
  try simp only [Act.put, List.setIfInBounds_toArray, List.set_cons_zero, List.set_cons_succ]
  refine wpAnyH_take (i := 7) (v := ?v39) rfl (by kernel_rfl) (by kernel_rfl) (by kernel_rfl) (fun _ _ _ h => h) (Or.inl ⟨by rfl, ?hy39⟩) (by assumption) ?_
  case hy39 =>
    intro w hSw
    (try dsimp only at hSw)
    go_simp
    all_goals with_reducible rfl
  change wpAnyH _ _ _ _ _ _ _ (Act.put _ (some 145) _) _
  try simp only [Act.put, List.setIfInBounds_toArray, List.set_cons_zero, List.set_cons_succ]
  refine wpAnyH_take (i := 10) (v := ?v40) rfl (by kernel_rfl) (by kernel_rfl) (by kernel_rfl) (fun _ _ _ h => h) (Or.inl ⟨by rfl, ?hy40⟩) (by assumption) ?_
  case hy40 =>
    intro w hSw
    (try dsimp only at hSw)
    go_simp
    all_goals with_reducible rfl
  change wpAnyH _ _ _ _ _ _ _ (Act.put _ (some 148) _) _
  try simp only [Act.put, List.setIfInBounds_toArray, List.set_cons_zero, List.set_cons_succ]
  refine wpAnyH_take (i := 11) (v := ?v41) rfl (by kernel_rfl) (by kernel_rfl) (by kernel_rfl) (fun _ _ _ h => h) (Or.inl ⟨by rfl, ?hy41⟩) (by assumption) ?_
  case hy41 =>
    intro w hSw
    (try dsimp only at hSw)
    go_simp
    all_goals with_reducible rfl
  change wpAnyH _ _ _ _ _ _ _ (Act.put _ (some 149) _) _
  try simp only [Act.put, List.setIfInBounds_toArray, List.set_cons_zero, List.set_cons_succ]
  refine wpAnyH_ready (rs := [0, 3]) (by kernel_rfl) (by simp) ?_; refine AllReadyH.cons rfl (fun K hK => ?_) ?_
  · go_simp
    refine hK.out _ _ ?_ (fun hHeld => ?_)
    · (try dsimp only)
      all_goals go_keep
    clear hK K
    try simp only [Act.put, List.setIfInBounds_toArray, List.set_cons_zero, List.set_cons_succ]
    refine qh (E := fun w' : World => w'.cell? ⟨W.heap.size, pa, none⟩ = some (.string (S nm))) hHeld (by exact qS W hnm ha3) (fun hHeld1 => ?_); clear hHeld; refine wpAnyH_ready (rs := [3]) (by kernel_rfl) (by simp) ?_; refine AllReadyH.cons rfl (fun K hK => ?_) ?_
    · go_simp
      refine (jm x.a 3 _ wa (by decide) (by decide)).mono ?_; rintro e u ⟨rfl, hu⟩; have hu' := hu.symm; subst hu'; rw [← HPA.out]; go_wp2_with fail; refine hK.out _ _ ?_ (fun hHeld => ?_)
      · (try dsimp only)
        all_goals go_keep
      clear hK K
      try simp only [Act.put, List.setIfInBounds_toArray, List.set_cons_zero, List.set_cons_succ]
      refine wpAnyH_take (i := 4) (v := ?v42) rfl (by kernel_rfl) (by kernel_rfl) (by kernel_rfl) (fun _ _ _ h => h) (Or.inl ⟨by rfl, ?hy42⟩) (by assumption) ?_
      case hy42 =>
        intro w hSw
        (try dsimp only at hSw)
        go_simp
        all_goals with_reducible rfl
      change wpAnyH _ _ _ _ _ _ _ (Act.put _ (some 142) _) _
      try simp only [Act.put, List.setIfInBounds_toArray, List.set_cons_zero, List.set_cons_succ]
      refine wpAnyH_take (i := 5) (v := ?v43) rfl (by kernel_rfl) (by kernel_rfl) (by kernel_rfl) (fun _ _ _ h => h) (Or.inl ⟨by rfl, ?hy43⟩) (by assumption) ?_
      case hy43 =>
        intro w hSw
        (try dsimp only at hSw)
        go_simp
        all_goals with_reducible rfl
      change wpAnyH _ _ _ _ _ _ _ (Act.put _ (some 143) _) _
      try simp only [Act.put, List.setIfInBounds_toArray, List.set_cons_zero, List.set_cons_succ]
      refine wpAnyH_ready (rs := [8]) (by kernel_rfl) (by simp) ?_; refine AllReadyH.cons rfl (fun K hK => ?_) ?_
      · go_simp
        refine (vS (S x.s) _ HLS.out).mono ?_; rintro e wS ⟨rfl, hbS⟩; rw [HWD.out]; have m1 : wS.cell? ⟨w.heap.size, 1, none⟩ = some (.int .i64 x.a) := jb (by exact jd x1) hbS; have m2 : wS.cell? ⟨w.heap.size, 2, none⟩ = some (.int .i64 x.b) := jb (by exact jd x2) hbS; have m3 : wS.cell? ⟨w.heap.size, 3, none⟩ = some (.string (S x.s)) := jb (by exact jd x3) hbS; have marr : wS.cell? ⟨W.heap.size, pa, none⟩ = some (.string (S nm)) := jb (by exact qS W hnm ha3) hbS; have hTS := hid (qi hbS (by exact jf _ ht.out) (by have := HSZ.out; show w.heap.size + 1 + 1 < (W.heap.push _).size; rw [Array.size_push]; omega)); have hRS := hid (qi hbS (by exact jf _ hr.out) (by have := HSZ.out; show w.heap.size + 1 < (W.heap.push _).size; rw [Array.size_push]; omega)); obtain ⟨b0, b1, b2, b3, b4, b5, b6, b7, c0, c1, c2, c3, c4, c5, c6, c7⟩ := box8 hTS.out; obtain ⟨p0, p1, p2, p3, p4, p5, p6, p7, o0, o1, o2, o3, o4, o5, o6, o7⟩ := box8 hRS.out; have sS0 : w.heap.size < wS.heap.size := World.block_lt_of_cell? wS _ m1; have sS2 : w.heap.size + 1 + 1 < wS.heap.size := World.block_lt_of_cell? wS _ b0; have sS1 : w.heap.size + 1 < wS.heap.size := World.block_lt_of_cell? wS _ p0; have hBS := hid (show Below w.heap.size w wS from ((HB.out.alloc (by have := HSZ.out; omega) _).drew).trans (hbS.mono (by have := HSZ.out; show w.heap.size ≤ (W.heap.push _).size; rw [Array.size_push]; omega))); clear hbS; go_wp2_with fail; refine hK.out _ _ ?_ (fun hHeld => ?_)
        · (try dsimp only)
          all_goals go_keep
        clear hK K
        try simp only [Act.put, List.setIfInBounds_toArray, List.set_cons_zero, List.set_cons_succ]
        refine wpAnyH_ready (rs := [9, 12]) (by kernel_rfl) (by simp) ?_; refine AllReadyH.cons rfl (fun K hK => ?_) ?_
        · go_simp
          refine hK.out _ _ ?_ (fun hHeld => ?_)
          · (try dsimp only)
            all_goals go_keep
          clear hK K
          try simp only [Act.put, List.setIfInBounds_toArray, List.set_cons_zero, List.set_cons_succ]
          refine wpAnyH_ready (rs := [12]) (by kernel_rfl) (by simp) ?_; refine AllReadyH.cons rfl (fun K hK => ?_) ?_
          · go_simp
            refine (jm x.b 2 _ wb (by decide) (by decide)).mono ?_; rintro e u ⟨rfl, hu⟩; have hu' := hu.symm; subst hu'; rw [← HPB.out]; go_wp2_with fail; refine hK.out _ _ ?_ (fun hHeld => ?_)
            · (try dsimp only)
              all_goals go_keep
            clear hK K
            try simp only [Act.put, List.setIfInBounds_toArray, List.set_cons_zero, List.set_cons_succ]
            refine wpAnyH_take (i := 13) (v := ?v44) rfl (by kernel_rfl) (by kernel_rfl) (by kernel_rfl) (fun _ _ _ h => h) (Or.inl ⟨by rfl, ?hy44⟩) (by assumption) ?_
            case hy44 =>
              intro w hSw
              (try dsimp only at hSw)
              go_simp
              all_goals with_reducible rfl
            change wpAnyH _ _ _ _ _ _ _ (Act.put _ (some 151) _) _
            try simp only [Act.put, List.setIfInBounds_toArray, List.set_cons_zero, List.set_cons_succ]
            refine wpAnyH_take (i := 14) (v := ?v45) rfl (by kernel_rfl) (by kernel_rfl) (by kernel_rfl) (fun _ _ _ h => h) (Or.inl ⟨by rfl, ?hy45⟩) (by assumption) ?_
            case hy45 =>
              intro w hSw
              (try dsimp only at hSw)
              go_simp
              all_goals with_reducible rfl
            change wpAnyH _ _ _ _ _ _ _ (Act.put _ (some 152) _) _
            try simp only [Act.put, List.setIfInBounds_toArray, List.set_cons_zero, List.set_cons_succ]
            refine wpAnyH_take (i := 15) (v := ?v46) rfl (by kernel_rfl) (by kernel_rfl) (by kernel_rfl) (fun _ _ _ h => h) (Or.inl ⟨by rfl, ?hy46⟩) (by assumption) ?_
            case hy46 =>
              intro w hSw
              (try dsimp only at hSw)
              go_simp
              all_goals with_reducible rfl
            change wpAnyH _ _ _ _ _ _ _ (Act.put _ (some 153) _) _
            try simp only [Act.put, List.setIfInBounds_toArray, List.set_cons_zero, List.set_cons_succ]
            refine wpAnyH_ready (rs := [16]) (by kernel_rfl) (by simp) ?_; refine AllReadyH.cons rfl (fun K hK => ?_) ?_
            · go_simp
              refine hK.out _ _ ?_ (fun hHeld => ?_)
              · (try dsimp only)
                all_goals first | exact ⟨⟨jd (jh m1 (by omega)), jd (jh m2 (by omega)), jd (jh m3 (by omega))⟩, jd (jh marr (by omega))⟩ | exact ⟨⟨jd (jd (jh m1 (by omega))), jd (jd (jh m2 (by omega))), jd (jd (jh m3 (by omega)))⟩, jd (qj _ _ (by simp [World.setCell]) hnm ha3)⟩
              clear hK K
              try simp only [Act.put, List.setIfInBounds_toArray, List.set_cons_zero, List.set_cons_succ]
              refine wpAnyH_done (by kernel_rfl) ?_ _; go_wp2; refine bodyPost_ret (v := .agg #[.int .i64 9, .int .i64 0, .int .i64 0, .slice (some ⟨wS.heap.size, 0, none⟩) q 2, .slice none 0 0, .bool false, .int .i64 0, .slice none 0 0]) (by simp [results, Tryz.results11, go_sem, *]) rfl ?_; exact TestP.exi1 nm (zN x.s) q rfl hnl (by have := zn x.s; omega) HQ0.out hq2 hBS.out sS2
            exact AllReadyH.nil
          exact AllReadyH.nil
        refine AllReadyH.cons rfl (fun K hK => ?_) ?_
        · go_simp
          refine (jm x.b 2 _ wb (by decide) (by decide)).mono ?_; rintro e u ⟨rfl, hu⟩; have hu' := hu.symm; subst hu'; rw [← HPB.out]; go_wp2_with fail; refine hK.out _ _ ?_ (fun hHeld => ?_)
          · (try dsimp only)
            all_goals go_keep
          clear hK K
          try simp only [Act.put, List.setIfInBounds_toArray, List.set_cons_zero, List.set_cons_succ]
          refine wpAnyH_take (i := 13) (v := ?v47) rfl (by kernel_rfl) (by kernel_rfl) (by kernel_rfl) (fun _ _ _ h => h) (Or.inl ⟨by rfl, ?hy47⟩) (by assumption) ?_
          case hy47 =>
            intro w hSw
            (try dsimp only at hSw)
            go_simp
            all_goals with_reducible rfl
          change wpAnyH _ _ _ _ _ _ _ (Act.put _ (some 151) _) _
          try simp only [Act.put, List.setIfInBounds_toArray, List.set_cons_zero, List.set_cons_succ]
          refine wpAnyH_ready (rs := [9]) (by kernel_rfl) (by simp) ?_; refine AllReadyH.cons rfl (fun K hK => ?_) ?_
          · go_simp
            refine hK.out _ _ ?_ (fun hHeld => ?_)
            · (try dsimp only)
              all_goals go_keep
            clear hK K
            try simp only [Act.put, List.setIfInBounds_toArray, List.set_cons_zero, List.set_cons_succ]
            refine wpAnyH_take (i := 14) (v := ?v48) rfl (by kernel_rfl) (by kernel_rfl) (by kernel_rfl) (fun _ _ _ h => h) (Or.inl ⟨by rfl, ?hy48⟩) (by assumption) ?_
            case hy48 =>
              intro w hSw
              (try dsimp only at hSw)
              go_simp
              all_goals with_reducible rfl
            change wpAnyH _ _ _ _ _ _ _ (Act.put _ (some 152) _) _
            try simp only [Act.put, List.setIfInBounds_toArray, List.set_cons_zero, List.set_cons_succ]
            refine wpAnyH_take (i := 15) (v := ?v49) rfl (by kernel_rfl) (by kernel_rfl) (by kernel_rfl) (fun _ _ _ h => h) (Or.inl ⟨by rfl, ?hy49⟩) (by assumption) ?_
            case hy49 =>
              intro w hSw
              (try dsimp only at hSw)
              go_simp
              all_goals with_reducible rfl
            change wpAnyH _ _ _ _ _ _ _ (Act.put _ (some 153) _) _
            try simp only [Act.put, List.setIfInBounds_toArray, List.set_cons_zero, List.set_cons_succ]
            refine wpAnyH_ready (rs := [16]) (by kernel_rfl) (by simp) ?_; refine AllReadyH.cons rfl (fun K hK => ?_) ?_
            · go_simp
              refine hK.out _ _ ?_ (fun hHeld => ?_)
              · (try dsimp only)
                all_goals first | exact ⟨⟨jd (jh m1 (by omega)), jd (jh m2 (by omega)), jd (jh m3 (by omega))⟩, jd (jh marr (by omega))⟩ | exact ⟨⟨jd (jd (jh m1 (by omega))), jd (jd (jh m2 (by omega))), jd (jd (jh m3 (by omega)))⟩, jd (qj _ _ (by simp [World.setCell]) hnm ha3)⟩
              clear hK K
              try simp only [Act.put, List.setIfInBounds_toArray, List.set_cons_zero, List.set_cons_succ]
              refine wpAnyH_done (by kernel_rfl) ?_ _; go_wp2; refine bodyPost_ret (v := .agg #[.int .i64 9, .int .i64 0, .int .i64 0, .slice (some ⟨wS.heap.size, 0, none⟩) q 2, .slice none 0 0, .bool false, .int .i64 0, .slice none 0 0]) (by simp [results, Tryz.results11, go_sem, *]) rfl ?_; exact TestP.exi1 nm (zN x.s) q rfl hnl (by have := zn x.s; omega) HQ0.out hq2 hBS.out sS2
            exact AllReadyH.nil
          exact AllReadyH.nil
        exact AllReadyH.nil
      exact AllReadyH.nil
    exact AllReadyH.nil
  refine AllReadyH.cons rfl (fun K hK => ?_) ?_
  · go_simp
    refine (jm x.a 3 _ wa (by decide) (by decide)).mono ?_; rintro e u ⟨rfl, hu⟩; have hu' := hu.symm; subst hu'; rw [← HPA.out]; go_wp2_with fail; refine hK.out _ _ ?_ (fun hHeld => ?_)
    · (try dsimp only)
      all_goals go_keep
    clear hK K
    try simp only [Act.put, List.setIfInBounds_toArray, List.set_cons_zero, List.set_cons_succ]
    refine wpAnyH_ready (rs := [0, 8]) (by kernel_rfl) (by simp) ?_; refine AllReadyH.cons rfl (fun K hK => ?_) ?_
    · go_simp
      refine hK.out _ _ ?_ (fun hHeld => ?_)
      · (try dsimp only)
        all_goals go_keep
      clear hK K
      try simp only [Act.put, List.setIfInBounds_toArray, List.set_cons_zero, List.set_cons_succ]
      refine qh (E := fun w' : World => w'.cell? ⟨W.heap.size, pa, none⟩ = some (.string (S nm))) hHeld (by exact qS W hnm ha3) (fun hHeld1 => ?_); clear hHeld; refine wpAnyH_take (i := 4) (v := ?v50) rfl (by kernel_rfl) (by kernel_rfl) (by kernel_rfl) (fun _ _ _ h => h) (Or.inl ⟨by rfl, ?hy50⟩) (by assumption) ?_
      case hy50 =>
        intro w hSw
        (try dsimp only at hSw)
        go_simp
        all_goals with_reducible rfl
      change wpAnyH _ _ _ _ _ _ _ (Act.put _ (some 142) _) _
      try simp only [Act.put, List.setIfInBounds_toArray, List.set_cons_zero, List.set_cons_succ]
      refine wpAnyH_take (i := 5) (v := ?v51) rfl (by kernel_rfl) (by kernel_rfl) (by kernel_rfl) (fun _ _ _ h => h) (Or.inl ⟨by rfl, ?hy51⟩) (by assumption) ?_
      case hy51 =>
        intro w hSw
        (try dsimp only at hSw)
        go_simp
        all_goals with_reducible rfl
      change wpAnyH _ _ _ _ _ _ _ (Act.put _ (some 143) _) _
      try simp only [Act.put, List.setIfInBounds_toArray, List.set_cons_zero, List.set_cons_succ]
      refine wpAnyH_ready (rs := [8]) (by kernel_rfl) (by simp) ?_; refine AllReadyH.cons rfl (fun K hK => ?_) ?_
      · go_simp
        refine (vS (S x.s) _ HLS.out).mono ?_; rintro e wS ⟨rfl, hbS⟩; rw [HWD.out]; have m1 : wS.cell? ⟨w.heap.size, 1, none⟩ = some (.int .i64 x.a) := jb (by exact jd x1) hbS; have m2 : wS.cell? ⟨w.heap.size, 2, none⟩ = some (.int .i64 x.b) := jb (by exact jd x2) hbS; have m3 : wS.cell? ⟨w.heap.size, 3, none⟩ = some (.string (S x.s)) := jb (by exact jd x3) hbS; have marr : wS.cell? ⟨W.heap.size, pa, none⟩ = some (.string (S nm)) := jb (by exact qS W hnm ha3) hbS; have hTS := hid (qi hbS (by exact jf _ ht.out) (by have := HSZ.out; show w.heap.size + 1 + 1 < (W.heap.push _).size; rw [Array.size_push]; omega)); have hRS := hid (qi hbS (by exact jf _ hr.out) (by have := HSZ.out; show w.heap.size + 1 < (W.heap.push _).size; rw [Array.size_push]; omega)); obtain ⟨b0, b1, b2, b3, b4, b5, b6, b7, c0, c1, c2, c3, c4, c5, c6, c7⟩ := box8 hTS.out; obtain ⟨p0, p1, p2, p3, p4, p5, p6, p7, o0, o1, o2, o3, o4, o5, o6, o7⟩ := box8 hRS.out; have sS0 : w.heap.size < wS.heap.size := World.block_lt_of_cell? wS _ m1; have sS2 : w.heap.size + 1 + 1 < wS.heap.size := World.block_lt_of_cell? wS _ b0; have sS1 : w.heap.size + 1 < wS.heap.size := World.block_lt_of_cell? wS _ p0; have hBS := hid (show Below w.heap.size w wS from ((HB.out.alloc (by have := HSZ.out; omega) _).drew).trans (hbS.mono (by have := HSZ.out; show w.heap.size ≤ (W.heap.push _).size; rw [Array.size_push]; omega))); clear hbS; go_wp2_with fail; refine hK.out _ _ ?_ (fun hHeld => ?_)
        · (try dsimp only)
          all_goals go_keep
        clear hK K
        try simp only [Act.put, List.setIfInBounds_toArray, List.set_cons_zero, List.set_cons_succ]
        refine wpAnyH_ready (rs := [9, 12]) (by kernel_rfl) (by simp) ?_; refine AllReadyH.cons rfl (fun K hK => ?_) ?_
        · go_simp
          refine hK.out _ _ ?_ (fun hHeld => ?_)
          · (try dsimp only)
            all_goals go_keep
          clear hK K
          try simp only [Act.put, List.setIfInBounds_toArray, List.set_cons_zero, List.set_cons_succ]
          refine wpAnyH_ready (rs := [12]) (by kernel_rfl) (by simp) ?_; refine AllReadyH.cons rfl (fun K hK => ?_) ?_
          · go_simp
            refine (jm x.b 2 _ wb (by decide) (by decide)).mono ?_; rintro e u ⟨rfl, hu⟩; have hu' := hu.symm; subst hu'; rw [← HPB.out]; go_wp2_with fail; refine hK.out _ _ ?_ (fun hHeld => ?_)
            · (try dsimp only)
              all_goals go_keep
            clear hK K
            try simp only [Act.put, List.setIfInBounds_toArray, List.set_cons_zero, List.set_cons_succ]
            refine wpAnyH_take (i := 13) (v := ?v52) rfl (by kernel_rfl) (by kernel_rfl) (by kernel_rfl) (fun _ _ _ h => h) (Or.inl ⟨by rfl, ?hy52⟩) (by assumption) ?_
            case hy52 =>
              intro w hSw
              (try dsimp only at hSw)
              go_simp
              all_goals with_reducible rfl
            change wpAnyH _ _ _ _ _ _ _ (Act.put _ (some 151) _) _
            try simp only [Act.put, List.setIfInBounds_toArray, List.set_cons_zero, List.set_cons_succ]
            refine wpAnyH_take (i := 14) (v := ?v53) rfl (by kernel_rfl) (by kernel_rfl) (by kernel_rfl) (fun _ _ _ h => h) (Or.inl ⟨by rfl, ?hy53⟩) (by assumption) ?_
            case hy53 =>
              intro w hSw
              (try dsimp only at hSw)
              go_simp
              all_goals with_reducible rfl
            change wpAnyH _ _ _ _ _ _ _ (Act.put _ (some 152) _) _
            try simp only [Act.put, List.setIfInBounds_toArray, List.set_cons_zero, List.set_cons_succ]
            refine wpAnyH_take (i := 15) (v := ?v54) rfl (by kernel_rfl) (by kernel_rfl) (by kernel_rfl) (fun _ _ _ h => h) (Or.inl ⟨by rfl, ?hy54⟩) (by assumption) ?_
            case hy54 =>
              intro w hSw
              (try dsimp only at hSw)
              go_simp
              all_goals with_reducible rfl
            change wpAnyH _ _ _ _ _ _ _ (Act.put _ (some 153) _) _
            try simp only [Act.put, List.setIfInBounds_toArray, List.set_cons_zero, List.set_cons_succ]
            refine wpAnyH_ready (rs := [16]) (by kernel_rfl) (by simp) ?_; refine AllReadyH.cons rfl (fun K hK => ?_) ?_
            · go_simp
              refine hK.out _ _ ?_ (fun hHeld => ?_)
              · (try dsimp only)
                all_goals first | exact ⟨⟨jd (jh m1 (by omega)), jd (jh m2 (by omega)), jd (jh m3 (by omega))⟩, jd (jh marr (by omega))⟩ | exact ⟨⟨jd (jd (jh m1 (by omega))), jd (jd (jh m2 (by omega))), jd (jd (jh m3 (by omega)))⟩, jd (qj _ _ (by simp [World.setCell]) hnm ha3)⟩
              clear hK K
              try simp only [Act.put, List.setIfInBounds_toArray, List.set_cons_zero, List.set_cons_succ]
              refine wpAnyH_done (by kernel_rfl) ?_ _; go_wp2; refine bodyPost_ret (v := .agg #[.int .i64 9, .int .i64 0, .int .i64 0, .slice (some ⟨wS.heap.size, 0, none⟩) q 2, .slice none 0 0, .bool false, .int .i64 0, .slice none 0 0]) (by simp [results, Tryz.results11, go_sem, *]) rfl ?_; exact TestP.exi1 nm (zN x.s) q rfl hnl (by have := zn x.s; omega) HQ0.out hq2 hBS.out sS2
            exact AllReadyH.nil
          exact AllReadyH.nil
        refine AllReadyH.cons rfl (fun K hK => ?_) ?_
        · go_simp
          refine (jm x.b 2 _ wb (by decide) (by decide)).mono ?_; rintro e u ⟨rfl, hu⟩; have hu' := hu.symm; subst hu'; rw [← HPB.out]; go_wp2_with fail; refine hK.out _ _ ?_ (fun hHeld => ?_)
          · (try dsimp only)
            all_goals go_keep
          clear hK K
          try simp only [Act.put, List.setIfInBounds_toArray, List.set_cons_zero, List.set_cons_succ]
          refine wpAnyH_take (i := 13) (v := ?v55) rfl (by kernel_rfl) (by kernel_rfl) (by kernel_rfl) (fun _ _ _ h => h) (Or.inl ⟨by rfl, ?hy55⟩) (by assumption) ?_
          case hy55 =>
            intro w hSw
            (try dsimp only at hSw)
            go_simp
            all_goals with_reducible rfl
          change wpAnyH _ _ _ _ _ _ _ (Act.put _ (some 151) _) _
          try simp only [Act.put, List.setIfInBounds_toArray, List.set_cons_zero, List.set_cons_succ]
          refine wpAnyH_ready (rs := [9]) (by kernel_rfl) (by simp) ?_; refine AllReadyH.cons rfl (fun K hK => ?_) ?_
          · go_simp
            refine hK.out _ _ ?_ (fun hHeld => ?_)
            · (try dsimp only)
              all_goals go_keep
            clear hK K
            try simp only [Act.put, List.setIfInBounds_toArray, List.set_cons_zero, List.set_cons_succ]
            refine wpAnyH_take (i := 14) (v := ?v56) rfl (by kernel_rfl) (by kernel_rfl) (by kernel_rfl) (fun _ _ _ h => h) (Or.inl ⟨by rfl, ?hy56⟩) (by assumption) ?_
            case hy56 =>
              intro w hSw
              (try dsimp only at hSw)
              go_simp
              all_goals with_reducible rfl
            change wpAnyH _ _ _ _ _ _ _ (Act.put _ (some 152) _) _
            try simp only [Act.put, List.setIfInBounds_toArray, List.set_cons_zero, List.set_cons_succ]
            refine wpAnyH_take (i := 15) (v := ?v57) rfl (by kernel_rfl) (by kernel_rfl) (by kernel_rfl) (fun _ _ _ h => h) (Or.inl ⟨by rfl, ?hy57⟩) (by assumption) ?_
            case hy57 =>
              intro w hSw
              (try dsimp only at hSw)
              go_simp
              all_goals with_reducible rfl
            change wpAnyH _ _ _ _ _ _ _ (Act.put _ (some 153) _) _
            try simp only [Act.put, List.setIfInBounds_toArray, List.set_cons_zero, List.set_cons_succ]
            refine wpAnyH_ready (rs := [16]) (by kernel_rfl) (by simp) ?_; refine AllReadyH.cons rfl (fun K hK => ?_) ?_
            · go_simp
              refine hK.out _ _ ?_ (fun hHeld => ?_)
              · (try dsimp only)
                all_goals first | exact ⟨⟨jd (jh m1 (by omega)), jd (jh m2 (by omega)), jd (jh m3 (by omega))⟩, jd (jh marr (by omega))⟩ | exact ⟨⟨jd (jd (jh m1 (by omega))), jd (jd (jh m2 (by omega))), jd (jd (jh m3 (by omega)))⟩, jd (qj _ _ (by simp [World.setCell]) hnm ha3)⟩
              clear hK K
              try simp only [Act.put, List.setIfInBounds_toArray, List.set_cons_zero, List.set_cons_succ]
              refine wpAnyH_done (by kernel_rfl) ?_ _; go_wp2; refine bodyPost_ret (v := .agg #[.int .i64 9, .int .i64 0, .int .i64 0, .slice (some ⟨wS.heap.size, 0, none⟩) q 2, .slice none 0 0, .bool false, .int .i64 0, .slice none 0 0]) (by simp [results, Tryz.results11, go_sem, *]) rfl ?_; exact TestP.exi1 nm (zN x.s) q rfl hnl (by have := zn x.s; omega) HQ0.out hq2 hBS.out sS2
            exact AllReadyH.nil
          exact AllReadyH.nil
        exact AllReadyH.nil
      exact AllReadyH.nil
    refine AllReadyH.cons rfl (fun K hK => ?_) ?_
    · go_simp
      refine (vS (S x.s) _ HLS.out).mono ?_; rintro e wS ⟨rfl, hbS⟩; rw [HWD.out]; have m1 : wS.cell? ⟨w.heap.size, 1, none⟩ = some (.int .i64 x.a) := jb (by exact x1) hbS; have m2 : wS.cell? ⟨w.heap.size, 2, none⟩ = some (.int .i64 x.b) := jb (by exact x2) hbS; have m3 : wS.cell? ⟨w.heap.size, 3, none⟩ = some (.string (S x.s)) := jb (by exact x3) hbS; have hTS := hid (qi hbS (by exact ht.out) (by have := HSZ.out; show w.heap.size + 1 + 1 < W.heap.size; omega)); have hRS := hid (qi hbS (by exact hr.out) (by have := HSZ.out; show w.heap.size + 1 < W.heap.size; omega)); obtain ⟨b0, b1, b2, b3, b4, b5, b6, b7, c0, c1, c2, c3, c4, c5, c6, c7⟩ := box8 hTS.out; obtain ⟨p0, p1, p2, p3, p4, p5, p6, p7, o0, o1, o2, o3, o4, o5, o6, o7⟩ := box8 hRS.out; have sS0 : w.heap.size < wS.heap.size := World.block_lt_of_cell? wS _ m1; have sS2 : w.heap.size + 1 + 1 < wS.heap.size := World.block_lt_of_cell? wS _ b0; have sS1 : w.heap.size + 1 < wS.heap.size := World.block_lt_of_cell? wS _ p0; have hBS := hid (show Below w.heap.size w wS from HB.out.drew.trans (hbS.mono (by have := HSZ.out; show w.heap.size ≤ W.heap.size; omega))); clear hbS; go_wp2_with fail; refine hK.out _ _ ?_ (fun hHeld => ?_)
      · (try dsimp only)
        all_goals go_keep
      clear hK K
      try simp only [Act.put, List.setIfInBounds_toArray, List.set_cons_zero, List.set_cons_succ]
      refine wpAnyH_ready (rs := [0, 12]) (by kernel_rfl) (by simp) ?_; refine AllReadyH.cons rfl (fun K hK => ?_) ?_
      · go_simp
        refine hK.out _ _ ?_ (fun hHeld => ?_)
        · (try dsimp only)
          all_goals go_keep
        clear hK K
        try simp only [Act.put, List.setIfInBounds_toArray, List.set_cons_zero, List.set_cons_succ]
        refine qh (E := fun w' : World => w'.cell? ⟨wS.heap.size, pa, none⟩ = some (.string (S nm))) hHeld (by exact qS wS hnm ha3) (fun hHeld1 => ?_); clear hHeld; refine wpAnyH_take (i := 4) (v := ?v58) rfl (by kernel_rfl) (by kernel_rfl) (by kernel_rfl) (fun _ _ _ h => h) (Or.inl ⟨by rfl, ?hy58⟩) (by assumption) ?_
        case hy58 =>
          intro w hSw
          (try dsimp only at hSw)
          go_simp
          all_goals with_reducible rfl
        change wpAnyH _ _ _ _ _ _ _ (Act.put _ (some 142) _) _
        try simp only [Act.put, List.setIfInBounds_toArray, List.set_cons_zero, List.set_cons_succ]
        refine wpAnyH_take (i := 5) (v := ?v59) rfl (by kernel_rfl) (by kernel_rfl) (by kernel_rfl) (fun _ _ _ h => h) (Or.inl ⟨by rfl, ?hy59⟩) (by assumption) ?_
        case hy59 =>
          intro w hSw
          (try dsimp only at hSw)
          go_simp
          all_goals with_reducible rfl
        change wpAnyH _ _ _ _ _ _ _ (Act.put _ (some 143) _) _
        try simp only [Act.put, List.setIfInBounds_toArray, List.set_cons_zero, List.set_cons_succ]
        refine wpAnyH_ready (rs := [9, 12]) (by kernel_rfl) (by simp) ?_; refine AllReadyH.cons rfl (fun K hK => ?_) ?_
        · go_simp
          refine hK.out _ _ ?_ (fun hHeld => ?_)
          · (try dsimp only)
            all_goals go_keep
          clear hK K
          try simp only [Act.put, List.setIfInBounds_toArray, List.set_cons_zero, List.set_cons_succ]
          refine wpAnyH_ready (rs := [12]) (by kernel_rfl) (by simp) ?_; refine AllReadyH.cons rfl (fun K hK => ?_) ?_
          · go_simp
            refine (jm x.b 2 _ wb (by decide) (by decide)).mono ?_; rintro e u ⟨rfl, hu⟩; have hu' := hu.symm; subst hu'; rw [← HPB.out]; go_wp2_with fail; refine hK.out _ _ ?_ (fun hHeld => ?_)
            · (try dsimp only)
              all_goals go_keep
            clear hK K
            try simp only [Act.put, List.setIfInBounds_toArray, List.set_cons_zero, List.set_cons_succ]
            refine wpAnyH_take (i := 13) (v := ?v60) rfl (by kernel_rfl) (by kernel_rfl) (by kernel_rfl) (fun _ _ _ h => h) (Or.inl ⟨by rfl, ?hy60⟩) (by assumption) ?_
            case hy60 =>
              intro w hSw
              (try dsimp only at hSw)
              go_simp
              all_goals with_reducible rfl
            change wpAnyH _ _ _ _ _ _ _ (Act.put _ (some 151) _) _
            try simp only [Act.put, List.setIfInBounds_toArray, List.set_cons_zero, List.set_cons_succ]
            refine wpAnyH_take (i := 14) (v := ?v61) rfl (by kernel_rfl) (by kernel_rfl) (by kernel_rfl) (fun _ _ _ h => h) (Or.inl ⟨by rfl, ?hy61⟩) (by assumption) ?_
            case hy61 =>
              intro w hSw
              (try dsimp only at hSw)
              go_simp
              all_goals with_reducible rfl
            change wpAnyH _ _ _ _ _ _ _ (Act.put _ (some 152) _) _
            try simp only [Act.put, List.setIfInBounds_toArray, List.set_cons_zero, List.set_cons_succ]
            refine wpAnyH_take (i := 15) (v := ?v62) rfl (by kernel_rfl) (by kernel_rfl) (by kernel_rfl) (fun _ _ _ h => h) (Or.inl ⟨by rfl, ?hy62⟩) (by assumption) ?_
            case hy62 =>
              intro w hSw
              (try dsimp only at hSw)
              go_simp
              all_goals with_reducible rfl
            change wpAnyH _ _ _ _ _ _ _ (Act.put _ (some 153) _) _
            try simp only [Act.put, List.setIfInBounds_toArray, List.set_cons_zero, List.set_cons_succ]
            refine wpAnyH_ready (rs := [16]) (by kernel_rfl) (by simp) ?_; refine AllReadyH.cons rfl (fun K hK => ?_) ?_
            · go_simp
              refine hK.out _ _ ?_ (fun hHeld => ?_)
              · (try dsimp only)
                all_goals first | exact ⟨⟨jd (jh m1 (by omega)), jd (jh m2 (by omega)), jd (jh m3 (by omega))⟩, jd (jh marr (by omega))⟩ | exact ⟨⟨jd (jd (jh m1 (by omega))), jd (jd (jh m2 (by omega))), jd (jd (jh m3 (by omega)))⟩, jd (qj _ _ (by simp [World.setCell]) hnm ha3)⟩
              clear hK K
              try simp only [Act.put, List.setIfInBounds_toArray, List.set_cons_zero, List.set_cons_succ]
              refine wpAnyH_done (by kernel_rfl) ?_ _; go_wp2; refine bodyPost_ret (v := .agg #[.int .i64 9, .int .i64 0, .int .i64 0, .slice (some ⟨wS.heap.size + 1, 0, none⟩) q 2, .slice none 0 0, .bool false, .int .i64 0, .slice none 0 0]) (by simp [results, Tryz.results11, go_sem, *]) rfl ?_; exact TestP.exi2 nm (zN x.s) q rfl hnl (by have := zn x.s; omega) HQ0.out hq2 hBS.out sS2
            exact AllReadyH.nil
          exact AllReadyH.nil
        refine AllReadyH.cons rfl (fun K hK => ?_) ?_
        · go_simp
          refine (jm x.b 2 _ wb (by decide) (by decide)).mono ?_; rintro e u ⟨rfl, hu⟩; have hu' := hu.symm; subst hu'; rw [← HPB.out]; go_wp2_with fail; refine hK.out _ _ ?_ (fun hHeld => ?_)
          · (try dsimp only)
            all_goals go_keep
          clear hK K
          try simp only [Act.put, List.setIfInBounds_toArray, List.set_cons_zero, List.set_cons_succ]
          refine wpAnyH_take (i := 13) (v := ?v63) rfl (by kernel_rfl) (by kernel_rfl) (by kernel_rfl) (fun _ _ _ h => h) (Or.inl ⟨by rfl, ?hy63⟩) (by assumption) ?_
          case hy63 =>
            intro w hSw
            (try dsimp only at hSw)
            go_simp
            all_goals with_reducible rfl
          change wpAnyH _ _ _ _ _ _ _ (Act.put _ (some 151) _) _
          try simp only [Act.put, List.setIfInBounds_toArray, List.set_cons_zero, List.set_cons_succ]
          refine wpAnyH_ready (rs := [9]) (by kernel_rfl) (by simp) ?_; refine AllReadyH.cons rfl (fun K hK => ?_) ?_
          · go_simp
            refine hK.out _ _ ?_ (fun hHeld => ?_)
            · (try dsimp only)
              all_goals go_keep
            clear hK K
            try simp only [Act.put, List.setIfInBounds_toArray, List.set_cons_zero, List.set_cons_succ]
            refine wpAnyH_take (i := 14) (v := ?v64) rfl (by kernel_rfl) (by kernel_rfl) (by kernel_rfl) (fun _ _ _ h => h) (Or.inl ⟨by rfl, ?hy64⟩) (by assumption) ?_
            case hy64 =>
              intro w hSw
              (try dsimp only at hSw)
              go_simp
              all_goals with_reducible rfl
            change wpAnyH _ _ _ _ _ _ _ (Act.put _ (some 152) _) _
            try simp only [Act.put, List.setIfInBounds_toArray, List.set_cons_zero, List.set_cons_succ]
            refine wpAnyH_take (i := 15) (v := ?v65) rfl (by kernel_rfl) (by kernel_rfl) (by kernel_rfl) (fun _ _ _ h => h) (Or.inl ⟨by rfl, ?hy65⟩) (by assumption) ?_
            case hy65 =>
              intro w hSw
              (try dsimp only at hSw)
              go_simp
              all_goals with_reducible rfl
            change wpAnyH _ _ _ _ _ _ _ (Act.put _ (some 153) _) _
            try simp only [Act.put, List.setIfInBounds_toArray, List.set_cons_zero, List.set_cons_succ]
            refine wpAnyH_ready (rs := [16]) (by kernel_rfl) (by simp) ?_; refine AllReadyH.cons rfl (fun K hK => ?_) ?_
            · go_simp
              refine hK.out _ _ ?_ (fun hHeld => ?_)
              · (try dsimp only)
                all_goals first | exact ⟨⟨jd (jh m1 (by omega)), jd (jh m2 (by omega)), jd (jh m3 (by omega))⟩, jd (jh marr (by omega))⟩ | exact ⟨⟨jd (jd (jh m1 (by omega))), jd (jd (jh m2 (by omega))), jd (jd (jh m3 (by omega)))⟩, jd (qj _ _ (by simp [World.setCell]) hnm ha3)⟩
              clear hK K
              try simp only [Act.put, List.setIfInBounds_toArray, List.set_cons_zero, List.set_cons_succ]
              refine wpAnyH_done (by kernel_rfl) ?_ _; go_wp2; refine bodyPost_ret (v := .agg #[.int .i64 9, .int .i64 0, .int .i64 0, .slice (some ⟨wS.heap.size + 1, 0, none⟩) q 2, .slice none 0 0, .bool false, .int .i64 0, .slice none 0 0]) (by simp [results, Tryz.results11, go_sem, *]) rfl ?_; exact TestP.exi2 nm (zN x.s) q rfl hnl (by have := zn x.s; omega) HQ0.out hq2 hBS.out sS2
            exact AllReadyH.nil
          exact AllReadyH.nil
        exact AllReadyH.nil
      refine AllReadyH.cons rfl (fun K hK => ?_) ?_
      · go_simp
        refine (jm x.b 2 _ wb (by decide) (by decide)).mono ?_; rintro e u ⟨rfl, hu⟩; have hu' := hu.symm; subst hu'; rw [← HPB.out]; go_wp2_with fail; refine hK.out _ _ ?_ (fun hHeld => ?_)
        · (try dsimp only)
          all_goals go_keep
        clear hK K
        try simp only [Act.put, List.setIfInBounds_toArray, List.set_cons_zero, List.set_cons_succ]
        refine wpAnyH_take (i := 13) (v := ?v66) rfl (by kernel_rfl) (by kernel_rfl) (by kernel_rfl) (fun _ _ _ h => h) (Or.inl ⟨by rfl, ?hy66⟩) (by assumption) ?_
        case hy66 =>
          intro w hSw
          (try dsimp only at hSw)
          go_simp
          all_goals with_reducible rfl
        change wpAnyH _ _ _ _ _ _ _ (Act.put _ (some 151) _) _
        try simp only [Act.put, List.setIfInBounds_toArray, List.set_cons_zero, List.set_cons_succ]
        refine wpAnyH_ready (rs := [0]) (by kernel_rfl) (by simp) ?_; refine AllReadyH.cons rfl (fun K hK => ?_) ?_
        · go_simp
          refine hK.out _ _ ?_ (fun hHeld => ?_)
          · (try dsimp only)
            all_goals go_keep
          clear hK K
          try simp only [Act.put, List.setIfInBounds_toArray, List.set_cons_zero, List.set_cons_succ]
          refine qh (E := fun w' : World => w'.cell? ⟨wS.heap.size, pa, none⟩ = some (.string (S nm))) hHeld (by exact qS wS hnm ha3) (fun hHeld1 => ?_); clear hHeld; refine wpAnyH_take (i := 4) (v := ?v67) rfl (by kernel_rfl) (by kernel_rfl) (by kernel_rfl) (fun _ _ _ h => h) (Or.inl ⟨by rfl, ?hy67⟩) (by assumption) ?_
          case hy67 =>
            intro w hSw
            (try dsimp only at hSw)
            go_simp
            all_goals with_reducible rfl
          change wpAnyH _ _ _ _ _ _ _ (Act.put _ (some 142) _) _
          try simp only [Act.put, List.setIfInBounds_toArray, List.set_cons_zero, List.set_cons_succ]
          refine wpAnyH_take (i := 5) (v := ?v68) rfl (by kernel_rfl) (by kernel_rfl) (by kernel_rfl) (fun _ _ _ h => h) (Or.inl ⟨by rfl, ?hy68⟩) (by assumption) ?_
          case hy68 =>
            intro w hSw
            (try dsimp only at hSw)
            go_simp
            all_goals with_reducible rfl
          change wpAnyH _ _ _ _ _ _ _ (Act.put _ (some 143) _) _
          try simp only [Act.put, List.setIfInBounds_toArray, List.set_cons_zero, List.set_cons_succ]
          refine wpAnyH_ready (rs := [9]) (by kernel_rfl) (by simp) ?_; refine AllReadyH.cons rfl (fun K hK => ?_) ?_
          · go_simp
            refine hK.out _ _ ?_ (fun hHeld => ?_)
            · (try dsimp only)
              all_goals go_keep
            clear hK K
            try simp only [Act.put, List.setIfInBounds_toArray, List.set_cons_zero, List.set_cons_succ]
            refine wpAnyH_take (i := 14) (v := ?v69) rfl (by kernel_rfl) (by kernel_rfl) (by kernel_rfl) (fun _ _ _ h => h) (Or.inl ⟨by rfl, ?hy69⟩) (by assumption) ?_
            case hy69 =>
              intro w hSw
              (try dsimp only at hSw)
              go_simp
              all_goals with_reducible rfl
            change wpAnyH _ _ _ _ _ _ _ (Act.put _ (some 152) _) _
            try simp only [Act.put, List.setIfInBounds_toArray, List.set_cons_zero, List.set_cons_succ]
            refine wpAnyH_take (i := 15) (v := ?v70) rfl (by kernel_rfl) (by kernel_rfl) (by kernel_rfl) (fun _ _ _ h => h) (Or.inl ⟨by rfl, ?hy70⟩) (by assumption) ?_
            case hy70 =>
              intro w hSw
              (try dsimp only at hSw)
              go_simp
              all_goals with_reducible rfl
            change wpAnyH _ _ _ _ _ _ _ (Act.put _ (some 153) _) _
            try simp only [Act.put, List.setIfInBounds_toArray, List.set_cons_zero, List.set_cons_succ]
            refine wpAnyH_ready (rs := [16]) (by kernel_rfl) (by simp) ?_; refine AllReadyH.cons rfl (fun K hK => ?_) ?_
            · go_simp
              refine hK.out _ _ ?_ (fun hHeld => ?_)
              · (try dsimp only)
                all_goals first | exact ⟨⟨jd (jh m1 (by omega)), jd (jh m2 (by omega)), jd (jh m3 (by omega))⟩, jd (jh marr (by omega))⟩ | exact ⟨⟨jd (jd (jh m1 (by omega))), jd (jd (jh m2 (by omega))), jd (jd (jh m3 (by omega)))⟩, jd (qj _ _ (by simp [World.setCell]) hnm ha3)⟩
              clear hK K
              try simp only [Act.put, List.setIfInBounds_toArray, List.set_cons_zero, List.set_cons_succ]
              refine wpAnyH_done (by kernel_rfl) ?_ _; go_wp2; refine bodyPost_ret (v := .agg #[.int .i64 9, .int .i64 0, .int .i64 0, .slice (some ⟨wS.heap.size + 1, 0, none⟩) q 2, .slice none 0 0, .bool false, .int .i64 0, .slice none 0 0]) (by simp [results, Tryz.results11, go_sem, *]) rfl ?_; exact TestP.exi2 nm (zN x.s) q rfl hnl (by have := zn x.s; omega) HQ0.out hq2 hBS.out sS2
            exact AllReadyH.nil
          exact AllReadyH.nil
        exact AllReadyH.nil
      exact AllReadyH.nil
    exact AllReadyH.nil
  exact AllReadyH.nil
theorem jm4 : TestC 3 1 := by
  intro n x cs w h; cases n with
  | zero => exact h.elim
  | succ n =>
  have hp := jT x.kind 10 (by omega); have hd : ¬ 3 < 3 := by omega
  have hc : jR x.kind 10 = 0 ∨ jR x.kind 10 = 1 ∨ jR x.kind 10 = 2 ∨ jR x.kind 10 = 3 ∨ jR x.kind 10 = 4 ∨ jR x.kind 10 = 5 ∨ jR x.kind 10 = 6 ∨ jR x.kind 10 = 7 ∨ jR x.kind 10 = 8 ∨ jR x.kind 10 = 9 := by omega
  rcases hc with h' | h' | h' | h' | h' | h' | h' | h' | h' | h'
  · exact jiE 3 0 n x cs w h h'
  · exact jgG 3 0 n x cs w h h'
  · exact jgD 3 0 n x cs w h h' hd
  · exact jgE 3 0 n x cs w h h' hd
  · exact jgF 3 0 n x cs w h h' hd
  · exact jkk 3 0 n x cs w h h'
  · exact jkh 3 0 n x cs w h h'
  · exact jki 3 0 n x cs w h h'
  · exact jkj 3 0 n x cs w h h'
  · exact jiC 3 0 n x cs w h h'
end Go.Proofs.YtaapmpchcfcniaaGreatDoor
namespace Go.Proofs.YtaapmpchcfcniaaGreatDoor
open Go.RowKit Go.Proofs
theorem TestC.more {d m k : Nat} (h : TestC d m) (hk : m ≤ k) : TestC d k := fun n x cs w hs => (h n x cs w hs).mono fun _ _ ⟨t, cs', he, hT, hN, hB⟩ => ⟨t, cs', he, TstM.more _ _ _ _ hk hT, hN, hB⟩
end Go.Proofs.YtaapmpchcfcniaaGreatDoor
namespace Go.Proofs.YtaapmpchcfcniaaGreatDoor
open Go.RowKit Go.Proofs
end Go.Proofs.YtaapmpchcfcniaaGreatDoor
namespace Go.Proofs.YtaapmpchcfcniaaGreatDoor
open Go.RowKit Go.Proofs
theorem je0 {A : Type} {l : List A} {x : A} (h : x ∈ l) : ∃ i : Nat, l[i]? = some x := by
  obtain ⟨i, hi, e⟩ := List.getElem_of_mem h; exact ⟨i, by rw [List.getElem?_eq_getElem hi, e]⟩
theorem jdY {Q : Nat → Prop} {w : World} : ∀ (m n d : Nat) (t : Tst) (cs : List Value), TstM Q m w t cs → FitT n t → d + m ≤ 7 → jo n d t = 0 := by
  intro m
  induction m with
  | zero => intro n d t cs h; exact h.elim
  | succ m ih =>
    intro n d t cs h hF hd; cases n with
    | zero => rfl
    | succ n =>
      obtain ⟨h1, h2⟩ := hF; unfold fitH at h1; simp only [Bool.and_eq_true, decide_eq_true_eq] at h1; obtain ⟨⟨⟨⟨⟨k1, k2⟩, hf⟩, _⟩, _⟩, _⟩ := h1; have hn : jC 1 t.kind = true := by rw [jbK]; simp; omega
      obtain ⟨_, _, vt, _, _, _, hr⟩ := h; obtain ⟨_, _, _, _, hrr⟩ := hr; unfold jo; have e : oneP (jC 1 t.kind) d (zW t) = 0 := by unfold oneP; rw [hn, hf, if_neg (by simp), if_neg (by omega), if_neg (by simp)]
      rw [if_pos e]; refine j9 fun x hx => ?_
      obtain ⟨i, hi⟩ := je0 hx; obtain ⟨_, _, cs', _, _, _, _, _, hP⟩ := hrr i x hi; exact ih n (d + 1) x cs' hP (h2 x hx) (by omega)
theorem jg0 {Q : Nat → Prop} {w : World} : ∀ (m n d : Nat) (c : Cmd) (cs : List Value), CmdM Q m w c cs → FitC n c → d + m ≤ 7 → jl n d c = 0 := by
  intro m
  induction m with
  | zero => intro n d t cs h; exact h.elim
  | succ m ih =>
    intro n d c cs h hF hd; cases n with
    | zero => rfl
    | succ n =>
      obtain ⟨h1, h2, h3, h4⟩ := hF; unfold qJ at h1; simp only [Bool.and_eq_true, decide_eq_true_eq] at h1; obtain ⟨⟨⟨⟨⟨k1, k2⟩, hf⟩, _⟩, _⟩, _⟩ := h1; have hn : jC 0 c.kind = true := by rw [jbJ]; simp; omega
      obtain ⟨_, _, _, _, _, _, _, _, hT, hA, hE⟩ := h; obtain ⟨_, _, _, _, hAr⟩ := hA; obtain ⟨_, _, _, _, hEr⟩ := hE; have e : oneP (jC 0 c.kind) d (qg c) = 0 := by unfold oneP; rw [hn, hf, if_neg (by simp), if_neg (by omega), if_neg (by simp)]
      rw [zo, if_neg (by rw [e]; simp)]
      by_cases hk : c.kind = 2
      · rw [if_neg (by simpa using hk), if_neg (by rw [jdY m n 1 c.test _ hT (h2 hk) (by omega)]; simp)]; have hthn : jn (jl n (d + 1)) c.thn = 0 := j9 fun x hx => by
          obtain ⟨i, hi⟩ := je0 hx; obtain ⟨_, _, cs', _, _, _, _, _, hP⟩ := hAr i x hi; exact ih n (d + 1) x cs' hP (h3 x hx) (by omega)
        rw [if_neg (by rw [hthn]; simp)]; have hel : ∀ (d' : Nat), d' ≤ d + 1 → ∀ x ∈ c.els, jl n d' x = 0 := fun d' hd' x hx => by
          obtain ⟨i, hi⟩ := je0 hx; obtain ⟨_, _, cs', _, _, _, _, _, hP⟩ := hEr i x hi; exact ih n d' x cs' hP (h4 x hx) (by omega)
        split
        · rename_i x hx; have hm : x ∈ c.els := by
            unfold jP at hx; split at hx
            · split at hx
              · cases hx; simp_all
              · cases hx
            · cases hx
          exact hel d (by omega) x hm
        · exact j9 fun x hx => hel (d + 1) (Nat.le_refl _) x hx
      · rw [if_pos hk]
end Go.Proofs.YtaapmpchcfcniaaGreatDoor
namespace Go.Proofs.YtaapmpchcfcniaaGreatDoor
open Go.ChangeShapes Go.WideShapes Go.ChangeAt Go.RowKit
theorem own : ownKnob Tryz.prog.godebug = none := by kernel_rfl
theorem laidOut : laidOutB Tryz.prog = true := by kernel_rfl
def layCells (cs : Array Value) : Obj → Obj
  | .cells _ t frozen => .cells cs t frozen
  | o => o
def wordCells : Array Value := (wTabs.flatMap fun r => r.map fun s => Value.string (S s)).toArray
def jkN : DataW Unit := .agg (wTabs.map fun r => .agg (r.map fun s => .lit (.string s)))
theorem jf6 : (Rows.laid_postroom_script_words : DataW Unit) = jkN := by kernel_rfl
theorem words_of (W : World) (h : laidMetH Tryz.prog [("postroom/script.words", Rows.laid_postroom_script_words)] W) : WordsAt W := by
  have h1 : laidMet Tryz.prog [("postroom/script.words", Rows.laid_postroom_script_words)] W := h; rw [jf6] at h1; obtain ⟨ps, ⟨g', t', cs, fuel, p, q, hg', ht', hvar, hd, _, _⟩, _⟩ := h1; have hg : Tryz.prog.globalNamed "postroom/script.words" = some 0 := by kernel_rfl
  have hty : (Tryz.prog.globals[0]?).map (·.type) = some 181 := by kernel_rfl
  obtain rfl := Option.some.inj (hg.symm.trans hg'); obtain rfl := Option.some.inj (hty.symm.trans ht'); have c11 : Tryz.prog.cellsOf 180 = 11 := by kernel_rfl
  have c1 : Tryz.prog.cellsOf 9 = 1 := by kernel_rfl
  obtain ⟨xs, m, _, ex, _, hxl, hx⟩ := DataW.trod_array Tryz.underlying181 hd; have exs : xs.map (·.1) = wTabs.map fun r => (.agg (r.map fun s => .lit (.string s)) : DataW Unit) := by
    have := congrArg Prod.fst ex
    simpa [jkN] using this.symm
  intro k n hk hn; have hx' := hx k hk; rw [c11] at hx'; obtain ⟨y, hy⟩ : ∃ y, xs[k]? = some y := ⟨_, List.getElem?_eq_getElem (by omega)⟩; rw [hy] at hx'; have hwk : wTabs[k]? = some (wTabs.getD k []) := by
    match k, hk with
    | 0, _ | 1, _ | 2, _ | 3, _ => rfl
  have ey : y.1 = .agg ((wTabs.getD k []).map fun s => .lit (.string s)) := by
    have := congrArg (·[k]?) exs; simp only [List.getElem?_map, hy, hwk, Option.map_some, Option.some.injEq] at this; exact this
  obtain ⟨ys, m', _, ez, _, hyl, hz⟩ := DataW.trod_array Tryz.underlying180 hx'; have eys : ys.map (·.1) = (wTabs.getD k []).map fun s => (.lit (.string s) : DataW Unit) := by
    have := congrArg Prod.fst ez; rw [ey] at this
    simpa using this.symm
  have hz' := hz n hn; rw [c1] at hz'; obtain ⟨u, hu⟩ : ∃ u, ys[n]? = some u := ⟨_, List.getElem?_eq_getElem (by omega)⟩; rw [hu] at hz'; obtain ⟨s, e1, e2, _⟩ := DataW.trod_string Tryz.underlying9 hz'; have hwn : (wTabs.getD k [])[n]? = some (jQ k n) := by
    have hlen := jlH k hk; rw [List.getElem?_eq_getElem (by omega), jmL k n (by omega)]
  have e3 : u.1 = .lit (.string (jQ k n)) := by
    have := congrArg (·[n]?) eys; simp only [List.getElem?_map, hu, hwn, Option.map_some, Option.some.injEq] at this; exact this
  have e4 : s.data.toList = jQ k n := by
    rw [e2] at e3
    simpa using e3
  have e5 : cs[k * 11 + n]? = some (.string s) := by
    have := congrArg (·[0]?) e1; simp only [List.getElem?_take, List.getElem?_drop] at this
    simpa [hn, Nat.add_assoc] using this
  rw [World.var?_cell hg hvar (k * 11 + n)]; rw [← e4, qe]
  simpa using e5
end Go.Proofs.YtaapmpchcfcniaaGreatDoor
namespace Go.Proofs.YtaapmpchcfcniaaGreatDoor
open Go.ChangeShapes Go.WideShapes Go.ChangeAt Go.RowKit
def flagCells : Array Value := (flagTab.flatMap fun x => [Value.string (S x.1), .int .i64 (x.2 : Nat)]).toArray
def jkB : DataW Unit := .agg (flagTab.map fun x => .agg [.lit (.string x.1), .lit (.int .i64 (x.2 : Nat))])
theorem jf5 : (Rows.laid_postroom_rule_flagNames : DataW Unit) = jkB := by kernel_rfl
theorem flags_of (W : World) (h : laidMetH Tryz.prog [("postroom/rule.flagNames", Rows.laid_postroom_rule_flagNames)] W) : FlagsAt W := by
  have h1 : laidMet Tryz.prog [("postroom/rule.flagNames", Rows.laid_postroom_rule_flagNames)] W := h; rw [jf5] at h1; obtain ⟨ps, ⟨g', t', cs, fuel, p, q, hg', ht', hvar, hd, _, _⟩, _⟩ := h1; have hg : Tryz.prog.globalNamed "postroom/rule.flagNames" = some 3 := by kernel_rfl
  have hty : (Tryz.prog.globals[3]?).map (·.type) = some 229 := by kernel_rfl
  obtain rfl := Option.some.inj (hg.symm.trans hg'); obtain rfl := Option.some.inj (hty.symm.trans ht'); have c2 : Tryz.prog.cellsOf 228 = 2 := by kernel_rfl
  have c1 : Tryz.prog.cellsOf 9 = 1 := by kernel_rfl
  have ci : Tryz.prog.cellsOf 3 = 1 := by kernel_rfl
  obtain ⟨xs, m, _, ex, _, hxl, hx⟩ := DataW.trod_array Tryz.underlying229 hd; have exs : xs.map (·.1) = flagTab.map fun x => (.agg [.lit (.string x.1), .lit (.int .i64 (x.2 : Nat))] : DataW Unit) := by
    have := congrArg Prod.fst ex
    simpa [jkB] using this.symm
  intro i hi; have hx' := hx i hi; rw [c2] at hx'; obtain ⟨y, hy⟩ : ∃ y, xs[i]? = some y := ⟨_, List.getElem?_eq_getElem (by omega)⟩; rw [hy] at hx'; have hft : flagTab[i]? = some (jaF i, jaH i) := by
    match i, hi with
    | 0, _ | 1, _ | 2, _ | 3, _ | 4, _ => rfl
  have ey : y.1 = .agg [.lit (.string (jaF i)), .lit (.int .i64 (jaH i : Nat))] := by
    have := congrArg (·[i]?) exs; simp only [List.getElem?_map, hy, hft, Option.map_some, Option.some.injEq] at this; exact this
  obtain ⟨zs, m', _, ez, _, hzl, hz⟩ := DataW.trod_struct Tryz.underlying228 hx'; have ezs : zs.map (·.1) = [(.lit (.string (jaF i)) : DataW Unit), .lit (.int .i64 (jaH i : Nat))] := by
    have := congrArg Prod.fst ez; rw [ey] at this
    simpa using this.symm
  obtain ⟨z0, z1, rfl⟩ : ∃ z0 z1, zs = [z0, z1] := by
    match zs, hzl with
    | [z0, z1], _ => exact ⟨z0, z1, rfl⟩
  have e0 : z0.1 = .lit (.string (jaF i)) := (List.cons.inj ezs).1; have e1 : z1.1 = .lit (.int .i64 (jaH i : Nat)) := (List.cons.inj (List.cons.inj ezs).2).1; have h0 := (hz 0 _ rfl).trans (show [z0, z1][0]? = some z0 from rfl); have h1' := (hz 1 _ rfl).trans (show [z0, z1][1]? = some z1 from rfl); obtain ⟨s, q0, q1, _⟩ := DataW.trod_string Tryz.underlying9 h0; obtain ⟨v, r0, r1, _⟩ := DataW.trod_int Tryz.underlying3 h1'; have q0 : List.take (Tryz.prog.cellsOf 9) (List.drop 0 (List.take 2 (List.drop (i * 2) cs.toList))) = [.string s] := q0; have r0 : List.take (Tryz.prog.cellsOf 3) (List.drop 1 (List.take 2 (List.drop (i * 2) cs.toList))) = [.int .i64 v] := r0; rw [c1] at q0; rw [ci] at r0; have es : s.data.toList = jaF i := by
    rw [q1] at e0
    simpa using e0
  have ev : v = (jaH i : Nat) := by
    rw [r1] at e1
    simpa using e1
  have f0 : cs[i * 2]? = some (.string s) := by
    have := congrArg (·[0]?) q0; simp only [List.getElem?_take, List.getElem?_drop] at this
    simpa using this
  have f1 : cs[i * 2 + 1]? = some (.int .i64 v) := by
    have := congrArg (·[0]?) r0; simp only [List.getElem?_take, List.getElem?_drop] at this
    simpa using this
  refine ⟨?_, ?_⟩
  · rw [World.var?_cell hg hvar (i * 2), ← es, qe]
    simpa using f0
  · rw [World.var?_cell hg hvar (i * 2 + 1), ← ev]
    simpa using f1
end Go.Proofs.YtaapmpchcfcniaaGreatDoor
namespace Go.Proofs.YtaapmpchcfcniaaGreatDoor
open Go.ChangeShapes Go.WideShapes Go.ChangeAt Go.RowKit
def litC : DataW Unit → List Value
  | .lit (.int k n) => [.int k n]
  | .lit (.string s) => [.string (S s)]
  | _ => []
def jmW : DataW Unit → List Value
  | .agg l => l.flatMap litC
  | d => litC d
def cellsD : DataW Unit → Array Value
  | .agg l => (l.flatMap jmW).toArray
  | _ => #[]
theorem jbW {W : World} {nm : String} {g n : Nat} {t : TypeId} {l : List (List UInt8)} (hg : Tryz.prog.globalNamed nm = some g) (hty : (Tryz.prog.globals[g]?).map (·.type) = some t) (hu : Tryz.prog.underlying t = some (.array n 9)) (hn : l.length = n)
    (h : laidMet Tryz.prog [(nm, (.agg (l.map fun s => .lit (.string s)) : DataW Unit))] W) : TabAt W g l := by
  obtain ⟨ps, ⟨g', t', cs, fuel, p, q, hg', ht', hvar, hd, _, _⟩, _⟩ := h; obtain rfl := Option.some.inj (hg.symm.trans hg'); obtain rfl := Option.some.inj (hty.symm.trans ht'); have c1 : Tryz.prog.cellsOf 9 = 1 := by kernel_rfl
  obtain ⟨xs, m, _, ex, _, hxl, hx⟩ := DataW.trod_array hu hd; have exs : xs.map (·.1) = l.map fun s => (.lit (.string s) : DataW Unit) := by
    have := congrArg Prod.fst ex
    simpa using this.symm
  intro i s hs; have hi : i < l.length := (List.getElem?_eq_some_iff.1 hs).1; have hx' := hx i (by omega); rw [c1] at hx'; obtain ⟨y, hy⟩ : ∃ y, xs[i]? = some y := ⟨_, List.getElem?_eq_getElem (by omega)⟩; rw [hy] at hx'; obtain ⟨b, e1, e2, _⟩ := DataW.trod_string Tryz.underlying9 hx'; have e3 : y.1 = .lit (.string s) := by
    have := congrArg (·[i]?) exs; simp only [List.getElem?_map, hy, hs, Option.map_some, Option.some.injEq] at this; exact this
  have e4 : b.data.toList = s := by
    rw [e2] at e3
    simpa using e3
  have e5 : cs[i]? = some (.string b) := by
    have := congrArg (·[0]?) e1; simp only [List.getElem?_take, List.getElem?_drop] at this
    simpa using this
  rw [World.var?_cell hg hvar i, ← e4, qe]
  simpa using e5
def one (nm : String) (L : List (String × DataW Unit)) : List (String × DataW Unit) := L.filter fun x => x.1 == nm
def TabsM (w : World) : Prop := Tabs w ∧ maxLenCell w
theorem TabsM.next {w w' : World} (h : TabsM w) (hb : Below w.heap.size w w') : TabsM w' := ⟨h.1.next hb, maxLenCell_below h.2 hb⟩
theorem tabs_of (W : World) (L : List (String × DataW Unit)) (hsh : W.ShapedOpen Tryz.prog) (hL : laidMet Tryz.prog L W)
    (h1 : one "postroom/script.words" L = [("postroom/script.words", Rows.laid_postroom_script_words)]) (h2 : one "postroom/rule.flagNames" L = [("postroom/rule.flagNames", Rows.laid_postroom_rule_flagNames)])
    (h3 : one "postroom/rule.requirable" L = [("postroom/rule.requirable", .agg (extT.map fun s => .lit (.string s)))])
    (h4 : one "postroom/rule.envelopeParts" L = [("postroom/rule.envelopeParts", .agg (partT.map fun s => .lit (.string s)))])
    (h5 : one "postroom/rule.neededFor" L = [("postroom/rule.neededFor", .agg (needT.map fun s => .lit (.string s)))]) : TabsM W := by
  have f : ∀ nm, laidMet Tryz.prog (one nm L) W := fun nm => laidMet.filter (fun x => x.1 == nm) hL
  refine ⟨⟨words_of W ?_, ?_, ?_, ?_, flags_of W ?_⟩, maxLenCell_shaped W hsh⟩
  · have := f "postroom/script.words"; rw [h1] at this; exact this
  · have := f "postroom/rule.requirable"; rw [h3] at this; exact jbW (n := 4) (by kernel_rfl) (by kernel_rfl) Tryz.underlying183 rfl this
  · have := f "postroom/rule.envelopeParts"; rw [h4] at this; exact jbW (n := 2) (by kernel_rfl) (by kernel_rfl) Tryz.underlying247 rfl this
  · have := f "postroom/rule.neededFor"; rw [h5] at this; exact jbW (n := 11) (by kernel_rfl) (by kernel_rfl) Tryz.underlying180 rfl this
  · have := f "postroom/rule.flagNames"; rw [h2] at this; exact this
end Go.Proofs.YtaapmpchcfcniaaGreatDoor
