/-
  The writer of ops adds one: the walk.
-/
import Derived.Test.YtlcnfpeabnnjoaaGreatDoorCodMem
import Derived.Deep.MidRow
namespace Go.Proofs.YtlcnfpeabnnjoaaGreatDoor
open Go.RowKit Go.Proofs

set_option maxHeartbeats 1000000 in
set_option maxRecDepth 100000 in
theorem addO_any (X : Nat → Prop) (b : Nat) (acc : List Opr) (x : Opr) (v0 v1 v2 v3 v4 v5 v6 v7 v8 v9 v10 v11 v12 v13 v14 v15 v16 v17 v18 v19 v20 v21 : Value) (w : World) (h : WrC X w b acc) (hl : acc.length ≤ 1000) (hx : OpM (handQ X w b) w x [v0, v1, v2, v3, v4, v5, v6, v7, v8, v9, v10, v11, v12, v13, v14, v15, v16, v17, v18, v19, v20, v21]) :
    Calls Tryz.prog 108 #[.pointer (some ⟨b, 0, none⟩), .agg #[v0, v1, v2, v3, v4, v5, v6, v7, v8, v9, v10, v11, v12, v13, v14, v15, v16, v17, v18, v19, v20, v21]] w fun e w' => e = .returned (.int .i64 (acc.length : Int)) ∧ WrC X w' b (acc ++ [x]) ∧ Below b w w' ∧ FrC b w w' := by
  obtain ⟨a, k, h1, h2⟩ := h
  have hlt : b < w.heap.size := (Array.getElem?_eq_some_iff.1 h1).1
  have H0 := hid h1
  obtain ⟨W1, hW1⟩ : ∃ W1, W1 = w.alloc (.cells #[v0, v1, v2, v3, v4, v5, v6, v7, v8, v9, v10, v11, v12, v13, v14, v15, v16, v17, v18, v19, v20, v21] 79) := ⟨_, rfl⟩
  have hal : Below w.heap.size w W1 := by rw [hW1]; exact (Below.refl _ _).alloc (Nat.le_refl _) _
  have hs1 : W1.heap.size = w.heap.size + 1 := by rw [hW1]; simp
  have hb1 := gm_low hal h1
  have hX : W1.heap[w.heap.size]? = some (.cells #[v0, v1, v2, v3, v4, v5, v6, v7, v8, v9, v10, v11, v12, v13, v14, v15, v16, v17, v18, v19, v20, v21] 79) := by rw [hW1]; exact heap_alloc_new w _
  have hRg : W1.drew.rangeAt w.heap.size 0 [v0, v1, v2, v3, v4, v5, v6, v7, v8, v9, v10, v11, v12, v13, v14, v15, v16, v17, v18, v19, v20, v21] := (World.rangeAt_drew _ _ _ _).2 fun j v hj => by rw [Nat.zero_add]; exact gm_cell hX (by simpa using hj)
  have HRg := hid hRg
  have HSZ := hid (show (Tryz.prog.info? 79).map (·.size) = some [v0, v1, v2, v3, v4, v5, v6, v7, v8, v9, v10, v11, v12, v13, v14, v15, v16, v17, v18, v19, v20, v21].length from show (Tryz.prog.info? 79).map (·.size) = some 22 by kernel_rfl)
  obtain ⟨q0, f0⟩ := box1 hb1
  have q0a : ∀ o : Obj, (W1.alloc o).cell? ⟨b, 0, none⟩ = some (.slice a acc.length k) := fun o => wcell_more q0 o
  obtain ⟨i0, hi, hz0, hz1, hz2⟩ := info_parts infoOp
  obtain ⟨css, o1, o2, o3, o4⟩ := OwnRow.next' (firm_opX X) h2 hal
  have HO4 := hid o4
  have HO1 := hid o1
  have hneb : some b ≠ (Value.slice a acc.length k).ownBlock := fun e => by have := (World.ownsRow.lt o1 b e.symm).1; omega
  have hge : ∀ j, (Value.slice a acc.length k).ownBlock = some j → b ≤ j := fun j hj => by have := (World.ownsRow.lt o1 j hj).1; omega
  have HLEN := hid (op_len hx)
  have HONE := hid (op_one hx)
  have HR0 := hid (rowC_one h1)
  have HX := hid (show ∀ Wx : World, (∀ p, p < W1.heap.size → Wx.heap[p]? = W1.heap[p]?) → W1.heap.size ≤ Wx.heap.size → OpM (fun p => rowQ (b + 1) Wx (.slice a acc.length k) p ∧ ¬ X p) Wx x [v0, v1, v2, v3, v4, v5, v6, v7, v8, v9, v10, v11, v12, v13, v14, v15, v16, v17, v18, v19, v20, v21] from fun Wx hp hz => firm_op _ _ _ _ _ _ (fun p hp => ⟨⟨hp.1.1, by have := hp.1.2.1; omega, by rw [← rowC_one h1]; exact hp.1.2.2⟩, hp.2⟩) ⟨by omega, fun p hp' _ => (hp p (by omega)).trans (hal.block p hp')⟩ hx)
  have HWE := hid hW1
  have HAL := hid (show Below b w W1 from hal.mono (by omega))
  have HBX := hid hb1
  have HJO := hid (show ∀ o : Obj, ∀ p, p < W1.heap.size → (W1.drew.alloc o).heap[p]? = W1.heap[p]? from fun o p hp => gm_old W1.drew o hp)
  have HJO0 := hid (show ∀ o : Obj, ∀ p, p < w.heap.size → (W1.drew.alloc o).heap[p]? = w.heap[p]? from fun o p hp => (gm_old W1.drew o (show p < W1.heap.size by omega)).trans (hal.block p hp))
  have HJS := hid (show ∀ o : Obj, W1.heap.size ≤ (W1.drew.alloc o).heap.size from fun o => by simp)
  have HEI := hid (show ∀ j u, [v0, v1, v2, v3, v4, v5, v6, v7, v8, v9, v10, v11, v12, v13, v14, v15, v16, v17, v18, v19, v20, v21][j]? = some u → (W1.drew.alloc (.cells #[v0, v1, v2, v3, v4, v5, v6, v7, v8, v9, v10, v11, v12, v13, v14, v15, v16, v17, v18, v19, v20, v21] 79)).cell? ((⟨w.heap.size + 1, 0, none⟩ : Addr).add j) = some u from by rw [← hs1]; exact eight W1.drew [v0, v1, v2, v3, v4, v5, v6, v7, v8, v9, v10, v11, v12, v13, v14, v15, v16, v17, v18, v19, v20, v21] 79)
  clear h1 h2 hx hW1 hal hb1 hX o1 o4 hRg
  go_enter Tryz.func108, Tryz.ntmps108
  go_upto_region 1 with fail
  rw [← HWE.out]
  refine wp_region_any (by kernel_rfl) ?_
  try (change wpAny _ _ _ _ _ _ _ (World.drew _))
  refine wpAny_take (i := 0) (v := ?va1) rfl (by kernel_rfl) (by kernel_rfl) (by kernel_rfl) (fun _ _ _ h => h) (Or.inl ⟨by rfl, ?hy1⟩) ?_
  case hy1 =>
    intro w
    go_simp
    all_goals with_reducible rfl
  refine wpAny_take (i := 1) (v := ?va2) rfl (by kernel_rfl) (by kernel_rfl) (by kernel_rfl) (fun _ _ _ h => h) (Or.inl ⟨by rfl, ?hy2⟩) ?_
  case hy2 =>
    intro w
    go_simp
    all_goals with_reducible rfl
  refine wpAny_take (i := 2) (v := ?va3) rfl (by kernel_rfl) (by kernel_rfl) (by kernel_rfl) (fun _ _ _ h => h) (Or.inl ⟨by rfl, ?hy3⟩) ?_
  case hy3 =>
    intro w
    go_simp
    all_goals with_reducible rfl
  refine wpAny_take (i := 3) (v := ?va4) rfl (by kernel_rfl) (by kernel_rfl) (by kernel_rfl) (fun _ _ _ h => h) (Or.inl ⟨by rfl, ?hy4⟩) ?_
  case hy4 =>
    intro w
    go_simp
    all_goals with_reducible rfl
  refine wpAny_ready (rs := [4, 5]) (by kernel_rfl) (by simp) ?_
  refine AllReady.cons rfl (fun K hK => ?_) ?_
  · skip
    go_simp
    refine hK _ _ ?_
    clear hK K
    refine wpAny_ready (rs := [5]) (by kernel_rfl) (by simp) ?_
    refine AllReady.cons rfl (fun K hK => ?_) ?_
    · skip
      rw [if_pos (by rfl)]
      refine wp_load_mid 79 _ rfl w.heap.size 0 rfl [v0, v1, v2, v3, v4, v5, v6, v7, v8, v9, v10, v11, v12, v13, v14, v15, v16, v17, v18, v19, v20, v21] _ HRg.out Tryz.underlying79 rfl HSZ.out ?_
      refine hK _ _ ?_
      clear hK K
      simp only [Act.put, List.setIfInBounds_toArray]
      refine wpAny_ready (rs := [6]) (by kernel_rfl) (by simp) ?_
      refine AllReady.cons rfl (fun K hK => ?_) ?_
      · skip
        go_simp
        refine hK _ _ ?_
        clear hK K
        refine wpAny_ready (rs := [7]) (by kernel_rfl) (by simp) ?_
        refine AllReady.cons rfl (fun K hK => ?_) ?_
        · skip
          refine step_append_lies _ (by rfl) _ _ _ (by rfl) (b + 1) 79 i0 _ 22 320 Tryz.underlying71 hi hz0 hz1 hz2 rfl (by omega) (.slice a acc.length k) acc.length css.flatten (by rfl) (by first | exact World.ownsRow.alloc (show World.ownsRow W1.drew _ _ _ _ _ _ from HO1.out) _ | exact (World.ownsRow.alloc HO1.out _).drew)
            ⟨w.heap.size + 1, 0, none⟩ 1 1 [v0, v1, v2, v3, v4, v5, v6, v7, v8, v9, v10, v11, v12, v13, v14, v15, v16, v17, v18, v19, v20, v21] (by rfl) (by rfl) HEI.out HONE.out (by omega) (by unfold maxLen; omega) (by omega) (by simp; omega) _ rfl ?_
          intro g cap w5 hown5 hgrow hat hlt5
          have HBb := hid (show w5.heap[b]? = some (.cells #[.slice a acc.length k] 141) from (hgrow.block b (by simp; omega) hneb).trans ((HJO.out _ b (by omega)).trans HBX.out))
          have HBl := hid (show Below b w w5 from ((HAL.out.drew).alloc (by simp; omega) _).grown hgrow (by simp; omega) hge)
          have HOn := hid (show OwnOs X (b + 1) w5 (.slice (some ⟨g, 0, none⟩) (acc.length + 1) cap) (acc ++ [x]) from OwnRow.more (firm_opX X) o2 o3 (fun i y cs hy hcs => firm_opX X _ _ _ _ _ _ (fun p hp => ⟨hp.1, by have := hp.2.1; simp; omega, hp.2.2⟩) ⟨HJS.out _, fun p hp _ => HJO.out _ p hp⟩ (HO4.out i y cs hy hcs)) (HX.out _ (HJO.out _) (HJS.out _)) HLEN.out hown5 hgrow (by
            rcases hat with e | e
            · exact .inl e.symm
            · exact .inr (by rw [e]; rfl)) (Nat.le_refl _))
          have HFr := hid (show FrC b w (w5.setCell ⟨b, 0, none⟩ (.slice (some ⟨g, 0, none⟩) (acc.length + 1) cap)) from FrC.app1 H0.out (HJO0.out _) (by have := HJS.out (.cells #[v0, v1, v2, v3, v4, v5, v6, v7, v8, v9, v10, v11, v12, v13, v14, v15, v16, v17, v18, v19, v20, v21] 79); omega) hgrow hat (by simp; omega) HBb.out)
          obtain ⟨t0, u0⟩ := box1 HBb.out
          clear hgrow hat hown5
          try go_simp
          refine hK _ _ ?_
          clear hK K
          refine wpAny_take (i := 8) (v := ?va5) rfl (by kernel_rfl) (by kernel_rfl) (by kernel_rfl) (fun _ _ _ h => h) (Or.inl ⟨by rfl, ?hy5⟩) ?_
          case hy5 =>
            intro w
            go_simp
            all_goals with_reducible rfl
          refine wpAny_take (i := 9) (v := ?va6) rfl (by kernel_rfl) (by kernel_rfl) (by kernel_rfl) (fun _ _ _ h => h) (Or.inl ⟨by rfl, ?hy6⟩) ?_
          case hy6 =>
            intro w
            go_simp
            all_goals with_reducible rfl
          refine wpAny_ready (rs := [10]) (by kernel_rfl) (by simp) ?_
          refine AllReady.cons rfl (fun K hK => ?_) ?_
          · skip
            go_simp
            refine hK _ _ ?_
            clear hK K
            refine wpAny_done (by kernel_rfl) ?_ _
            have HE := hid (show WrC X (w5.setCell ⟨b, 0, none⟩ (.slice (some ⟨g, 0, none⟩) (acc.length + 1) cap)) b (acc ++ [x]) from ⟨some ⟨g, 0, none⟩, cap, by
              have := gm_set HBb.out 0 (.slice (some ⟨g, 0, none⟩) (acc.length + 1) cap)
              simpa using this, by
              have := OwnOs.set0 (u := .slice (some ⟨g, 0, none⟩) (acc.length + 1) cap) HOn.out
              simpa using this⟩)
            have HE2 := hid (show Below b w (w5.setCell ⟨b, 0, none⟩ (.slice (some ⟨g, 0, none⟩) (acc.length + 1) cap)) from HBl.out.setCell (Nat.le_refl _) _)
            go_wp2
            go_ret
            exact ⟨by simp, HE.out, HE2.out, HFr.out⟩
          exact AllReady.nil
        exact AllReady.nil
      exact AllReady.nil
    exact AllReady.nil
  refine AllReady.cons rfl (fun K hK => ?_) ?_
  · skip
    rw [if_pos (by rfl)]
    refine wp_load_mid 79 _ rfl w.heap.size 0 rfl [v0, v1, v2, v3, v4, v5, v6, v7, v8, v9, v10, v11, v12, v13, v14, v15, v16, v17, v18, v19, v20, v21] _ HRg.out Tryz.underlying79 rfl HSZ.out ?_
    refine hK _ _ ?_
    clear hK K
    simp only [Act.put, List.setIfInBounds_toArray]
    refine wpAny_ready (rs := [4, 6]) (by kernel_rfl) (by simp) ?_
    refine AllReady.cons rfl (fun K hK => ?_) ?_
    · skip
      go_simp
      refine hK _ _ ?_
      clear hK K
      refine wpAny_ready (rs := [6]) (by kernel_rfl) (by simp) ?_
      refine AllReady.cons rfl (fun K hK => ?_) ?_
      · skip
        go_simp
        refine hK _ _ ?_
        clear hK K
        refine wpAny_ready (rs := [7]) (by kernel_rfl) (by simp) ?_
        refine AllReady.cons rfl (fun K hK => ?_) ?_
        · skip
          refine step_append_lies _ (by rfl) _ _ _ (by rfl) (b + 1) 79 i0 _ 22 320 Tryz.underlying71 hi hz0 hz1 hz2 rfl (by omega) (.slice a acc.length k) acc.length css.flatten (by rfl) (by first | exact World.ownsRow.alloc (show World.ownsRow W1.drew _ _ _ _ _ _ from HO1.out) _ | exact (World.ownsRow.alloc HO1.out _).drew)
            ⟨w.heap.size + 1, 0, none⟩ 1 1 [v0, v1, v2, v3, v4, v5, v6, v7, v8, v9, v10, v11, v12, v13, v14, v15, v16, v17, v18, v19, v20, v21] (by rfl) (by rfl) HEI.out HONE.out (by omega) (by unfold maxLen; omega) (by omega) (by simp; omega) _ rfl ?_
          intro g cap w5 hown5 hgrow hat hlt5
          have HBb := hid (show w5.heap[b]? = some (.cells #[.slice a acc.length k] 141) from (hgrow.block b (by simp; omega) hneb).trans ((HJO.out _ b (by omega)).trans HBX.out))
          have HBl := hid (show Below b w w5 from ((HAL.out.drew).alloc (by simp; omega) _).grown hgrow (by simp; omega) hge)
          have HOn := hid (show OwnOs X (b + 1) w5 (.slice (some ⟨g, 0, none⟩) (acc.length + 1) cap) (acc ++ [x]) from OwnRow.more (firm_opX X) o2 o3 (fun i y cs hy hcs => firm_opX X _ _ _ _ _ _ (fun p hp => ⟨hp.1, by have := hp.2.1; simp; omega, hp.2.2⟩) ⟨HJS.out _, fun p hp _ => HJO.out _ p hp⟩ (HO4.out i y cs hy hcs)) (HX.out _ (HJO.out _) (HJS.out _)) HLEN.out hown5 hgrow (by
            rcases hat with e | e
            · exact .inl e.symm
            · exact .inr (by rw [e]; rfl)) (Nat.le_refl _))
          have HFr := hid (show FrC b w (w5.setCell ⟨b, 0, none⟩ (.slice (some ⟨g, 0, none⟩) (acc.length + 1) cap)) from FrC.app1 H0.out (HJO0.out _) (by have := HJS.out (.cells #[v0, v1, v2, v3, v4, v5, v6, v7, v8, v9, v10, v11, v12, v13, v14, v15, v16, v17, v18, v19, v20, v21] 79); omega) hgrow hat (by simp; omega) HBb.out)
          obtain ⟨t0, u0⟩ := box1 HBb.out
          clear hgrow hat hown5
          try go_simp
          refine hK _ _ ?_
          clear hK K
          refine wpAny_take (i := 8) (v := ?va7) rfl (by kernel_rfl) (by kernel_rfl) (by kernel_rfl) (fun _ _ _ h => h) (Or.inl ⟨by rfl, ?hy7⟩) ?_
          case hy7 =>
            intro w
            go_simp
            all_goals with_reducible rfl
          refine wpAny_take (i := 9) (v := ?va8) rfl (by kernel_rfl) (by kernel_rfl) (by kernel_rfl) (fun _ _ _ h => h) (Or.inl ⟨by rfl, ?hy8⟩) ?_
          case hy8 =>
            intro w
            go_simp
            all_goals with_reducible rfl
          refine wpAny_ready (rs := [10]) (by kernel_rfl) (by simp) ?_
          refine AllReady.cons rfl (fun K hK => ?_) ?_
          · skip
            go_simp
            refine hK _ _ ?_
            clear hK K
            refine wpAny_done (by kernel_rfl) ?_ _
            have HE := hid (show WrC X (w5.setCell ⟨b, 0, none⟩ (.slice (some ⟨g, 0, none⟩) (acc.length + 1) cap)) b (acc ++ [x]) from ⟨some ⟨g, 0, none⟩, cap, by
              have := gm_set HBb.out 0 (.slice (some ⟨g, 0, none⟩) (acc.length + 1) cap)
              simpa using this, by
              have := OwnOs.set0 (u := .slice (some ⟨g, 0, none⟩) (acc.length + 1) cap) HOn.out
              simpa using this⟩)
            have HE2 := hid (show Below b w (w5.setCell ⟨b, 0, none⟩ (.slice (some ⟨g, 0, none⟩) (acc.length + 1) cap)) from HBl.out.setCell (Nat.le_refl _) _)
            go_wp2
            go_ret
            exact ⟨by simp, HE.out, HE2.out, HFr.out⟩
          exact AllReady.nil
        exact AllReady.nil
      exact AllReady.nil
    refine AllReady.cons rfl (fun K hK => ?_) ?_
    · skip
      go_simp
      refine hK _ _ ?_
      clear hK K
      refine wpAny_ready (rs := [4]) (by kernel_rfl) (by simp) ?_
      refine AllReady.cons rfl (fun K hK => ?_) ?_
      · skip
        go_simp
        refine hK _ _ ?_
        clear hK K
        refine wpAny_ready (rs := [7]) (by kernel_rfl) (by simp) ?_
        refine AllReady.cons rfl (fun K hK => ?_) ?_
        · skip
          refine step_append_lies _ (by rfl) _ _ _ (by rfl) (b + 1) 79 i0 _ 22 320 Tryz.underlying71 hi hz0 hz1 hz2 rfl (by omega) (.slice a acc.length k) acc.length css.flatten (by rfl) (by first | exact World.ownsRow.alloc (show World.ownsRow W1.drew _ _ _ _ _ _ from HO1.out) _ | exact (World.ownsRow.alloc HO1.out _).drew)
            ⟨w.heap.size + 1, 0, none⟩ 1 1 [v0, v1, v2, v3, v4, v5, v6, v7, v8, v9, v10, v11, v12, v13, v14, v15, v16, v17, v18, v19, v20, v21] (by rfl) (by rfl) HEI.out HONE.out (by omega) (by unfold maxLen; omega) (by omega) (by simp; omega) _ rfl ?_
          intro g cap w5 hown5 hgrow hat hlt5
          have HBb := hid (show w5.heap[b]? = some (.cells #[.slice a acc.length k] 141) from (hgrow.block b (by simp; omega) hneb).trans ((HJO.out _ b (by omega)).trans HBX.out))
          have HBl := hid (show Below b w w5 from ((HAL.out.drew).alloc (by simp; omega) _).grown hgrow (by simp; omega) hge)
          have HOn := hid (show OwnOs X (b + 1) w5 (.slice (some ⟨g, 0, none⟩) (acc.length + 1) cap) (acc ++ [x]) from OwnRow.more (firm_opX X) o2 o3 (fun i y cs hy hcs => firm_opX X _ _ _ _ _ _ (fun p hp => ⟨hp.1, by have := hp.2.1; simp; omega, hp.2.2⟩) ⟨HJS.out _, fun p hp _ => HJO.out _ p hp⟩ (HO4.out i y cs hy hcs)) (HX.out _ (HJO.out _) (HJS.out _)) HLEN.out hown5 hgrow (by
            rcases hat with e | e
            · exact .inl e.symm
            · exact .inr (by rw [e]; rfl)) (Nat.le_refl _))
          have HFr := hid (show FrC b w (w5.setCell ⟨b, 0, none⟩ (.slice (some ⟨g, 0, none⟩) (acc.length + 1) cap)) from FrC.app1 H0.out (HJO0.out _) (by have := HJS.out (.cells #[v0, v1, v2, v3, v4, v5, v6, v7, v8, v9, v10, v11, v12, v13, v14, v15, v16, v17, v18, v19, v20, v21] 79); omega) hgrow hat (by simp; omega) HBb.out)
          obtain ⟨t0, u0⟩ := box1 HBb.out
          clear hgrow hat hown5
          try go_simp
          refine hK _ _ ?_
          clear hK K
          refine wpAny_take (i := 8) (v := ?va9) rfl (by kernel_rfl) (by kernel_rfl) (by kernel_rfl) (fun _ _ _ h => h) (Or.inl ⟨by rfl, ?hy9⟩) ?_
          case hy9 =>
            intro w
            go_simp
            all_goals with_reducible rfl
          refine wpAny_take (i := 9) (v := ?va10) rfl (by kernel_rfl) (by kernel_rfl) (by kernel_rfl) (fun _ _ _ h => h) (Or.inl ⟨by rfl, ?hy10⟩) ?_
          case hy10 =>
            intro w
            go_simp
            all_goals with_reducible rfl
          refine wpAny_ready (rs := [10]) (by kernel_rfl) (by simp) ?_
          refine AllReady.cons rfl (fun K hK => ?_) ?_
          · skip
            go_simp
            refine hK _ _ ?_
            clear hK K
            refine wpAny_done (by kernel_rfl) ?_ _
            have HE := hid (show WrC X (w5.setCell ⟨b, 0, none⟩ (.slice (some ⟨g, 0, none⟩) (acc.length + 1) cap)) b (acc ++ [x]) from ⟨some ⟨g, 0, none⟩, cap, by
              have := gm_set HBb.out 0 (.slice (some ⟨g, 0, none⟩) (acc.length + 1) cap)
              simpa using this, by
              have := OwnOs.set0 (u := .slice (some ⟨g, 0, none⟩) (acc.length + 1) cap) HOn.out
              simpa using this⟩)
            have HE2 := hid (show Below b w (w5.setCell ⟨b, 0, none⟩ (.slice (some ⟨g, 0, none⟩) (acc.length + 1) cap)) from HBl.out.setCell (Nat.le_refl _) _)
            go_wp2
            go_ret
            exact ⟨by simp, HE.out, HE2.out, HFr.out⟩
          exact AllReady.nil
        exact AllReady.nil
      exact AllReady.nil
    exact AllReady.nil
  exact AllReady.nil
end Go.Proofs.YtlcnfpeabnnjoaaGreatDoor
