/-
  An If alone in an Else is an elsif: walked.
-/
import Derived.Test.YtaelgmibjiocfaaDoorScrElm
import Derived.Test.YtaelgmibjiocfaaDoorScrEl2
import Derived.Test.YtaelgmibjiocfaaDoorScrSh
import Derived.Test.YtaelgmibjiocfaaDoorAppCmd
import Derived.Deep.RegionLaw
import Derived.Deep.RegionHeld3
import Derived.Deep.DeepCutAuto
import Derived.Deep.MidRow
import Derived.Deep.QuietTactic
import Derived.BigQuiet
namespace Go.Proofs.YtaelgmibjiocfaaDoor
open Go.RowKit Go.Proofs

theorem tl0_cell {w : World} {b j : Nat} {cs : Array Value} {t : TypeId} {fr : Nat × Nat} {v : Value} (h : w.heap[b]? = some (.cells cs t fr)) (hj : cs[j]? = some v) : w.cell? ⟨b, j, none⟩ = some v := box_cell h hj
theorem tl0_low {w w' : World} {b : Nat} {x : Obj} (h : Below w.heap.size w w') (hb : w.heap[b]? = some x) : w'.heap[b]? = some x := (h.block b (Array.getElem?_eq_some_iff.1 hb).1).trans hb
/-- A test that was made, as its eight cells. -/
def TstG (W v : World) (e : Ending) (w' : World) : Prop := ∃ (t : Tst) (an ak at' : Option Addr) (cn ck ct : Nat), e = .returned (.agg #[.int .i64 t.kind, .int .i64 t.mat, .int .i64 t.part, .slice an t.names.length cn, .slice ak t.keys.length ck, .bool t.over, .int .i64 t.limit, .slice at' t.tests.length ct]) ∧ TstM anyB 1 w' t [.int .i64 t.kind, .int .i64 t.mat, .int .i64 t.part, .slice an t.names.length cn, .slice ak t.keys.length ck, .bool t.over, .int .i64 t.limit, .slice at' t.tests.length ct] ∧ NT t ∧ Below v.heap.size v w' ∧ Below W.heap.size W w'
theorem TestP.gen {W v w' : World} {e : Ending} (h : TestP 1 v e w') (hW : Below W.heap.size W v) : TstG W v e w' := by
  obtain ⟨t, cs, rfl, hT, hN, hb⟩ := h
  obtain ⟨an, cn, ak, ck, at', ct, m, _, rfl, _⟩ := tst_form hT
  exact ⟨t, an, ak, at', cn, ck, ct, rfl, TstM.imp (fun _ _ => trivial) (Keeps.refl _ _) _ _ _ hT, hN, hb, hW.trans (hb.mono hW.size)⟩
theorem els_there {w : World} {b : Nat} {v0 v1 v2 v3 v4 v5 v6 v7 v8 v9 v10 v11 : Value} {t : TypeId} (h : w.heap[b]? = some (.cells #[v0, v1, v2, v3, v4, v5, v6, v7, v8, v9, v10, v11] t)) : w.there b 0 12 := fun j hj => by
  refine ⟨?_, by rw [Nat.zero_add]; exact box_free h j⟩
  rw [Nat.zero_add]
  simp only [World.cell?, h]
  simpa using hj
theorem wd_eq (x y : List UInt8) : ((S x).toList == y) = decide (x = y) := by
  rw [Lib.toList_data]
  show (x == y) = _
  by_cases h : x = y
  · subst h; simp
  · simp [h]
theorem els_below {W wx : World} {p : Value} (h : ElsB W p wx) : Below W.heap.size W wx := by
  obtain ⟨_, _, _, _, _, _, _, _, _, _, _, _, _, _, _, _, _, _, _, _, _, _, _, _, _, hb⟩ := h
  exact hb
set_option linter.unusedSimpArgs false in
set_option maxHeartbeats 4000000 in
set_option maxRecDepth 100000 in
theorem scriptElse_wlk (ht : TestC 3 1) (w : World) (hm : WordsAt w) (x : Stk) (nx : Nat) (cx : List Value) (hx : StkM nx w x cx) (y : Stk) (ny : Nat) (cy : List Value) (hy : StkM ny w y cy) :
    Calls Tryd.prog 3 #[.agg cx.toArray, .agg cy.toArray] w fun e w' => e = .returned (.bool true) ∧ Below w.heap.size w w' := by
  have HM := hid hm
  have HX := hid hx
  have HY := hid hy
  obtain ⟨ai, ci, h1⟩ : ∃ ai ci, cx = [.int .i64 x.kind, .int .i64 x.a, .int .i64 x.b, .string (S x.s), .string (S x.t), .slice ai x.ins.length ci] := by
    cases nx with
    | zero => exact hx.elim
    | succ nx => obtain ⟨ai, ci, e, _⟩ := hx; exact ⟨ai, ci, e⟩
  obtain ⟨bi, di, h2⟩ : ∃ bi di, cy = [.int .i64 y.kind, .int .i64 y.a, .int .i64 y.b, .string (S y.s), .string (S y.t), .slice bi y.ins.length di] := by
    cases ny with
    | zero => exact hy.elim
    | succ ny => obtain ⟨bi, di, e, _⟩ := hy; exact ⟨bi, di, e⟩
  subst h1 h2
  obtain ⟨W1, hW1⟩ : ∃ W1, W1 = (w.alloc (.cells #[.int .i64 x.kind, .int .i64 x.a, .int .i64 x.b, .string (S x.s), .string (S x.t), .slice ai x.ins.length ci] 24)).alloc (.cells #[.int .i64 y.kind, .int .i64 y.a, .int .i64 y.b, .string (S y.s), .string (S y.t), .slice bi y.ins.length di] 24) := ⟨_, rfl⟩
  have HWE := hid hW1
  have hB1 : Below w.heap.size w W1 := by rw [hW1]; exact ((Below.refl _ _).alloc (Nat.le_refl _) _).alloc (by simp) _
  have HB1 := hid hB1
  have hX1 : W1.heap[w.heap.size]? = some (.cells #[.int .i64 x.kind, .int .i64 x.a, .int .i64 x.b, .string (S x.s), .string (S x.t), .slice ai x.ins.length ci] 24) := by rw [hW1]; exact heap_old _ (heap_at _ rfl)
  have hY1 : W1.heap[w.heap.size + 1]? = some (.cells #[.int .i64 y.kind, .int .i64 y.a, .int .i64 y.b, .string (S y.s), .string (S y.t), .slice bi y.ins.length di] 24) := by rw [hW1]; exact heap_at _ (by simp)
  have s0 : W1.cell? ⟨w.heap.size, 0, none⟩ = some (.int .i64 x.kind) := tl0_cell (j := 0) hX1 rfl
  have s1 : W1.cell? ⟨w.heap.size, 1, none⟩ = some (.int .i64 x.a) := tl0_cell (j := 1) hX1 rfl
  have s2 : W1.cell? ⟨w.heap.size, 2, none⟩ = some (.int .i64 x.b) := tl0_cell (j := 2) hX1 rfl
  have s3 : W1.cell? ⟨w.heap.size, 3, none⟩ = some (.string (S x.s)) := tl0_cell (j := 3) hX1 rfl
  have s4 : W1.cell? ⟨w.heap.size, 4, none⟩ = some (.string (S x.t)) := tl0_cell (j := 4) hX1 rfl
  have s5 : W1.cell? ⟨w.heap.size, 5, none⟩ = some (.slice ai x.ins.length ci) := tl0_cell (j := 5) hX1 rfl
  have r0 : W1.cell? ⟨w.heap.size + 1, 0, none⟩ = some (.int .i64 y.kind) := tl0_cell (j := 0) hY1 rfl
  have r1 : W1.cell? ⟨w.heap.size + 1, 1, none⟩ = some (.int .i64 y.a) := tl0_cell (j := 1) hY1 rfl
  have r2 : W1.cell? ⟨w.heap.size + 1, 2, none⟩ = some (.int .i64 y.b) := tl0_cell (j := 2) hY1 rfl
  have r3 : W1.cell? ⟨w.heap.size + 1, 3, none⟩ = some (.string (S y.s)) := tl0_cell (j := 3) hY1 rfl
  have r4 : W1.cell? ⟨w.heap.size + 1, 4, none⟩ = some (.string (S y.t)) := tl0_cell (j := 4) hY1 rfl
  have r5 : W1.cell? ⟨w.heap.size + 1, 5, none⟩ = some (.slice bi y.ins.length di) := tl0_cell (j := 5) hY1 rfl
  have HTX := hid (show ∀ v, Below W1.heap.size W1 v → Calls Tryd.prog 4 #[.agg #[.int .i64 x.kind, .int .i64 x.a, .int .i64 x.b, .string (S x.s), .string (S x.t), .slice ai x.ins.length ci], .int .i64 3] v (TstG W1 v) from fun v hv => (ht nx x _ v (StkM.next HX.out (HB1.out.trans (hv.mono HB1.out.size)))).mono fun e w' h => h.gen hv)
  have HTY := hid (show ∀ (v w2 : World) (t : Tst) (ts : List Value), Below W1.heap.size W1 v → Below w2.heap.size w2 v → TstM anyB 1 w2 t ts → Calls Tryd.prog 4 #[.agg #[.int .i64 y.kind, .int .i64 y.a, .int .i64 y.b, .string (S y.s), .string (S y.t), .slice bi y.ins.length di], .int .i64 3] v (fun e w' => TstG W1 v e w' ∧ TstM anyB 1 w' t ts) from fun v w2 t ts hv h2 hT => (ht ny y _ v (StkM.next HY.out (HB1.out.trans (hv.mono HB1.out.size)))).mono fun e w' h => ⟨h.gen hv, TstM.imp (fun _ h => h) (Keeps.of_below (h2.trans ((show Below v.heap.size v w' by obtain ⟨_, _, _, _, _, hb⟩ := h; exact hb).mono h2.size))) _ _ _ hT⟩)
  have HKS := hid (show ∀ v, Below W1.heap.size W1 v → (v.cell? ⟨w.heap.size, 0, none⟩ = some (.int .i64 x.kind) ∧ v.cell? ⟨w.heap.size, 1, none⟩ = some (.int .i64 x.a) ∧ v.cell? ⟨w.heap.size, 2, none⟩ = some (.int .i64 x.b) ∧ v.cell? ⟨w.heap.size, 3, none⟩ = some (.string (S x.s)) ∧ v.cell? ⟨w.heap.size, 4, none⟩ = some (.string (S x.t)) ∧ v.cell? ⟨w.heap.size, 5, none⟩ = some (.slice ai x.ins.length ci) ∧ v.cell? ⟨w.heap.size + 1, 0, none⟩ = some (.int .i64 y.kind) ∧ v.cell? ⟨w.heap.size + 1, 1, none⟩ = some (.int .i64 y.a) ∧ v.cell? ⟨w.heap.size + 1, 2, none⟩ = some (.int .i64 y.b) ∧ v.cell? ⟨w.heap.size + 1, 3, none⟩ = some (.string (S y.s)) ∧ v.cell? ⟨w.heap.size + 1, 4, none⟩ = some (.string (S y.t)) ∧ v.cell? ⟨w.heap.size + 1, 5, none⟩ = some (.slice bi y.ins.length di)) from fun v hv => ⟨wcell_next s0 hv, wcell_next s1 hv, wcell_next s2 hv, wcell_next s3 hv, wcell_next s4 hv, wcell_next s5 hv, wcell_next r0 hv, wcell_next r1 hv, wcell_next r2 hv, wcell_next r3 hv, wcell_next r4 hv, wcell_next r5 hv⟩)
  clear hm hx hy ht hW1 hB1 hX1 hY1
  go_enter Tryd.func3, Tryd.ntmps3
  go_upto_region 1 with fail
  rw [← HWE.out]
  go_cut [5] (fun p wx => ElsB W1 p wx)
  case first =>
    refine wp_region_held_drew (S := fun u => u.cell? ⟨w.heap.size, 0, none⟩ = some (.int .i64 x.kind) ∧ u.cell? ⟨w.heap.size, 1, none⟩ = some (.int .i64 x.a) ∧ u.cell? ⟨w.heap.size, 2, none⟩ = some (.int .i64 x.b) ∧ u.cell? ⟨w.heap.size, 3, none⟩ = some (.string (S x.s)) ∧ u.cell? ⟨w.heap.size, 4, none⟩ = some (.string (S x.t)) ∧ u.cell? ⟨w.heap.size, 5, none⟩ = some (.slice ai x.ins.length ci) ∧ u.cell? ⟨w.heap.size + 1, 0, none⟩ = some (.int .i64 y.kind) ∧ u.cell? ⟨w.heap.size + 1, 1, none⟩ = some (.int .i64 y.a) ∧ u.cell? ⟨w.heap.size + 1, 2, none⟩ = some (.int .i64 y.b) ∧ u.cell? ⟨w.heap.size + 1, 3, none⟩ = some (.string (S y.s)) ∧ u.cell? ⟨w.heap.size + 1, 4, none⟩ = some (.string (S y.t)) ∧ u.cell? ⟨w.heap.size + 1, 5, none⟩ = some (.slice bi y.ins.length di)) (by kernel_rfl) ?_ (fun hHeld => ?_)
    · exact HKS.out _ ((Below.refl _ _).drew)
    refine wpAnyH_take (i := 0) (v := ?v1) rfl (by kernel_rfl) (by kernel_rfl) (by kernel_rfl) (fun _ _ _ h => h) (Or.inl ⟨by rfl, ?hy1⟩) (by assumption) ?_
    case hy1 =>
      intro w hSw
      (try dsimp only at hSw)
      go_simp
      all_goals with_reducible rfl
    change wpAnyH _ _ _ _ _ _ _ (Act.put _ (some 15) _) _
    try simp only [Act.put, List.setIfInBounds_toArray, List.set_cons_zero, List.set_cons_succ]
    refine wpAnyH_take (i := 2) (v := ?v2) rfl (by kernel_rfl) (by kernel_rfl) (by kernel_rfl) (fun _ _ _ h => h) (Or.inl ⟨by rfl, ?hy2⟩) (by assumption) ?_
    case hy2 =>
      intro w hSw
      (try dsimp only at hSw)
      go_simp
      all_goals with_reducible rfl
    change wpAnyH _ _ _ _ _ _ _ (Act.put _ (some 17) _) _
    try simp only [Act.put, List.setIfInBounds_toArray, List.set_cons_zero, List.set_cons_succ]
    refine wpAnyH_ready (rs := [1, 7]) (by kernel_rfl) (by simp) ?_
    refine AllReadyH.cons rfl (fun K hK => ?_) ?_
    · skip
      go_simp
      refine (HTX.out _ ?_).mono ?_
      · repeat (first | with_reducible exact Below.refl _ _ | with_reducible refine Below.drew ?_ | with_reducible refine Below.alloc ?_ (by first | exact Nat.le_refl _ | (simp <;> omega)) _)
      rintro e w2 ⟨t, an, ak, at', cn, ck, ct, rfl, hT2, hN2, hb2, hB2⟩
      have HT2 := hid hT2
      have HN2 := hid hN2
      have HB2 := hid hB2
      clear hT2 hN2 hb2 hB2
      go_wp2_with fail
      refine hK.out _ _ ?_ (fun hHeld => ?_)
      · refine HKS.out _ ?_
        repeat (first | with_reducible exact HB3.out | with_reducible exact HB2.out | with_reducible exact Below.refl _ _ | with_reducible refine Below.drew ?_ | with_reducible refine Below.alloc ?_ (by first | exact Nat.le_refl _ | exact HB3.out.size | exact HB2.out.size | (have := HB3.out.size; simp <;> omega) | (have := HB2.out.size; simp <;> omega) | (simp <;> omega)) _)
      clear hK K
      try simp only [Act.put, List.setIfInBounds_toArray, List.set_cons_zero, List.set_cons_succ]
      refine wpAnyH_ready (rs := [3, 7]) (by kernel_rfl) (by simp) ?_
      refine AllReadyH.cons rfl (fun K hK => ?_) ?_
      · skip
        go_simp
        refine (HTY.out _ w2 t _ ?_ ?_ HT2.out).mono ?_
        · repeat (first | with_reducible exact HB2.out | with_reducible exact Below.refl _ _ | with_reducible refine Below.drew ?_ | with_reducible refine Below.alloc ?_ (by first | exact Nat.le_refl _ | exact HB2.out.size | (have := HB2.out.size; simp <;> omega) | (simp <;> omega)) _)
        · repeat (first | with_reducible exact Below.refl _ _ | with_reducible refine Below.drew ?_ | with_reducible refine Below.alloc ?_ (by first | exact Nat.le_refl _ | (simp <;> omega)) _)
        rintro e w3 ⟨⟨u, bn, bk, bt, dn, dk, dt, rfl, hU3, hN3, hb3, hB3⟩, hT3⟩
        have HT3 := hid hT3
        have HU3 := hid hU3
        have HN3 := hid hN3
        have HB3 := hid hB3
        clear hU3 hN3 hb3 hB3 hT3
        go_wp2_with fail
        refine hK.out _ _ ?_ (fun hHeld => ?_)
        · refine HKS.out _ ?_
          repeat (first | with_reducible exact HB3.out | with_reducible exact HB2.out | with_reducible exact Below.refl _ _ | with_reducible refine Below.drew ?_ | with_reducible refine Below.alloc ?_ (by first | exact Nat.le_refl _ | exact HB3.out.size | exact HB2.out.size | (have := HB3.out.size; simp <;> omega) | (have := HB2.out.size; simp <;> omega) | (simp <;> omega)) _)
        clear hK K
        try simp only [Act.put, List.setIfInBounds_toArray, List.set_cons_zero, List.set_cons_succ]
        refine wpAnyH_take (i := 4) (v := ?v3) rfl (by kernel_rfl) (by kernel_rfl) (by kernel_rfl) (fun _ _ _ h => h) (Or.inl ⟨by rfl, ?hy3⟩) (by assumption) ?_
        case hy3 =>
          intro w hSw
          (try dsimp only at hSw)
          go_simp
          all_goals with_reducible rfl
        change wpAnyH _ _ _ _ _ _ _ (Act.put _ (some 19) _) _
        try simp only [Act.put, List.setIfInBounds_toArray, List.set_cons_zero, List.set_cons_succ]
        refine wpAnyH_ready (rs := [5, 7]) (by kernel_rfl) (by simp) ?_
        refine AllReadyH.cons rfl (fun K hK => ?_) ?_
        · skip
          go_simp
          refine hK.out _ _ ?_ (fun hHeld => ?_)
          · refine HKS.out _ ?_
            repeat (first | with_reducible exact HB3.out | with_reducible exact HB2.out | with_reducible exact Below.refl _ _ | with_reducible refine Below.drew ?_ | with_reducible refine Below.alloc ?_ (by first | exact Nat.le_refl _ | exact HB3.out.size | exact HB2.out.size | (have := HB3.out.size; simp <;> omega) | (have := HB2.out.size; simp <;> omega) | (simp <;> omega)) _)
          clear hK K
          try simp only [Act.put, List.setIfInBounds_toArray, List.set_cons_zero, List.set_cons_succ]
          refine wpAnyH_take (i := 6) (v := ?v4) rfl (by kernel_rfl) (by kernel_rfl) (by kernel_rfl) (fun _ _ _ h => h) (Or.inl ⟨by rfl, ?hy4⟩) (by assumption) ?_
          case hy4 =>
            intro w hSw
            (try dsimp only at hSw)
            go_simp
            all_goals with_reducible rfl
          change wpAnyH _ _ _ _ _ _ _ (Act.put _ (some 21) _) _
          try simp only [Act.put, List.setIfInBounds_toArray, List.set_cons_zero, List.set_cons_succ]
          refine wpAnyH_ready (rs := [7]) (by kernel_rfl) (by simp) ?_
          refine AllReadyH.cons rfl (fun K hK => ?_) AllReadyH.nil
          go_simp
          refine hK.out _ _ ?_ (fun hHeld => ?_)
          · refine HKS.out _ ?_
            repeat (first | with_reducible exact HB3.out | with_reducible exact HB2.out | with_reducible exact Below.refl _ _ | with_reducible refine Below.drew ?_ | with_reducible refine Below.alloc ?_ (by first | exact Nat.le_refl _ | exact HB3.out.size | exact HB2.out.size | (have := HB3.out.size; simp <;> omega) | (have := HB2.out.size; simp <;> omega) | (simp <;> omega)) _)
          clear hK K
          try simp only [Act.put, List.setIfInBounds_toArray, List.set_cons_zero, List.set_cons_succ]
          refine wpAnyH_ready (rs := [8]) (by kernel_rfl) (by simp) ?_
          refine AllReadyH.cons rfl (fun K hK => ?_) AllReadyH.nil
          have HZ4 := hid (show ((w3.alloc (.cells #[.int .i64 2, .slice none 0 0, .int .i64 u.kind, .int .i64 u.mat, .int .i64 u.part, .slice bn u.names.length dn, .slice bk u.keys.length dk, .bool u.over, .int .i64 u.limit, .slice bt u.tests.length dt, .slice none 0 0, .slice none 0 0] 32)).alloc (.cells #[.int .i64 0, .slice none 0 0, .int .i64 0, .int .i64 0, .int .i64 0, .slice none 0 0, .slice none 0 0, .bool false, .int .i64 0, .slice none 0 0, .slice none 0 0, .slice none 0 0] 32)).heap[(w3.heap.size + 1)]? = some (.cells #[.int .i64 0, .slice none 0 0, .int .i64 0, .int .i64 0, .int .i64 0, .slice none 0 0, .slice none 0 0, .bool false, .int .i64 0, .slice none 0 0, .slice none 0 0, .slice none 0 0] 32) from heap_at _ (by simp))
          have HEE := hid (ElsB.old (W := W1) (w4 := ((w3.alloc (.cells #[.int .i64 2, .slice none 0 0, .int .i64 u.kind, .int .i64 u.mat, .int .i64 u.part, .slice bn u.names.length dn, .slice bk u.keys.length dk, .bool u.over, .int .i64 u.limit, .slice bt u.tests.length dt, .slice none 0 0, .slice none 0 0] 32)).alloc (.cells #[.int .i64 0, .slice none 0 0, .int .i64 0, .int .i64 0, .int .i64 0, .slice none 0 0, .slice none 0 0, .bool false, .int .i64 0, .slice none 0 0, .slice none 0 0, .slice none 0 0] 32))) (P := (w3.heap.size + 1)) (q := w3.heap.size) (by have := HB3.out.size; omega) HB3.out.size (by omega) HZ4.out (heap_old _ (heap_at (w := w3) _ rfl)) (TstM.imp (fun _ h => h) (Keeps.of_below (((Below.refl _ _).alloc (Nat.le_refl _) _).alloc (by simp) _)) _ _ _ HT3.out) (TstM.imp (fun _ h => h) (Keeps.of_below (((Below.refl _ _).alloc (Nat.le_refl _) _).alloc (by simp) _)) _ _ _ HU3.out) ⟨HN2.out, HN3.out⟩ ((HB3.out.alloc HB3.out.size _).alloc (by have := HB3.out.size; simp; omega) _))
          rw [if_pos (by rfl)]
          refine wp_store_mid _ _ _ rfl (w3.heap.size + 1) 0 #[.int .i64 2, .slice none 0 0, .int .i64 t.kind, .int .i64 t.mat, .int .i64 t.part, .slice an t.names.length cn, .slice ak t.keys.length ck, .bool t.over, .int .i64 t.limit, .slice at' t.tests.length ct, .slice none 0 0, .slice (some ⟨w3.heap.size, 0, none⟩) 1 1] rfl rfl (els_there HZ4.out) (by kernel_rfl) (by simp [Value.oneCell']) ?_
          try simp only [Act.put, List.setIfInBounds_toArray, List.set_cons_zero, List.set_cons_succ]
          refine hK.out _ _ ?_ (fun hHeld => ?_)
          · refine HKS.out _ ?_
            exact els_below HEE.out
          clear hK K
          try simp only [Act.put, List.setIfInBounds_toArray, List.set_cons_zero, List.set_cons_succ]
          refine wpAnyH_done (by kernel_rfl) ?_ _
          have HE := HEE
          go_wp2_with fail
          go_meet
          exact HE.out
        refine AllReadyH.cons rfl (fun K hK => ?_) AllReadyH.nil
        go_simp
        refine hK.out _ _ ?_ (fun hHeld => ?_)
        · refine HKS.out _ ?_
          repeat (first | with_reducible exact HB3.out | with_reducible exact HB2.out | with_reducible exact Below.refl _ _ | with_reducible refine Below.drew ?_ | with_reducible refine Below.alloc ?_ (by first | exact Nat.le_refl _ | exact HB3.out.size | exact HB2.out.size | (have := HB3.out.size; simp <;> omega) | (have := HB2.out.size; simp <;> omega) | (simp <;> omega)) _)
        clear hK K
        try simp only [Act.put, List.setIfInBounds_toArray, List.set_cons_zero, List.set_cons_succ]
        refine wpAnyH_ready (rs := [5]) (by kernel_rfl) (by simp) ?_
        refine AllReadyH.cons rfl (fun K hK => ?_) AllReadyH.nil
        go_simp
        refine hK.out _ _ ?_ (fun hHeld => ?_)
        · refine HKS.out _ ?_
          repeat (first | with_reducible exact HB3.out | with_reducible exact HB2.out | with_reducible exact Below.refl _ _ | with_reducible refine Below.drew ?_ | with_reducible refine Below.alloc ?_ (by first | exact Nat.le_refl _ | exact HB3.out.size | exact HB2.out.size | (have := HB3.out.size; simp <;> omega) | (have := HB2.out.size; simp <;> omega) | (simp <;> omega)) _)
        clear hK K
        try simp only [Act.put, List.setIfInBounds_toArray, List.set_cons_zero, List.set_cons_succ]
        refine wpAnyH_take (i := 6) (v := ?v5) rfl (by kernel_rfl) (by kernel_rfl) (by kernel_rfl) (fun _ _ _ h => h) (Or.inl ⟨by rfl, ?hy5⟩) (by assumption) ?_
        case hy5 =>
          intro w hSw
          (try dsimp only at hSw)
          go_simp
          all_goals with_reducible rfl
        change wpAnyH _ _ _ _ _ _ _ (Act.put _ (some 21) _) _
        try simp only [Act.put, List.setIfInBounds_toArray, List.set_cons_zero, List.set_cons_succ]
        refine wpAnyH_ready (rs := [8]) (by kernel_rfl) (by simp) ?_
        refine AllReadyH.cons rfl (fun K hK => ?_) AllReadyH.nil
        have HZ4 := hid (show ((w3.alloc (.cells #[.int .i64 0, .slice none 0 0, .int .i64 0, .int .i64 0, .int .i64 0, .slice none 0 0, .slice none 0 0, .bool false, .int .i64 0, .slice none 0 0, .slice none 0 0, .slice none 0 0] 32)).alloc (.cells #[.int .i64 2, .slice none 0 0, .int .i64 u.kind, .int .i64 u.mat, .int .i64 u.part, .slice bn u.names.length dn, .slice bk u.keys.length dk, .bool u.over, .int .i64 u.limit, .slice bt u.tests.length dt, .slice none 0 0, .slice none 0 0] 32)).heap[w3.heap.size]? = some (.cells #[.int .i64 0, .slice none 0 0, .int .i64 0, .int .i64 0, .int .i64 0, .slice none 0 0, .slice none 0 0, .bool false, .int .i64 0, .slice none 0 0, .slice none 0 0, .slice none 0 0] 32) from heap_old _ (heap_at (w := w3) _ rfl))
        have HEE := hid (ElsB.old (W := W1) (w4 := ((w3.alloc (.cells #[.int .i64 0, .slice none 0 0, .int .i64 0, .int .i64 0, .int .i64 0, .slice none 0 0, .slice none 0 0, .bool false, .int .i64 0, .slice none 0 0, .slice none 0 0, .slice none 0 0] 32)).alloc (.cells #[.int .i64 2, .slice none 0 0, .int .i64 u.kind, .int .i64 u.mat, .int .i64 u.part, .slice bn u.names.length dn, .slice bk u.keys.length dk, .bool u.over, .int .i64 u.limit, .slice bt u.tests.length dt, .slice none 0 0, .slice none 0 0] 32))) (P := w3.heap.size) (q := (w3.heap.size + 1)) HB3.out.size (by have := HB3.out.size; omega) (by omega) HZ4.out (heap_at _ (by simp)) (TstM.imp (fun _ h => h) (Keeps.of_below (((Below.refl _ _).alloc (Nat.le_refl _) _).alloc (by simp) _)) _ _ _ HT3.out) (TstM.imp (fun _ h => h) (Keeps.of_below (((Below.refl _ _).alloc (Nat.le_refl _) _).alloc (by simp) _)) _ _ _ HU3.out) ⟨HN2.out, HN3.out⟩ ((HB3.out.alloc HB3.out.size _).alloc (by have := HB3.out.size; simp; omega) _))
        rw [if_pos (by rfl)]
        refine wp_store_mid _ _ _ rfl w3.heap.size 0 #[.int .i64 2, .slice none 0 0, .int .i64 t.kind, .int .i64 t.mat, .int .i64 t.part, .slice an t.names.length cn, .slice ak t.keys.length ck, .bool t.over, .int .i64 t.limit, .slice at' t.tests.length ct, .slice none 0 0, .slice (some ⟨(w3.heap.size + 1), 0, none⟩) 1 1] rfl rfl (els_there HZ4.out) (by kernel_rfl) (by simp [Value.oneCell']) ?_
        try simp only [Act.put, List.setIfInBounds_toArray, List.set_cons_zero, List.set_cons_succ]
        refine hK.out _ _ ?_ (fun hHeld => ?_)
        · refine HKS.out _ ?_
          exact els_below HEE.out
        clear hK K
        try simp only [Act.put, List.setIfInBounds_toArray, List.set_cons_zero, List.set_cons_succ]
        refine wpAnyH_done (by kernel_rfl) ?_ _
        have HE := HEE
        go_wp2_with fail
        go_meet
        exact HE.out
      refine AllReadyH.cons rfl (fun K hK => ?_) AllReadyH.nil
      go_simp
      refine hK.out _ _ ?_ (fun hHeld => ?_)
      · refine HKS.out _ ?_
        repeat (first | with_reducible exact HB3.out | with_reducible exact HB2.out | with_reducible exact Below.refl _ _ | with_reducible refine Below.drew ?_ | with_reducible refine Below.alloc ?_ (by first | exact Nat.le_refl _ | exact HB3.out.size | exact HB2.out.size | (have := HB3.out.size; simp <;> omega) | (have := HB2.out.size; simp <;> omega) | (simp <;> omega)) _)
      clear hK K
      try simp only [Act.put, List.setIfInBounds_toArray, List.set_cons_zero, List.set_cons_succ]
      refine wpAnyH_ready (rs := [3]) (by kernel_rfl) (by simp) ?_
      refine AllReadyH.cons rfl (fun K hK => ?_) AllReadyH.nil
      go_simp
      refine (HTY.out _ w2 t _ ?_ ?_ HT2.out).mono ?_
      · repeat (first | with_reducible exact HB2.out | with_reducible exact Below.refl _ _ | with_reducible refine Below.drew ?_ | with_reducible refine Below.alloc ?_ (by first | exact Nat.le_refl _ | exact HB2.out.size | (have := HB2.out.size; simp <;> omega) | (simp <;> omega)) _)
      · repeat (first | with_reducible exact Below.refl _ _ | with_reducible refine Below.drew ?_ | with_reducible refine Below.alloc ?_ (by first | exact Nat.le_refl _ | (simp <;> omega)) _)
      rintro e w3 ⟨⟨u, bn, bk, bt, dn, dk, dt, rfl, hU3, hN3, hb3, hB3⟩, hT3⟩
      have HT3 := hid hT3
      have HU3 := hid hU3
      have HN3 := hid hN3
      have HB3 := hid hB3
      have HK3 : Hid (w3.heap[w2.heap.size]? = some (.cells #[.int .i64 0, .slice none 0 0, .int .i64 0, .int .i64 0, .int .i64 0, .slice none 0 0, .slice none 0 0, .bool false, .int .i64 0, .slice none 0 0, .slice none 0 0, .slice none 0 0] 32)) := hid (tl0_low hb3 (heap_at (w := w2) _ rfl))
      clear hU3 hN3 hb3 hB3 hT3
      go_wp2_with fail
      refine hK.out _ _ ?_ (fun hHeld => ?_)
      · refine HKS.out _ ?_
        repeat (first | with_reducible exact HB3.out | with_reducible exact HB2.out | with_reducible exact Below.refl _ _ | with_reducible refine Below.drew ?_ | with_reducible refine Below.alloc ?_ (by first | exact Nat.le_refl _ | exact HB3.out.size | exact HB2.out.size | (have := HB3.out.size; simp <;> omega) | (have := HB2.out.size; simp <;> omega) | (simp <;> omega)) _)
      clear hK K
      try simp only [Act.put, List.setIfInBounds_toArray, List.set_cons_zero, List.set_cons_succ]
      refine wpAnyH_take (i := 4) (v := ?v6) rfl (by kernel_rfl) (by kernel_rfl) (by kernel_rfl) (fun _ _ _ h => h) (Or.inl ⟨by rfl, ?hy6⟩) (by assumption) ?_
      case hy6 =>
        intro w hSw
        (try dsimp only at hSw)
        go_simp
        all_goals with_reducible rfl
      change wpAnyH _ _ _ _ _ _ _ (Act.put _ (some 19) _) _
      try simp only [Act.put, List.setIfInBounds_toArray, List.set_cons_zero, List.set_cons_succ]
      refine wpAnyH_ready (rs := [5]) (by kernel_rfl) (by simp) ?_
      refine AllReadyH.cons rfl (fun K hK => ?_) AllReadyH.nil
      go_simp
      refine hK.out _ _ ?_ (fun hHeld => ?_)
      · refine HKS.out _ ?_
        repeat (first | with_reducible exact HB3.out | with_reducible exact HB2.out | with_reducible exact Below.refl _ _ | with_reducible refine Below.drew ?_ | with_reducible refine Below.alloc ?_ (by first | exact Nat.le_refl _ | exact HB3.out.size | exact HB2.out.size | (have := HB3.out.size; simp <;> omega) | (have := HB2.out.size; simp <;> omega) | (simp <;> omega)) _)
      clear hK K
      try simp only [Act.put, List.setIfInBounds_toArray, List.set_cons_zero, List.set_cons_succ]
      refine wpAnyH_take (i := 6) (v := ?v7) rfl (by kernel_rfl) (by kernel_rfl) (by kernel_rfl) (fun _ _ _ h => h) (Or.inl ⟨by rfl, ?hy7⟩) (by assumption) ?_
      case hy7 =>
        intro w hSw
        (try dsimp only at hSw)
        go_simp
        all_goals with_reducible rfl
      change wpAnyH _ _ _ _ _ _ _ (Act.put _ (some 21) _) _
      try simp only [Act.put, List.setIfInBounds_toArray, List.set_cons_zero, List.set_cons_succ]
      refine wpAnyH_ready (rs := [8]) (by kernel_rfl) (by simp) ?_
      refine AllReadyH.cons rfl (fun K hK => ?_) AllReadyH.nil
      have HZ4 := hid (show (w3.alloc (.cells #[.int .i64 2, .slice none 0 0, .int .i64 u.kind, .int .i64 u.mat, .int .i64 u.part, .slice bn u.names.length dn, .slice bk u.keys.length dk, .bool u.over, .int .i64 u.limit, .slice bt u.tests.length dt, .slice none 0 0, .slice none 0 0] 32)).heap[w2.heap.size]? = some (.cells #[.int .i64 0, .slice none 0 0, .int .i64 0, .int .i64 0, .int .i64 0, .slice none 0 0, .slice none 0 0, .bool false, .int .i64 0, .slice none 0 0, .slice none 0 0, .slice none 0 0] 32) from heap_old _ HK3.out)
      have HEE := hid (ElsB.old (W := W1) (w4 := (w3.alloc (.cells #[.int .i64 2, .slice none 0 0, .int .i64 u.kind, .int .i64 u.mat, .int .i64 u.part, .slice bn u.names.length dn, .slice bk u.keys.length dk, .bool u.over, .int .i64 u.limit, .slice bt u.tests.length dt, .slice none 0 0, .slice none 0 0] 32))) (P := w2.heap.size) (q := w3.heap.size) HB2.out.size HB3.out.size (by have h := (Array.getElem?_eq_some_iff.1 HK3.out).1; omega) HZ4.out (heap_at (w := w3) _ rfl) (TstM.imp (fun _ h => h) (Keeps.of_below ((Below.refl _ _).alloc (Nat.le_refl _) _)) _ _ _ HT3.out) (TstM.imp (fun _ h => h) (Keeps.of_below ((Below.refl _ _).alloc (Nat.le_refl _) _)) _ _ _ HU3.out) ⟨HN2.out, HN3.out⟩ (HB3.out.alloc HB3.out.size _))
      rw [if_pos (by rfl)]
      refine wp_store_mid _ _ _ rfl w2.heap.size 0 #[.int .i64 2, .slice none 0 0, .int .i64 t.kind, .int .i64 t.mat, .int .i64 t.part, .slice an t.names.length cn, .slice ak t.keys.length ck, .bool t.over, .int .i64 t.limit, .slice at' t.tests.length ct, .slice none 0 0, .slice (some ⟨w3.heap.size, 0, none⟩) 1 1] rfl rfl (els_there HZ4.out) (by kernel_rfl) (by simp [Value.oneCell']) ?_
      try simp only [Act.put, List.setIfInBounds_toArray, List.set_cons_zero, List.set_cons_succ]
      refine hK.out _ _ ?_ (fun hHeld => ?_)
      · refine HKS.out _ ?_
        exact els_below HEE.out
      clear hK K
      try simp only [Act.put, List.setIfInBounds_toArray, List.set_cons_zero, List.set_cons_succ]
      refine wpAnyH_done (by kernel_rfl) ?_ _
      have HE := HEE
      go_wp2_with fail
      go_meet
      exact HE.out
    refine AllReadyH.cons rfl (fun K hK => ?_) AllReadyH.nil
    go_simp
    refine hK.out _ _ ?_ (fun hHeld => ?_)
    · refine HKS.out _ ?_
      repeat (first | with_reducible exact HB3.out | with_reducible exact HB2.out | with_reducible exact Below.refl _ _ | with_reducible refine Below.drew ?_ | with_reducible refine Below.alloc ?_ (by first | exact Nat.le_refl _ | exact HB3.out.size | exact HB2.out.size | (have := HB3.out.size; simp <;> omega) | (have := HB2.out.size; simp <;> omega) | (simp <;> omega)) _)
    clear hK K
    try simp only [Act.put, List.setIfInBounds_toArray, List.set_cons_zero, List.set_cons_succ]
    refine wpAnyH_ready (rs := [1]) (by kernel_rfl) (by simp) ?_
    refine AllReadyH.cons rfl (fun K hK => ?_) AllReadyH.nil
    go_simp
    refine (HTX.out _ ?_).mono ?_
    · repeat (first | with_reducible exact Below.refl _ _ | with_reducible refine Below.drew ?_ | with_reducible refine Below.alloc ?_ (by first | exact Nat.le_refl _ | (simp <;> omega)) _)
    rintro e w2 ⟨t, an, ak, at', cn, ck, ct, rfl, hT2, hN2, hb2, hB2⟩
    have HT2 := hid hT2
    have HN2 := hid hN2
    have HB2 := hid hB2
    have HK2 : Hid (w2.heap[W1.heap.size]? = some (.cells #[.int .i64 0, .slice none 0 0, .int .i64 0, .int .i64 0, .int .i64 0, .slice none 0 0, .slice none 0 0, .bool false, .int .i64 0, .slice none 0 0, .slice none 0 0, .slice none 0 0] 32)) := hid (tl0_low hb2 (heap_at (w := W1) _ rfl))
    clear hT2 hN2 hb2 hB2
    go_wp2_with fail
    refine hK.out _ _ ?_ (fun hHeld => ?_)
    · refine HKS.out _ ?_
      repeat (first | with_reducible exact HB3.out | with_reducible exact HB2.out | with_reducible exact Below.refl _ _ | with_reducible refine Below.drew ?_ | with_reducible refine Below.alloc ?_ (by first | exact Nat.le_refl _ | exact HB3.out.size | exact HB2.out.size | (have := HB3.out.size; simp <;> omega) | (have := HB2.out.size; simp <;> omega) | (simp <;> omega)) _)
    clear hK K
    try simp only [Act.put, List.setIfInBounds_toArray, List.set_cons_zero, List.set_cons_succ]
    refine wpAnyH_ready (rs := [3]) (by kernel_rfl) (by simp) ?_
    refine AllReadyH.cons rfl (fun K hK => ?_) AllReadyH.nil
    go_simp
    refine (HTY.out _ w2 t _ ?_ ?_ HT2.out).mono ?_
    · repeat (first | with_reducible exact HB2.out | with_reducible exact Below.refl _ _ | with_reducible refine Below.drew ?_ | with_reducible refine Below.alloc ?_ (by first | exact Nat.le_refl _ | exact HB2.out.size | (have := HB2.out.size; simp <;> omega) | (simp <;> omega)) _)
    · repeat (first | with_reducible exact Below.refl _ _ | with_reducible refine Below.drew ?_ | with_reducible refine Below.alloc ?_ (by first | exact Nat.le_refl _ | (simp <;> omega)) _)
    rintro e w3 ⟨⟨u, bn, bk, bt, dn, dk, dt, rfl, hU3, hN3, hb3, hB3⟩, hT3⟩
    have HT3 := hid hT3
    have HU3 := hid hU3
    have HN3 := hid hN3
    have HB3 := hid hB3
    have HK3 : Hid (w3.heap[W1.heap.size]? = some (.cells #[.int .i64 0, .slice none 0 0, .int .i64 0, .int .i64 0, .int .i64 0, .slice none 0 0, .slice none 0 0, .bool false, .int .i64 0, .slice none 0 0, .slice none 0 0, .slice none 0 0] 32)) := hid (tl0_low hb3 HK2.out)
    clear hU3 hN3 hb3 hB3 hT3
    go_wp2_with fail
    refine hK.out _ _ ?_ (fun hHeld => ?_)
    · refine HKS.out _ ?_
      repeat (first | with_reducible exact HB3.out | with_reducible exact HB2.out | with_reducible exact Below.refl _ _ | with_reducible refine Below.drew ?_ | with_reducible refine Below.alloc ?_ (by first | exact Nat.le_refl _ | exact HB3.out.size | exact HB2.out.size | (have := HB3.out.size; simp <;> omega) | (have := HB2.out.size; simp <;> omega) | (simp <;> omega)) _)
    clear hK K
    try simp only [Act.put, List.setIfInBounds_toArray, List.set_cons_zero, List.set_cons_succ]
    refine wpAnyH_take (i := 4) (v := ?v8) rfl (by kernel_rfl) (by kernel_rfl) (by kernel_rfl) (fun _ _ _ h => h) (Or.inl ⟨by rfl, ?hy8⟩) (by assumption) ?_
    case hy8 =>
      intro w hSw
      (try dsimp only at hSw)
      go_simp
      all_goals with_reducible rfl
    change wpAnyH _ _ _ _ _ _ _ (Act.put _ (some 19) _) _
    try simp only [Act.put, List.setIfInBounds_toArray, List.set_cons_zero, List.set_cons_succ]
    refine wpAnyH_ready (rs := [5]) (by kernel_rfl) (by simp) ?_
    refine AllReadyH.cons rfl (fun K hK => ?_) AllReadyH.nil
    go_simp
    refine hK.out _ _ ?_ (fun hHeld => ?_)
    · refine HKS.out _ ?_
      repeat (first | with_reducible exact HB3.out | with_reducible exact HB2.out | with_reducible exact Below.refl _ _ | with_reducible refine Below.drew ?_ | with_reducible refine Below.alloc ?_ (by first | exact Nat.le_refl _ | exact HB3.out.size | exact HB2.out.size | (have := HB3.out.size; simp <;> omega) | (have := HB2.out.size; simp <;> omega) | (simp <;> omega)) _)
    clear hK K
    try simp only [Act.put, List.setIfInBounds_toArray, List.set_cons_zero, List.set_cons_succ]
    refine wpAnyH_take (i := 6) (v := ?v9) rfl (by kernel_rfl) (by kernel_rfl) (by kernel_rfl) (fun _ _ _ h => h) (Or.inl ⟨by rfl, ?hy9⟩) (by assumption) ?_
    case hy9 =>
      intro w hSw
      (try dsimp only at hSw)
      go_simp
      all_goals with_reducible rfl
    change wpAnyH _ _ _ _ _ _ _ (Act.put _ (some 21) _) _
    try simp only [Act.put, List.setIfInBounds_toArray, List.set_cons_zero, List.set_cons_succ]
    refine wpAnyH_ready (rs := [8]) (by kernel_rfl) (by simp) ?_
    refine AllReadyH.cons rfl (fun K hK => ?_) AllReadyH.nil
    have HZ4 := hid (show (w3.alloc (.cells #[.int .i64 2, .slice none 0 0, .int .i64 u.kind, .int .i64 u.mat, .int .i64 u.part, .slice bn u.names.length dn, .slice bk u.keys.length dk, .bool u.over, .int .i64 u.limit, .slice bt u.tests.length dt, .slice none 0 0, .slice none 0 0] 32)).heap[W1.heap.size]? = some (.cells #[.int .i64 0, .slice none 0 0, .int .i64 0, .int .i64 0, .int .i64 0, .slice none 0 0, .slice none 0 0, .bool false, .int .i64 0, .slice none 0 0, .slice none 0 0, .slice none 0 0] 32) from heap_old _ HK3.out)
    have HEE := hid (ElsB.old (W := W1) (w4 := (w3.alloc (.cells #[.int .i64 2, .slice none 0 0, .int .i64 u.kind, .int .i64 u.mat, .int .i64 u.part, .slice bn u.names.length dn, .slice bk u.keys.length dk, .bool u.over, .int .i64 u.limit, .slice bt u.tests.length dt, .slice none 0 0, .slice none 0 0] 32))) (P := W1.heap.size) (q := w3.heap.size) (Nat.le_refl _) HB3.out.size (by have h := (Array.getElem?_eq_some_iff.1 HK3.out).1; omega) HZ4.out (heap_at (w := w3) _ rfl) (TstM.imp (fun _ h => h) (Keeps.of_below ((Below.refl _ _).alloc (Nat.le_refl _) _)) _ _ _ HT3.out) (TstM.imp (fun _ h => h) (Keeps.of_below ((Below.refl _ _).alloc (Nat.le_refl _) _)) _ _ _ HU3.out) ⟨HN2.out, HN3.out⟩ (HB3.out.alloc HB3.out.size _))
    rw [if_pos (by rfl)]
    refine wp_store_mid _ _ _ rfl W1.heap.size 0 #[.int .i64 2, .slice none 0 0, .int .i64 t.kind, .int .i64 t.mat, .int .i64 t.part, .slice an t.names.length cn, .slice ak t.keys.length ck, .bool t.over, .int .i64 t.limit, .slice at' t.tests.length ct, .slice none 0 0, .slice (some ⟨w3.heap.size, 0, none⟩) 1 1] rfl rfl (els_there HZ4.out) (by kernel_rfl) (by simp [Value.oneCell']) ?_
    try simp only [Act.put, List.setIfInBounds_toArray, List.set_cons_zero, List.set_cons_succ]
    refine hK.out _ _ ?_ (fun hHeld => ?_)
    · refine HKS.out _ ?_
      exact els_below HEE.out
    clear hK K
    try simp only [Act.put, List.setIfInBounds_toArray, List.set_cons_zero, List.set_cons_succ]
    refine wpAnyH_done (by kernel_rfl) ?_ _
    have HE := HEE
    go_wp2_with fail
    go_meet
    exact HE.out
  case rest =>
    obtain ⟨P, q, t, u, an, ak, at', bn, bk, bt, cn, ck, ct, dn, dk, dt, hp, hPW, hqW, hqP, hbP, hbq, hT, hU, ⟨hNt, hNu⟩, hBW⟩ := hcut
    subst hp
    obtain ⟨WA, rfl⟩ : ∃ W, W = wc := ⟨_, rfl⟩
    have HBA := hid (show Below w.heap.size w WA from HB1.out.trans (hBW.mono HB1.out.size))
    have htl := tst_leaf hT
    have hul := tst_leaf hU
    have hft := (hNt 1).2.1
    have hfu := (hNu 1).2.1
    obtain ⟨⟨kt1, kt2⟩, _⟩ := fitH_parts hft
    obtain ⟨⟨ku1, ku2⟩, _⟩ := fitH_parts hfu
    have HM1 := hid (els_may hft htl hfu hul)
    have HM2 := hid (els_may2 hft htl hfu hul)
    have HC1 := hid (cnt_one 1 (cnt_test kt1 kt2 htl 2) (cnt_test ku1 ku2 hul 1))
    have HC2 := hid (cnt_two 1 (cnt_test kt1 kt2 htl 2).2 (cnt_test ku1 ku2 hul 1).2)
    have HTA := hid (show TstM anyB 1 WA t [.int .i64 t.kind, .int .i64 t.mat, .int .i64 t.part, .slice an t.names.length cn, .slice ak t.keys.length ck, .bool t.over, .int .i64 t.limit, .slice at' t.tests.length ct] from TstM.imp (fun _ _ => trivial) (Keeps.refl _ _) _ _ _ hT)
    have HUA := hid (show TstM anyB 1 WA u [.int .i64 u.kind, .int .i64 u.mat, .int .i64 u.part, .slice bn u.names.length dn, .slice bk u.keys.length dk, .bool u.over, .int .i64 u.limit, .slice bt u.tests.length dt] from TstM.imp (fun _ _ => trivial) (Keeps.refl _ _) _ _ _ hU)
    have HPA := hid hbP
    have HQA := hid hbq
    obtain ⟨V1, hV1⟩ : ∃ V1, V1 = WA.alloc (.cells #[.int .i64 2, .slice none 0 0, .int .i64 t.kind, .int .i64 t.mat, .int .i64 t.part, .slice an t.names.length cn, .slice ak t.keys.length ck, .bool t.over, .int .i64 t.limit, .slice at' t.tests.length ct, .slice none 0 0, .slice (some ⟨q, 0, none⟩) 1 1] 32) := ⟨_, rfl⟩
    have hn1 : Below WA.heap.size WA V1 := by rw [hV1]; exact (Below.refl _ _).alloc (Nat.le_refl _) _
    have HN1 := hid hn1
    have HVE := hid hV1
    have HCM := hid (show CmdsM anyB 3 V1 (.slice (some ⟨WA.heap.size, 0, none⟩) [elsC t u].length 1) [elsC t u] from rowM_one (t := 32) (fr := (0, 0)) (cs := [.int .i64 2, .slice none 0 0, .int .i64 t.kind, .int .i64 t.mat, .int .i64 t.part, .slice an t.names.length cn, .slice ak t.keys.length ck, .bool t.over, .int .i64 t.limit, .slice at' t.tests.length ct, .slice none 0 0, .slice (some ⟨q, 0, none⟩) 1 1]) (by rw [hV1]; exact heap_at _ rfl) rfl trivial (els_cmd (tl0_low hn1 hbq) (HTA.out.next hn1) (HUA.out.next hn1)))
    have HPW := hid hPW
    obtain ⟨c0, c1, c2, c3, c4, c5, c6, c7, c8, c9, c10, c11⟩ := els_box hbP
    clear hT hU hNt hNu hbq hbP htl hul hft hfu kt1 kt2 ku1 ku2 hPW hqW hBW hV1 hn1 HX HY HTX HTY HKS s0 s1 s2 s3 s4 s5 r0 r1 r2 r3 r4 r5 HWE
    go_wp2_with fail
    rw [← HVE.out]
    refine (sshow_any 3 [elsC t u] (some ⟨WA.heap.size, 0, none⟩) 1 V1 ((HM.out.next HBA.out).next HN1.out) HCM.out).mono ?_
    intro e w2 hsh
    unfold Shown at hsh
    rw [if_pos HM1.out.1] at hsh
    obtain ⟨a1, k1, he, hTk, hb2⟩ := hsh
    subst he
    obtain ⟨L, hL⟩ : ∃ L, L = cmdsT 3 [elsC t u] := ⟨_, rfl⟩
    have hl4 : L.length ≤ 400 := by rw [hL]; exact HM1.out.2
    rw [← hL] at hTk ⊢
    have HL := hid hTk
    have HE1 := hid (show cntW elsifW L = 1 by rw [hL]; exact HC1.out.1)
    have HE0 := hid (show cntW elseW L = 0 by rw [hL]; exact HC1.out.2)
    have HB2 := hid (HN1.out.trans (hb2.mono HN1.out.size))
    clear hL hTk hb2 c0 c1 c2 c3 c4 c5 c6 c7 c8 c9 c10 c11
    go_wp2
    go_loopw [8, 9] (fun one i wr => ∃ (k n : Nat), k ≤ L.length ∧ one = .int .i64 (cntW elsifW (L.take k)) ∧ i = .int .i64 k ∧ wr = w2.drewN n) (fun _ i _ => L.length - (intOf i).toNat)
    case atStart => exact ⟨0, 0, Nat.zero_le _, rfl, rfl, rfl⟩
    case round =>
      obtain ⟨k, n, hk, rfl, rfl, rfl⟩ := hrel
      by_cases hlt : k < L.length
      · have i1 : (k : Int) < (L.length : Int) := by omega
        have i3 : (0 : Int) ≤ (k : Int) := by omega
        obtain ⟨x, hx⟩ : ∃ x, L[k]? = some x := ⟨_, List.getElem?_eq_getElem hlt⟩
        obtain ⟨b, o, rfl, hbl, d0, d1, d2⟩ := HL.out k x hx
        have HST := hid (cntW_step (s := elsifW) hx)
        have HNO := hid (cntW_none HE0.out hx)
        have hle := Nat.le_trans (cntW_le elsifW (L.take k)) (List.length_take_le k L)
        clear hx
        have HQ := hid (show isWd elsifW x = (decide (x.kind = 1) && decide (x.text = elsifW)) from rfl)
        have HQ0 := hid (show isWd elseW x = (decide (x.kind = 1) && decide (x.text = elseW)) from rfl)
        by_cases hk1 : x.kind = 1
        · have hel : ((S x.text).toList == [101, 108, 115, 101]) = false := by
            rw [wd_eq]
            have h := HNO.out
            rw [HQ0.out] at h
            simp [hk1, elseW] at h ⊢
            exact of_decide_eq_false h
          by_cases he : x.text = elsifW
          · have hei : ((S x.text).toList == [101, 108, 115, 105, 102]) = true := by rw [wd_eq, he]; rfl
            have HCT := hid (show cntW elsifW (L.take (k + 1)) = cntW elsifW (L.take k) + 1 by rw [HST.out, HQ.out, hk1, he]; rfl)
            clear he
            go_wp2
            go_roundw
            case rel => exact ⟨k + 1, n, by omega, by rw [HCT.out]; go_num, by go_num, rfl⟩
            case measure => simp [intOf]; omega
          · have hei : ((S x.text).toList == [101, 108, 115, 105, 102]) = false := by rw [wd_eq]; simpa [elsifW] using he
            have HCT := hid (show cntW elsifW (L.take (k + 1)) = cntW elsifW (L.take k) by rw [HST.out, HQ.out, decide_eq_false he]; simp)
            clear he
            go_wp2
            go_roundw
            case rel => exact ⟨k + 1, n, by omega, by rw [HCT.out], by go_num, rfl⟩
            case measure => simp [intOf]; omega
        · have HCT := hid (show cntW elsifW (L.take (k + 1)) = cntW elsifW (L.take k) by rw [HST.out, HQ.out, decide_eq_false hk1]; simp)
          go_wp2
          go_roundw
          case rel => exact ⟨k + 1, n, by omega, by rw [HCT.out], by go_num, rfl⟩
          case measure => simp [intOf]; omega
      · have i1 : ¬ (k : Int) < (L.length : Int) := by omega
        obtain rfl : k = L.length := by omega
        rw [List.take_length, HE1.out]
        obtain ⟨W2, hW2⟩ : ∃ W2, W2 = w2.drewN n := ⟨_, rfl⟩
        have hA2 : Below WA.heap.size WA W2 := by rw [hW2]; exact wdrew HB2.out n
        rw [← hW2]
        have HA2 := hid hA2
        have HP2 := hid (tl0_low hA2 HPA.out)
        obtain ⟨c0, c1, c2, c3, c4, c5, c6, c7, c8, c9, c10, c11⟩ := els_box HP2.out
        clear hW2 hA2 i1 hk hlt HL HE1 HE0 hl4
        go_upto_region 12 with fail
        clear c0 c1 c2 c3 c4 c5 c6 c7 c8 c9 c10
        obtain ⟨WD, hWD⟩ : ∃ WD, WD = W2.alloc (.cells #[.int .i64 2, .slice none 0 0, .int .i64 t.kind, .int .i64 t.mat, .int .i64 t.part, .slice an t.names.length cn, .slice ak t.keys.length ck, .bool t.over, .int .i64 t.limit, .slice at' t.tests.length ct, .slice none 0 0, .slice (some ⟨q, 0, none⟩) 1 1] 32) := ⟨_, rfl⟩
        have hd1 : Below W2.heap.size W2 WD := by rw [hWD]; exact (Below.refl _ _).alloc (Nat.le_refl _) _
        have hsD : WD.heap.size = W2.heap.size + 1 := by rw [hWD]; simp
        have hbD : WD.heap[W2.heap.size]? = some (.cells #[.int .i64 2, .slice none 0 0, .int .i64 t.kind, .int .i64 t.mat, .int .i64 t.part, .slice an t.names.length cn, .slice ak t.keys.length ck, .bool t.over, .int .i64 t.limit, .slice at' t.tests.length ct, .slice none 0 0, .slice (some ⟨q, 0, none⟩) 1 1] 32) := by rw [hWD]; exact heap_at _ rfl
        rw [← hWD]
        obtain ⟨WE, hWE⟩ : ∃ WE, WE = WD.alloc (.cells #[.int .i64 3, .slice none 0 0, .int .i64 0, .int .i64 0, .int .i64 0, .slice none 0 0, .slice none 0 0, .bool false, .int .i64 0, .slice none 0 0, .slice none 0 0, .slice none 0 0] 32) := ⟨_, rfl⟩
        have he1 : Below WD.heap.size WD WE := by rw [hWE]; exact (Below.refl _ _).alloc (Nat.le_refl _) _
        have hsE : WE.heap.size = W2.heap.size + 1 + 1 := by rw [hWE]; simp [hsD]
        have HWE := hid hWE
        have hbE : WE.heap[W2.heap.size + 1]? = some (.cells #[.int .i64 3, .slice none 0 0, .int .i64 0, .int .i64 0, .int .i64 0, .slice none 0 0, .slice none 0 0, .bool false, .int .i64 0, .slice none 0 0, .slice none 0 0, .slice none 0 0] 32) := by rw [hWE]; exact heap_at _ (by rw [hsD])
        have h2E : Below W2.heap.size W2 WE := hd1.trans (he1.mono hd1.size)
        have HK1 := hid (show OwnCs 0 2 WE (.slice (some ⟨W2.heap.size + 1, 0, none⟩) 1 1) [⟨3, [], noneT, [], []⟩] from own_one (Q2 := fun _ => False) (cs := [.int .i64 3, .slice none 0 0, .int .i64 0, .int .i64 0, .int .i64 0, .slice none 0 0, .slice none 0 0, .bool false, .int .i64 0, .slice none 0 0, .slice none 0 0, .slice none 0 0]) hbE ⟨_, _, _, _, _, _, rfl, rowM_nil _ _ _ _ _ _, none_tst _ _ _, rowM_nil _ _ _ _ _ _, rowM_nil _ _ _ _ _ _⟩ (fun b h => h.elim) (Nat.zero_le _))
        have HK2 := hid (show CmdsM (fun b => b < W2.heap.size) 2 WE (.slice (some ⟨q, 0, none⟩) 1 1) [⟨2, [], u, [], []⟩] by
          have hq2 := tl0_low HA2.out HQA.out
          exact rowM_one (t := 32) (fr := (0, 0)) (cs := [.int .i64 2, .slice none 0 0, .int .i64 u.kind, .int .i64 u.mat, .int .i64 u.part, .slice bn u.names.length dn, .slice bk u.keys.length dk, .bool u.over, .int .i64 u.limit, .slice bt u.tests.length dt, .slice none 0 0, .slice none 0 0]) (tl0_low h2E hq2) rfl (Array.getElem?_eq_some_iff.1 hq2).1 (els_in (TstM.imp (fun _ h => h) (Keeps.of_below h2E) _ _ _ (TstM.imp (fun _ h => h.2) (Keeps.refl _ _) _ _ _ (TstM.both _ _ _ (HUA.out.next HA2.out))))))
        have HTW := hid (show TstM (fun b => b < W2.heap.size) 1 WE t [.int .i64 t.kind, .int .i64 t.mat, .int .i64 t.part, .slice an t.names.length cn, .slice ak t.keys.length ck, .bool t.over, .int .i64 t.limit, .slice at' t.tests.length ct] from TstM.imp (fun _ h => h) (Keeps.of_below h2E) _ _ _ (TstM.imp (fun _ h => h.2) (Keeps.refl _ _) _ _ _ (TstM.both _ _ _ (HTA.out.next HA2.out))))
        have HDE := hid (tl0_low he1 hbD)
        have H2E := hid h2E
        have c11 : ∀ o : Obj, (WD.alloc o).cell? ⟨P, 11, none⟩ = some (.slice (some ⟨q, 0, none⟩) 1 1) := fun o => wcell_more (wcell_next c11 hd1) o
        have hsDE : WD.heap.size = W2.heap.size + 1 := hsD
        clear hWD hd1 hbD hWE he1 hbE h2E hsD
        go_wp2_with (first
          | (at_builtin; refine app_cmds _ rfl _ _ rfl 0 2 (.slice (some ⟨W2.heap.size + 1, 0, none⟩) 1 1) [⟨3, [], noneT, [], []⟩] [⟨2, [], u, [], []⟩] ?k0 ?k1 q 0 1 (fun b => b < W2.heap.size) rfl ?k2 ?k4 (by simp) (by simp) (Nat.zero_le _) _ rfl ?_)
          | fail)
        case k0 => rfl
        case k1 => rw [← HWE.out]; exact HK1.out
        case k2 => rw [← HWE.out]; exact HK2.out
        case k4 => exact fun b hb => ⟨Nat.zero_le _, fun e => by have h1 : b = W2.heap.size + 1 := Option.some.inj e; have h2 : b < W2.heap.size := hb; omega⟩
        rw [← HWE.out]
        intro g cap w5 hown hcap hgrow hat hlt5
        have hEo : (Value.slice (some (⟨W2.heap.size + 1, 0, none⟩ : Addr)) 1 1).ownBlock = some (W2.heap.size + 1) := rfl
        have hg1 : W2.heap.size < g := by
          rcases hat with e | e
          · have := Option.some.inj (hEo.symm.trans e); omega
          · omega
        have hD5 := (hgrow.block W2.heap.size (by omega) (fun e => by have := Option.some.inj (e.trans hEo); omega)).trans HDE.out
        have hlD : W2.heap.size < w5.heap.size := (Array.getElem?_eq_some_iff.1 hD5).1
        have hL5 : CmdsM anyB 2 w5 (.slice (some ⟨g, 0, none⟩) 2 cap) [⟨3, [], noneT, [], []⟩, ⟨2, [], u, [], []⟩] := CmdsM.any (OwnRow.rowM (firm_cmd 2) hown (by unfold maxLen; simp))
        have hkp : Keeps (fun b => b < W2.heap.size) WE w5 := Keeps.of_grown hgrow fun b hb e => by have := Option.some.inj (e.trans hEo); have h2 : b < W2.heap.size := hb; omega
        have hT5 := TstM.imp (Q' := fun b => b < W2.heap.size) (fun _ h => h) hkp _ _ _ HTW.out
        have hB5 : Below W2.heap.size W2 w5 := H2E.out.grown hgrow H2E.out.size (fun j hj => by have := Option.some.inj (hEo.symm.trans hj); omega)
        have f11 := box_free hD5 11
        obtain ⟨d0, d1, d2, d3, d4, d5, d6, d7, d8, d9, d10, d11⟩ := els_box hD5
        obtain ⟨WF, hWF⟩ : ∃ WF, WF = w5.setCell ⟨W2.heap.size, 11, none⟩ (.slice (some ⟨g, 0, none⟩) 2 cap) := ⟨_, rfl⟩
        have HWF := hid hWF
        have hB6 : Below W2.heap.size W2 WF := by rw [hWF]; exact hB5.setCell (Nat.le_refl _) _
        have hDF : WF.heap[W2.heap.size]? = some (.cells #[.int .i64 2, .slice none 0 0, .int .i64 t.kind, .int .i64 t.mat, .int .i64 t.part, .slice an t.names.length cn, .slice ak t.keys.length ck, .bool t.over, .int .i64 t.limit, .slice at' t.tests.length ct, .slice none 0 0, .slice (some ⟨g, 0, none⟩) 2 cap] 32) := by rw [hWF]; exact heap_setCell_same w5 _ 11 _ _ _ hD5
        have hTF : TstM anyB 1 WF t [.int .i64 t.kind, .int .i64 t.mat, .int .i64 t.part, .slice an t.names.length cn, .slice ak t.keys.length ck, .bool t.over, .int .i64 t.limit, .slice at' t.tests.length ct] := by rw [hWF]; exact TstM.imp (fun _ _ => trivial) (Keeps.set w5 _ (fun b hb => by have h2 : b < W2.heap.size := hb; show b ≠ W2.heap.size; omega)) _ _ _ hT5
        have hLF : CmdsM anyB 2 WF (.slice (some ⟨g, 0, none⟩) 2 cap) [⟨3, [], noneT, [], []⟩, ⟨2, [], u, [], []⟩] := by
          rw [hWF]
          have hfar := row_far (no_str (by simp)) hD5 (show g ≠ W2.heap.size by omega) (by simp) hL5
          have hks : Keeps (fun p => p ≠ W2.heap.size) w5 (w5.setCell ⟨W2.heap.size, 11, none⟩ (.slice (some ⟨g, 0, none⟩) 2 cap)) := Keeps.set w5 (p := ⟨W2.heap.size, 11, none⟩) _ fun b hb => hb
          exact CmdsM.any (RowM.imp hfar (fun _ h => h) hks fun _ _ h => CmdM.imp (fun _ h => h) hks _ _ _ h)
        clear d0 d1 d2 d3 d4 d5 d6 d7 d8 d9 d10 hown hgrow hat hL5 hkp hT5 hB5 hD5 HK1 HK2 HTW HDE c11
        obtain ⟨WG, hWG⟩ : ∃ WG, WG = WF.alloc (.cells #[.int .i64 2, .slice none 0 0, .int .i64 t.kind, .int .i64 t.mat, .int .i64 t.part, .slice an t.names.length cn, .slice ak t.keys.length ck, .bool t.over, .int .i64 t.limit, .slice at' t.tests.length ct, .slice none 0 0, .slice (some ⟨g, 0, none⟩) 2 cap] 32) := ⟨_, rfl⟩
        have hn7 : Below WF.heap.size WF WG := by rw [hWG]; exact (Below.refl _ _).alloc (Nat.le_refl _) _
        have HWG := hid hWG
        have HCN := hid (show CmdsM anyB 3 WG (.slice (some ⟨WF.heap.size, 0, none⟩) [elsD t u].length 1) [elsD t u] from rowM_one (t := 32) (fr := (0, 0)) (cs := [.int .i64 2, .slice none 0 0, .int .i64 t.kind, .int .i64 t.mat, .int .i64 t.part, .slice an t.names.length cn, .slice ak t.keys.length ck, .bool t.over, .int .i64 t.limit, .slice at' t.tests.length ct, .slice none 0 0, .slice (some ⟨g, 0, none⟩) 2 cap]) (by rw [hWG]; exact heap_at _ rfl) rfl trivial (els_cmdD (hTF.next hn7) (hLF.next hn7)))
        have HB7 := hid (show Below w.heap.size w WG from (HBA.out.trans ((HA2.out.trans (hB6.mono HA2.out.size)).mono HBA.out.size)).trans (hn7.mono (Nat.le_trans HBA.out.size (Nat.le_trans HA2.out.size hB6.size))))
        obtain ⟨d0, d1, d2, d3, d4, d5, d6, d7, d8, d9, d10, d11⟩ := els_box hDF
        go_upto_region 13 with fail
        rw [← HWF.out]
        clear hWF hB6 hDF hTF hLF hWG hn7
        go_wp2_with fail
        rw [← HWG.out]
        refine (sshow_any 3 [elsD t u] (some ⟨WF.heap.size, 0, none⟩) 1 WG (HM.out.next HB7.out) HCN.out).mono ?_
        intro e w8 hsh
        unfold Shown at hsh
        rw [if_pos HM2.out.1] at hsh
        obtain ⟨a2, k2, he, hTk, hb8⟩ := hsh
        subst he
        obtain ⟨M, hL⟩ : ∃ M, M = cmdsT 3 [elsD t u] := ⟨_, rfl⟩
        have hl5 : M.length ≤ 400 := by rw [hL]; exact HM2.out.2
        rw [← hL] at hTk ⊢
        have HL := hid hTk
        have HE1 := hid (show cntW elseW M = 1 by rw [hL]; exact HC2.out)
        have HB8 := hid (HB7.out.trans (hb8.mono HB7.out.size))
        clear hL hTk hb8 d0 d1 d2 d3 d4 d5 d6 d7 d8 d9 d10 d11
        go_wp2
        go_loopw [13, 14] (fun one i wr => ∃ (k n : Nat), k ≤ M.length ∧ one = .int .i64 (cntW elseW (M.take k)) ∧ i = .int .i64 k ∧ wr = w8.drewN n) (fun _ i _ => M.length - (intOf i).toNat)
        case atStart => exact ⟨0, 0, Nat.zero_le _, rfl, rfl, rfl⟩
        case round =>
          obtain ⟨k, n, hk, rfl, rfl, rfl⟩ := hrel
          by_cases hlt : k < M.length
          · have i1 : (k : Int) < (M.length : Int) := by omega
            have i3 : (0 : Int) ≤ (k : Int) := by omega
            obtain ⟨x, hx⟩ : ∃ x, M[k]? = some x := ⟨_, List.getElem?_eq_getElem hlt⟩
            obtain ⟨b, o, rfl, hbl, d0, d1, d2⟩ := HL.out k x hx
            have HST := hid (cntW_step (s := elseW) hx)
            have hle := Nat.le_trans (cntW_le elseW (M.take k)) (List.length_take_le k M)
            clear hx
            have HQ := hid (show isWd elseW x = (decide (x.kind = 1) && decide (x.text = elseW)) from rfl)
            by_cases hk1 : x.kind = 1
            · by_cases he : x.text = elseW
              · have hei : ((S x.text).toList == [101, 108, 115, 101]) = true := by rw [wd_eq, he]; rfl
                have HCT := hid (show cntW elseW (M.take (k + 1)) = cntW elseW (M.take k) + 1 by rw [HST.out, HQ.out, hk1, he]; rfl)
                clear he
                go_wp2
                go_roundw
                case rel => exact ⟨k + 1, n, by omega, by rw [HCT.out]; go_num, by go_num, rfl⟩
                case measure => simp [intOf]; omega
              · have hei : ((S x.text).toList == [101, 108, 115, 101]) = false := by rw [wd_eq]; simpa [elseW] using he
                have HCT := hid (show cntW elseW (M.take (k + 1)) = cntW elseW (M.take k) by rw [HST.out, HQ.out, decide_eq_false he]; simp)
                clear he
                go_wp2
                go_roundw
                case rel => exact ⟨k + 1, n, by omega, by rw [HCT.out], by go_num, rfl⟩
                case measure => simp [intOf]; omega
            · have HCT := hid (show cntW elseW (M.take (k + 1)) = cntW elseW (M.take k) by rw [HST.out, HQ.out, decide_eq_false hk1]; simp)
              go_wp2
              go_roundw
              case rel => exact ⟨k + 1, n, by omega, by rw [HCT.out], by go_num, rfl⟩
              case measure => simp [intOf]; omega
          · have i1 : ¬ (k : Int) < (M.length : Int) := by omega
            obtain rfl : k = M.length := by omega
            rw [List.take_length, HE1.out]
            clear i1 hk hlt HL HE1
            go_wp2
            go_ret
            exact ⟨rfl, wdrew HB8.out n⟩
end Go.Proofs.YtaelgmibjiocfaaDoor
