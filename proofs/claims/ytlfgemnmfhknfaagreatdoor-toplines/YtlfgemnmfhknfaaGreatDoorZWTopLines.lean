/-
  Each line outside a letter has one code, at once: walked.
-/
import Derived.Test.YtlfgemnmfhknfaaGreatDoorZQPoRn5
namespace Go.Proofs.YtlfgemnmfhknfaaGreatDoor
open Go.RowKit Go.Proofs
theorem tlw {g : Gea} (h : geaW g) : geaW (tlG g) := by
  obtain ⟨h1, h2, h3, h4, h5, h6⟩ := h; refine ⟨?_, show (Lit.int .i64 0).wf = true by decide, h3, h4, show (Lit.int .i64 0).wf = true by decide, h6⟩; have h5 := qz g.kind 5 (by decide)
  show (Lit.int .i64 (tlK (zn g.kind 5))).wf = true
  generalize zn g.kind 5 = k at h5
  match k, h5 with
  | 0, _ | 1, _ | 2, _ | 3, _ | 4, _ => decide
theorem jlk {k : Nat} (hk : k < 5) (v : World) (t : TypeId) : (v.alloc (.cells #[.int .i64 0, .int .i64 2, .int .i64 5, .int .i64 9, .int .i64 14] t)).cell? ⟨v.heap.size, k, none⟩ = some (.int .i64 (tlK k)) := by
  have := heap_alloc_new v (.cells #[.int .i64 0, .int .i64 2, .int .i64 5, .int .i64 9, .int .i64 14] t); simp only [World.cell?, this]
  match k, hk with
  | 0, _ | 1, _ | 2, _ | 3, _ | 4, _ => rfl
def TlL (w : World) (g : Gea) (v : Value) (wx : World) : Prop := v = .string (S (zV (tlG g))) ∧ Below w.heap.size w wx
def tlsK (l : List Gea) (k : Nat) : List Acu := (l.take k).map fun g => tlA (tlS g)
theorem jkr {l : List Gea} {k : Nat} {c : Gea} (h : l[k]? = some c) : tlsK l (k + 1) = tlsK l k ++ [tlA (tlS c)] := by
  unfold tlsK; have hk : k < l.length := (List.getElem?_eq_some_iff.1 h).1; rw [List.take_succ_eq_append_getElem hk, (List.getElem?_eq_some_iff.1 h).2, List.map_append]; rfl
set_option linter.unusedSimpArgs false in
set_option maxHeartbeats 4000000 in
set_option maxRecDepth 100000 in
theorem topLines_walk (w : World) (hm : TabsM w) (a : Option Addr) (c : Nat) (l : List Gea) (hL : GesM (fun _ => True) w (.slice a l.length c) l) (hW : ∀ x ∈ l, geaW x) :
    Calls Tryz.prog 3 #[.slice a l.length c] w fun e w' => e = .returned (.bool true) ∧ Below w.heap.size w w' := by
  have hsm := RowM.small hL; unfold maxLen at hsm; have HM := hid hm; have HL := hid hL; have HCW := hid hW; obtain ⟨i0, hi, hz0, hz1, hz2⟩ := info_parts jmo; clear hm hL hW; go_enter Tryz.func3, Tryz.ntmps3; go_wp2
  go_loopw [3, 4, 5, 6] (fun q n v _ wr => ∃ (k : Nat) (a9 : Option Addr) (c9 : Nat), k ≤ l.length ∧ k ≤ 30 ∧ v = .int .i64 k ∧ n = .int .i64 k ∧ q = .slice a9 k c9 ∧ Hid (wr.ownsRow w.heap.size 32 11 (.slice a9 k c9) k ((tlsK l k).map acuC).flatten) ∧ Hid (Below w.heap.size w wr)) (fun _ _ v _ _ => l.length - (intOf v).toNat)
  case atStart => exact ⟨0, none, 0, Nat.zero_le _, Nat.zero_le _, rfl, rfl, rfl, World.ownsRow_nil _ _ _ _, Below.refl _ _⟩
  case round =>
    obtain ⟨k, a9, c9, hk, hkn, rfl, rfl, rfl, HO, HB⟩ := hrel
    by_cases hlt : k < l.length ∧ k < 30
    · obtain ⟨hl1, hl2⟩ := hlt; have k1 : (k : Int) < (l.length : Int) := by omega
      have k2 : (k : Int) < 30 := by omega
      have k0 : (0 : Int) ≤ (k : Int) := by omega
      obtain ⟨x, hx⟩ : ∃ x, l[k]? = some x := ⟨_, List.getElem?_eq_getElem hl1⟩; obtain ⟨b, o, rfl, e0, e1, e2, e3, e4, e5⟩ := (HL.out.next HB.out).at hx; have hxw := HCW.out x (List.mem_of_getElem? hx); have HPK := hid (fun u => vY x.kind 5 u hxw.1 (by decide) (by decide)); have HLN := hid (fun u => jiB (tlG x) u (tlw hxw)); have h5 := qz x.kind 5 (by decide); have HK5 := hid (fun (v : World) (t : TypeId) => jlk h5 v t); have HMS := hid (jkr hx); have hj0 : (0 : Int) ≤ (zn x.kind 5 : Int) := by omega
      have hj5 : (zn x.kind 5 : Int) < 5 := by omega
      have HC := hid (show ∀ u, Below wr.heap.size wr u → u.cell? ⟨b, o + k * 6, none⟩ = some (.int .i64 x.kind) ∧ u.cell? ⟨b, o + k * 6 + 2, none⟩ = some (.int .i64 x.user) ∧ u.cell? ⟨b, o + k * 6 + 3, none⟩ = some (.int .i64 x.a) ∧ u.cell? ⟨b, o + k * 6 + 5, none⟩ = some (.string x.text) from fun u hu => ⟨ja e0 hu, ja e2 hu, ja e3 hu, ja e5 hu⟩); obtain ⟨T, hT⟩ : ∃ T, T = zV (tlG x) := ⟨_, rfl⟩; unfold tlG geaV at HLN; have HTT := hid hT; generalize hkk : zn x.kind 5 = kk at *; have HKK := hid hkk; clear hx hxw hkk hT h5 e0 e1 e2 e3 e4 e5; go_upto_region 6 with fail
      go_cut [6] (fun v wx => TlL wr x v wx)
      case first =>
        refine wp_region_held_drew (S := fun u => u.cell? ⟨b, o + k * 6, none⟩ = some (.int .i64 x.kind) ∧ u.cell? ⟨b, o + k * 6 + 2, none⟩ = some (.int .i64 x.user) ∧ u.cell? ⟨b, o + k * 6 + 3, none⟩ = some (.int .i64 x.a) ∧ u.cell? ⟨b, o + k * 6 + 5, none⟩ = some (.string x.text)) (by kernel_rfl) ?_ (fun hHeld => ?_)
        · (refine HC.out _ ?_; (repeat (first | with_reducible exact Below.refl _ _ | with_reducible refine Below.drew ?_ | with_reducible refine Below.alloc ?_ (by first | exact Nat.le_refl _ | simp) _)))
        refine wpAnyH_take (i := 1) (v := ?v1) rfl (by kernel_rfl) (by kernel_rfl) (by kernel_rfl) (fun _ _ _ h => h) (Or.inl ⟨by rfl, ?hy1⟩) (by assumption) ?_
        case hy1 =>
          intro w hSw
          (try dsimp only at hSw)
          go_simp
          all_goals with_reducible rfl
        change wpAnyH _ _ _ _ _ _ _ (Act.put _ (some 20) _) _
        try simp only [Act.put, List.setIfInBounds_toArray, List.set_cons_zero, List.set_cons_succ]
        refine wpAnyH_take (i := 2) (v := ?v2) rfl (by kernel_rfl) (by kernel_rfl) (by kernel_rfl) (fun _ _ _ h => h) (Or.inl ⟨by rfl, ?hy2⟩) (by assumption) ?_
        case hy2 =>
          intro w hSw
          (try dsimp only at hSw)
          go_simp
          all_goals with_reducible rfl
        change wpAnyH _ _ _ _ _ _ _ (Act.put _ (some 21) _) _
        try simp only [Act.put, List.setIfInBounds_toArray, List.set_cons_zero, List.set_cons_succ]
        refine wpAnyH_take (i := 3) (v := ?v3) rfl (by kernel_rfl) (by kernel_rfl) (by kernel_rfl) (fun _ _ _ h => h) (Or.inl ⟨by rfl, ?hy3⟩) (by assumption) ?_
        case hy3 =>
          intro w hSw
          (try dsimp only at hSw)
          go_simp
          all_goals with_reducible rfl
        change wpAnyH _ _ _ _ _ _ _ (Act.put _ (some 22) _) _
        try simp only [Act.put, List.setIfInBounds_toArray, List.set_cons_zero, List.set_cons_succ]
        refine wpAnyH_take (i := 4) (v := ?v4) rfl (by kernel_rfl) (by kernel_rfl) (by kernel_rfl) (fun _ _ _ h => h) (Or.inl ⟨by rfl, ?hy4⟩) (by assumption) ?_
        case hy4 =>
          intro w hSw
          (try dsimp only at hSw)
          go_simp
          all_goals with_reducible rfl
        change wpAnyH _ _ _ _ _ _ _ (Act.put _ (some 23) _) _
        try simp only [Act.put, List.setIfInBounds_toArray, List.set_cons_zero, List.set_cons_succ]
        refine wpAnyH_take (i := 5) (v := ?v5) rfl (by kernel_rfl) (by kernel_rfl) (by kernel_rfl) (fun _ _ _ h => h) (Or.inl ⟨by rfl, ?hy5⟩) (by assumption) ?_
        case hy5 =>
          intro w hSw
          (try dsimp only at hSw)
          go_simp
          all_goals with_reducible rfl
        change wpAnyH _ _ _ _ _ _ _ (Act.put _ (some 24) _) _
        try simp only [Act.put, List.setIfInBounds_toArray, List.set_cons_zero, List.set_cons_succ]
        refine wpAnyH_take (i := 9) (v := ?v6) rfl (by kernel_rfl) (by kernel_rfl) (by kernel_rfl) (fun _ _ _ h => h) (Or.inl ⟨by rfl, ?hy6⟩) (by assumption) ?_
        case hy6 =>
          intro w hSw
          (try dsimp only at hSw)
          go_simp
          all_goals with_reducible rfl
        change wpAnyH _ _ _ _ _ _ _ (Act.put _ (some 28) _) _
        try simp only [Act.put, List.setIfInBounds_toArray, List.set_cons_zero, List.set_cons_succ]
        refine wpAnyH_take (i := 10) (v := ?v7) rfl (by kernel_rfl) (by kernel_rfl) (by kernel_rfl) (fun _ _ _ h => h) (Or.inl ⟨by rfl, ?hy7⟩) (by assumption) ?_
        case hy7 =>
          intro w hSw
          (try dsimp only at hSw)
          go_simp
          all_goals with_reducible rfl
        change wpAnyH _ _ _ _ _ _ _ (Act.put _ (some 29) _) _
        try simp only [Act.put, List.setIfInBounds_toArray, List.set_cons_zero, List.set_cons_succ]
        refine wpAnyH_take (i := 11) (v := ?v8) rfl (by kernel_rfl) (by kernel_rfl) (by kernel_rfl) (fun _ _ _ h => h) (Or.inl ⟨by rfl, ?hy8⟩) (by assumption) ?_
        case hy8 =>
          intro w hSw
          (try dsimp only at hSw)
          go_simp
          all_goals with_reducible rfl
        change wpAnyH _ _ _ _ _ _ _ (Act.put _ (some 30) _) _
        try simp only [Act.put, List.setIfInBounds_toArray, List.set_cons_zero, List.set_cons_succ]
        refine wpAnyH_take (i := 12) (v := ?v9) rfl (by kernel_rfl) (by kernel_rfl) (by kernel_rfl) (fun _ _ _ h => h) (Or.inl ⟨by rfl, ?hy9⟩) (by assumption) ?_
        case hy9 =>
          intro w hSw
          (try dsimp only at hSw)
          go_simp
          all_goals with_reducible rfl
        change wpAnyH _ _ _ _ _ _ _ (Act.put _ (some 31) _) _
        try simp only [Act.put, List.setIfInBounds_toArray, List.set_cons_zero, List.set_cons_succ]
        refine wpAnyH_take (i := 13) (v := ?v10) rfl (by kernel_rfl) (by kernel_rfl) (by kernel_rfl) (fun _ _ _ h => h) (Or.inl ⟨by rfl, ?hy10⟩) (by assumption) ?_
        case hy10 =>
          intro w hSw
          (try dsimp only at hSw)
          go_simp
          all_goals with_reducible rfl
        change wpAnyH _ _ _ _ _ _ _ (Act.put _ (some 32) _) _
        try simp only [Act.put, List.setIfInBounds_toArray, List.set_cons_zero, List.set_cons_succ]
        refine wpAnyH_take (i := 14) (v := ?v11) rfl (by kernel_rfl) (by kernel_rfl) (by kernel_rfl) (fun _ _ _ h => h) (Or.inl ⟨by rfl, ?hy11⟩) (by assumption) ?_
        case hy11 =>
          intro w hSw
          (try dsimp only at hSw)
          go_simp
          all_goals with_reducible rfl
        change wpAnyH _ _ _ _ _ _ _ (Act.put _ (some 33) _) _
        try simp only [Act.put, List.setIfInBounds_toArray, List.set_cons_zero, List.set_cons_succ]
        refine wpAnyH_take (i := 15) (v := ?v12) rfl (by kernel_rfl) (by kernel_rfl) (by kernel_rfl) (fun _ _ _ h => h) (Or.inl ⟨by rfl, ?hy12⟩) (by assumption) ?_
        case hy12 =>
          intro w hSw
          (try dsimp only at hSw)
          go_simp
          all_goals with_reducible rfl
        change wpAnyH _ _ _ _ _ _ _ (Act.put _ (some 34) _) _
        try simp only [Act.put, List.setIfInBounds_toArray, List.set_cons_zero, List.set_cons_succ]
        refine wpAnyH_take (i := 16) (v := ?v13) rfl (by kernel_rfl) (by kernel_rfl) (by kernel_rfl) (fun _ _ _ h => h) (Or.inl ⟨by rfl, ?hy13⟩) (by assumption) ?_
        case hy13 =>
          intro w hSw
          (try dsimp only at hSw)
          go_simp
          all_goals with_reducible rfl
        change wpAnyH _ _ _ _ _ _ _ (Act.put _ (some 35) _) _
        try simp only [Act.put, List.setIfInBounds_toArray, List.set_cons_zero, List.set_cons_succ]
        refine wpAnyH_take (i := 17) (v := ?v14) rfl (by kernel_rfl) (by kernel_rfl) (by kernel_rfl) (fun _ _ _ h => h) (Or.inl ⟨by rfl, ?hy14⟩) (by assumption) ?_
        case hy14 =>
          intro w hSw
          (try dsimp only at hSw)
          go_simp
          all_goals with_reducible rfl
        change wpAnyH _ _ _ _ _ _ _ (Act.put _ (some 36) _) _
        try simp only [Act.put, List.setIfInBounds_toArray, List.set_cons_zero, List.set_cons_succ]
        refine wpAnyH_take (i := 18) (v := ?v15) rfl (by kernel_rfl) (by kernel_rfl) (by kernel_rfl) (fun _ _ _ h => h) (Or.inl ⟨by rfl, ?hy15⟩) (by assumption) ?_
        case hy15 =>
          intro w hSw
          (try dsimp only at hSw)
          go_simp
          all_goals with_reducible rfl
        change wpAnyH _ _ _ _ _ _ _ (Act.put _ (some 37) _) _
        try simp only [Act.put, List.setIfInBounds_toArray, List.set_cons_zero, List.set_cons_succ]
        refine wpAnyH_take (i := 19) (v := ?v16) rfl (by kernel_rfl) (by kernel_rfl) (by kernel_rfl) (fun _ _ _ h => h) (Or.inl ⟨by rfl, ?hy16⟩) (by assumption) ?_
        case hy16 =>
          intro w hSw
          (try dsimp only at hSw)
          go_simp
          all_goals with_reducible rfl
        change wpAnyH _ _ _ _ _ _ _ (Act.put _ (some 38) _) _
        try simp only [Act.put, List.setIfInBounds_toArray, List.set_cons_zero, List.set_cons_succ]
        refine wpAnyH_take (i := 20) (v := ?v17) rfl (by kernel_rfl) (by kernel_rfl) (by kernel_rfl) (fun _ _ _ h => h) (Or.inl ⟨by rfl, ?hy17⟩) (by assumption) ?_
        case hy17 =>
          intro w hSw
          (try dsimp only at hSw)
          go_simp
          all_goals with_reducible rfl
        change wpAnyH _ _ _ _ _ _ _ (Act.put _ (some 39) _) _
        try simp only [Act.put, List.setIfInBounds_toArray, List.set_cons_zero, List.set_cons_succ]
        refine wpAnyH_take (i := 21) (v := ?v18) rfl (by kernel_rfl) (by kernel_rfl) (by kernel_rfl) (fun _ _ _ h => h) (Or.inl ⟨by rfl, ?hy18⟩) (by assumption) ?_
        case hy18 =>
          intro w hSw
          (try dsimp only at hSw)
          go_simp
          all_goals with_reducible rfl
        change wpAnyH _ _ _ _ _ _ _ (Act.put _ (some 40) _) _
        try simp only [Act.put, List.setIfInBounds_toArray, List.set_cons_zero, List.set_cons_succ]
        refine wpAnyH_take (i := 22) (v := ?v19) rfl (by kernel_rfl) (by kernel_rfl) (by kernel_rfl) (fun _ _ _ h => h) (Or.inl ⟨by rfl, ?hy19⟩) (by assumption) ?_
        case hy19 =>
          intro w hSw
          (try dsimp only at hSw)
          go_simp
          all_goals with_reducible rfl
        change wpAnyH _ _ _ _ _ _ _ (Act.put _ (some 41) _) _
        try simp only [Act.put, List.setIfInBounds_toArray, List.set_cons_zero, List.set_cons_succ]
        refine wpAnyH_take (i := 23) (v := ?v20) rfl (by kernel_rfl) (by kernel_rfl) (by kernel_rfl) (fun _ _ _ h => h) (Or.inl ⟨by rfl, ?hy20⟩) (by assumption) ?_
        case hy20 =>
          intro w hSw
          (try dsimp only at hSw)
          go_simp
          all_goals with_reducible rfl
        change wpAnyH _ _ _ _ _ _ _ (Act.put _ (some 42) _) _
        try simp only [Act.put, List.setIfInBounds_toArray, List.set_cons_zero, List.set_cons_succ]
        refine wpAnyH_ready (rs := [0, 6]) (by kernel_rfl) (by simp) ?_; refine AllReadyH.cons rfl (fun K hK => ?_) ?_
        · skip
          go_simp
          refine hK.out _ _ ?_ (fun hHeld => ?_)
          · (refine HC.out _ ?_; (repeat (first | with_reducible exact Below.refl _ _ | with_reducible refine Below.drew ?_ | with_reducible refine Below.alloc ?_ (by first | exact Nat.le_refl _ | simp) _)))
          clear hK K
          try simp only [Act.put, List.setIfInBounds_toArray, List.set_cons_zero, List.set_cons_succ]
          refine jcP (E := fun u : World => u.cell? ⟨wr.heap.size, kk, none⟩ = some (.int .i64 (tlK kk))) hHeld (HK5.out wr _) (fun hHeld1 => ?_); clear hHeld; refine wpAnyH_ready (rs := [6]) (by kernel_rfl) (by simp) ?_; refine AllReadyH.cons rfl (fun K hK => ?_) AllReadyH.nil
          go_simp
          refine (HPK.out _).mono ?_; rintro e u ⟨rfl, hu⟩; subst hu; go_wp2_with fail; refine hK.out _ _ ?_ (fun hHeld => ?_)
          · exact hHeld1
          clear hK K
          try simp only [Act.put, List.setIfInBounds_toArray, List.set_cons_zero, List.set_cons_succ]
          refine wpAnyH_take (i := 7) (v := ?v21) rfl (by kernel_rfl) (by kernel_rfl) (by kernel_rfl) (fun _ _ _ h => h) (Or.inl ⟨by rfl, ?hy21⟩) (by assumption) ?_
          case hy21 =>
            intro w hSw
            (try dsimp only at hSw)
            go_simp
            all_goals with_reducible rfl
          change wpAnyH _ _ _ _ _ _ _ (Act.put _ (some 26) _) _
          try simp only [Act.put, List.setIfInBounds_toArray, List.set_cons_zero, List.set_cons_succ]
          refine wpAnyH_take (i := 8) (v := ?v22) rfl (by kernel_rfl) (by kernel_rfl) (by kernel_rfl) (fun _ _ _ h => h) (Or.inl ⟨by rfl, ?hy22⟩) (by assumption) ?_
          case hy22 =>
            intro w hSw
            (try dsimp only at hSw)
            go_simp
            all_goals with_reducible rfl
          change wpAnyH _ _ _ _ _ _ _ (Act.put _ (some 27) _) _
          try simp only [Act.put, List.setIfInBounds_toArray, List.set_cons_zero, List.set_cons_succ]
          refine wpAnyH_take (i := 24) (v := ?v23) rfl (by kernel_rfl) (by kernel_rfl) (by kernel_rfl) (fun _ _ _ h => h) (Or.inl ⟨by rfl, ?hy23⟩) (by assumption) ?_
          case hy23 =>
            intro w hSw
            (try dsimp only at hSw)
            go_simp
            all_goals with_reducible rfl
          change wpAnyH _ _ _ _ _ _ _ (Act.put _ (some 43) _) _
          try simp only [Act.put, List.setIfInBounds_toArray, List.set_cons_zero, List.set_cons_succ]
          refine wpAnyH_ready (rs := [25]) (by kernel_rfl) (by simp) ?_; refine AllReadyH.cons rfl (fun K hK => ?_) AllReadyH.nil
          go_simp
          refine (HLN.out _).mono ?_; rintro e u ⟨rfl, hu⟩; have HBU := hid (show Below wr.heap.size wr u from (show Below wr.heap.size wr _ from by (repeat (first | with_reducible exact Below.refl _ _ | with_reducible refine Below.drew ?_ | with_reducible refine Below.alloc ?_ (by first | exact Nat.le_refl _ | simp) _))).trans (hu.mono (by first | exact Nat.le_refl _ | simp))); have hE2 := ja hHeld1.2 hu; have HE2 := hid hE2; clear hu hE2; go_wp2_with fail; refine hK.out _ _ ?_ (fun hHeld => ?_)
          · exact ⟨HC.out _ HBU.out, HE2.out⟩
          clear hK K
          try simp only [Act.put, List.setIfInBounds_toArray, List.set_cons_zero, List.set_cons_succ]
          refine wpAnyH_take (i := 26) (v := ?v24) rfl (by kernel_rfl) (by kernel_rfl) (by kernel_rfl) (fun _ _ _ h => h) (Or.inl ⟨by rfl, ?hy24⟩) (by assumption) ?_
          case hy24 =>
            intro w hSw
            (try dsimp only at hSw)
            go_simp
            all_goals with_reducible rfl
          change wpAnyH _ _ _ _ _ _ _ (Act.put _ (some 6) _) _
          try simp only [Act.put, List.setIfInBounds_toArray, List.set_cons_zero, List.set_cons_succ]
          refine wpAnyH_done (by kernel_rfl) ?_ _; go_wp2_with fail
          go_meet
          exact ⟨by rw [← HKK.out]; rfl, HBU.out⟩
        refine AllReadyH.cons rfl (fun K hK => ?_) AllReadyH.nil
        go_simp
        refine (HPK.out _).mono ?_; rintro e u ⟨rfl, hu⟩; subst hu; go_wp2_with fail; refine hK.out _ _ ?_ (fun hHeld => ?_)
        · (refine HC.out _ ?_; (repeat (first | with_reducible exact Below.refl _ _ | with_reducible refine Below.drew ?_ | with_reducible refine Below.alloc ?_ (by first | exact Nat.le_refl _ | simp) _)))
        clear hK K
        try simp only [Act.put, List.setIfInBounds_toArray, List.set_cons_zero, List.set_cons_succ]
        refine wpAnyH_ready (rs := [0]) (by kernel_rfl) (by simp) ?_; refine AllReadyH.cons rfl (fun K hK => ?_) AllReadyH.nil
        go_simp
        refine hK.out _ _ ?_ (fun hHeld => ?_)
        · (refine HC.out _ ?_; (repeat (first | with_reducible exact Below.refl _ _ | with_reducible refine Below.drew ?_ | with_reducible refine Below.alloc ?_ (by first | exact Nat.le_refl _ | simp) _)))
        clear hK K
        try simp only [Act.put, List.setIfInBounds_toArray, List.set_cons_zero, List.set_cons_succ]
        refine jcP (E := fun u : World => u.cell? ⟨wr.heap.size, kk, none⟩ = some (.int .i64 (tlK kk))) hHeld (HK5.out wr _) (fun hHeld1 => ?_); clear hHeld; refine wpAnyH_take (i := 7) (v := ?v25) rfl (by kernel_rfl) (by kernel_rfl) (by kernel_rfl) (fun _ _ _ h => h) (Or.inl ⟨by rfl, ?hy25⟩) (by assumption) ?_
        case hy25 =>
          intro w hSw
          (try dsimp only at hSw)
          go_simp
          all_goals with_reducible rfl
        change wpAnyH _ _ _ _ _ _ _ (Act.put _ (some 26) _) _
        try simp only [Act.put, List.setIfInBounds_toArray, List.set_cons_zero, List.set_cons_succ]
        refine wpAnyH_take (i := 8) (v := ?v26) rfl (by kernel_rfl) (by kernel_rfl) (by kernel_rfl) (fun _ _ _ h => h) (Or.inl ⟨by rfl, ?hy26⟩) (by assumption) ?_
        case hy26 =>
          intro w hSw
          (try dsimp only at hSw)
          go_simp
          all_goals with_reducible rfl
        change wpAnyH _ _ _ _ _ _ _ (Act.put _ (some 27) _) _
        try simp only [Act.put, List.setIfInBounds_toArray, List.set_cons_zero, List.set_cons_succ]
        refine wpAnyH_take (i := 24) (v := ?v27) rfl (by kernel_rfl) (by kernel_rfl) (by kernel_rfl) (fun _ _ _ h => h) (Or.inl ⟨by rfl, ?hy27⟩) (by assumption) ?_
        case hy27 =>
          intro w hSw
          (try dsimp only at hSw)
          go_simp
          all_goals with_reducible rfl
        change wpAnyH _ _ _ _ _ _ _ (Act.put _ (some 43) _) _
        try simp only [Act.put, List.setIfInBounds_toArray, List.set_cons_zero, List.set_cons_succ]
        refine wpAnyH_ready (rs := [25]) (by kernel_rfl) (by simp) ?_; refine AllReadyH.cons rfl (fun K hK => ?_) AllReadyH.nil
        go_simp
        refine (HLN.out _).mono ?_; rintro e u ⟨rfl, hu⟩; have HBU := hid (show Below wr.heap.size wr u from (show Below wr.heap.size wr _ from by (repeat (first | with_reducible exact Below.refl _ _ | with_reducible refine Below.drew ?_ | with_reducible refine Below.alloc ?_ (by first | exact Nat.le_refl _ | simp) _))).trans (hu.mono (by first | exact Nat.le_refl _ | simp))); have hE2 := ja hHeld1.2 hu; have HE2 := hid hE2; clear hu hE2; go_wp2_with fail; refine hK.out _ _ ?_ (fun hHeld => ?_)
        · exact ⟨HC.out _ HBU.out, HE2.out⟩
        clear hK K
        try simp only [Act.put, List.setIfInBounds_toArray, List.set_cons_zero, List.set_cons_succ]
        refine wpAnyH_take (i := 26) (v := ?v28) rfl (by kernel_rfl) (by kernel_rfl) (by kernel_rfl) (fun _ _ _ h => h) (Or.inl ⟨by rfl, ?hy28⟩) (by assumption) ?_
        case hy28 =>
          intro w hSw
          (try dsimp only at hSw)
          go_simp
          all_goals with_reducible rfl
        change wpAnyH _ _ _ _ _ _ _ (Act.put _ (some 6) _) _
        try simp only [Act.put, List.setIfInBounds_toArray, List.set_cons_zero, List.set_cons_succ]
        refine wpAnyH_done (by kernel_rfl) ?_ _; go_wp2_with fail
        go_meet
        exact ⟨by rw [← HKK.out]; rfl, HBU.out⟩
      case rest =>
        obtain ⟨hv, hBx⟩ := hcut; rw [← HTT.out] at hv; subst hv; obtain ⟨W3, rfl⟩ : ∃ W, W = wc := ⟨_, rfl⟩; have HB3 := hid (HB.out.trans (hBx.mono HB.out.size)); have HO3 := hid (j9 HO.out hBx); have HSY := hid (show tlS x = if T.length = 4 ∧ T ≠ jha then jkl else T by rw [HTT.out]; rfl); clear hBx HC HLN HPK HK5; have hl : (S T).toList = T := by rw [Lib.toList_data, jo]
        by_cases h4 : T.length = 4
        · have z4 : ((S T).size : Int) = 4 := by rw [jf]; omega
          by_cases hr : T = jha
          · have zr : ((S T).toList == [82, 83, 69, 84]) = true := by rw [hl, hr]; rfl
            have HF := hid (show tlS x = T by rw [HSY.out, if_neg (fun h => h.2 hr)]); clear hl h4 hr HSY; go_upto_region 9 with fail
            rw [show T = tlS x from HF.out.symm]; obtain ⟨Y, hYe⟩ : ∃ Y, Y = tlS x := ⟨_, rfl⟩; rw [← hYe] at HMS ⊢; have hY : Y.length ≤ 60 := by rw [hYe]; exact jcZ x
            have hsz : ¬ 9223372036854775807 < (S Y).size + (⟨#[13, 10]⟩ : ByteArray).size := by rw [jf]; show ¬ 9223372036854775807 < Y.length + 2; omega
            have HAP := hid (show S Y ++ (⟨#[13, 10]⟩ : ByteArray) = S (Y ++ crL) from jbN Y crL); clear hYe hY HTT HF
            go_wp2_with (first
              | (at_builtin; refine wpList_append_lies _ rfl _ _ 23 rfl w.heap.size 32 i0 _ 11 120 Tryz.underlying23 hi hz0 hz1 hz2 rfl (by omega) (.slice a9 k c9) k (((tlsK l k).map acuC).flatten) rfl (World.ownsRow.alloc HO3.out _) ⟨W3.heap.size, 0, none⟩ 1 1 [.int .i64 1, .int .i64 2, .int .i64 0, .int .i64 0, .string (S Y ++ ⟨#[13, 10]⟩), .int .i64 0, .string ⟨#[]⟩, .int .i64 0, .int .i64 0, .string ⟨#[]⟩, .string ⟨#[]⟩] rfl rfl (zE W3 [.int .i64 1, .int .i64 2, .int .i64 0, .int .i64 0, .string (S Y ++ ⟨#[13, 10]⟩), .int .i64 0, .string ⟨#[]⟩, .int .i64 0, .int .i64 0, .string ⟨#[]⟩, .string ⟨#[]⟩] _) ?c1 (by omega) ?c2 ?c3 ?c4 _ rfl ?_)
              | fail)
            case c1 => simp [Value.oneCell']
            case c2 => unfold maxLen; omega
            case c3 => omega
            case c4 => have := HB3.out.size; simp; omega
            intro gm cap w4 hown hgrow hat hlt4; have HB4 := hid (show Below w.heap.size w w4 from (HB3.out.alloc HB3.out.size _).grown hgrow (by have := HB3.out.size; simp; omega) (fun j hj => (World.ownsRow.lt HO3.out j hj).1)); have HO4 := hid (show w4.ownsRow w.heap.size 32 11 (.slice (some ⟨gm, 0, none⟩) (k + 1) cap) (k + 1) ((tlsK l (k + 1)).map acuC).flatten by
              rw [HMS.out, jcV]; rw [HAP.out] at hown; exact hown)
            clear hown hgrow hat; go_wp2
            go_roundw
            case rel => first | exact ⟨k + 1, _, cap, by omega, by omega, by go_num, by go_num, rfl, HO4, HB4⟩ | ((repeat apply Exists.intro); exact ⟨⟨k + 1, _, cap, by omega, by omega, by go_num, by go_num, rfl, HO4, HB4⟩, rfl⟩)
            case measure => simp [intOf]; omega
          · have zr : ((S T).toList == [82, 83, 69, 84]) = false := by rw [hl]; exact beq_eq_false_iff_ne.2 hr
            have HF := hid (show tlS x = jkl by rw [HSY.out, if_pos ⟨h4, hr⟩]); clear hl h4 hr HSY; go_upto_region 9 with fail
            rw [show (⟨#[78, 79, 79, 80]⟩ : ByteArray) = S (tlS x) by rw [HF.out]; rfl]; obtain ⟨Y, hYe⟩ : ∃ Y, Y = tlS x := ⟨_, rfl⟩; rw [← hYe] at HMS ⊢; have hY : Y.length ≤ 60 := by rw [hYe]; exact jcZ x
            have hsz : ¬ 9223372036854775807 < (S Y).size + (⟨#[13, 10]⟩ : ByteArray).size := by rw [jf]; show ¬ 9223372036854775807 < Y.length + 2; omega
            have HAP := hid (show S Y ++ (⟨#[13, 10]⟩ : ByteArray) = S (Y ++ crL) from jbN Y crL); clear hYe hY HTT HF
            go_wp2_with (first
              | (at_builtin; refine wpList_append_lies _ rfl _ _ 23 rfl w.heap.size 32 i0 _ 11 120 Tryz.underlying23 hi hz0 hz1 hz2 rfl (by omega) (.slice a9 k c9) k (((tlsK l k).map acuC).flatten) rfl (World.ownsRow.alloc HO3.out _) ⟨W3.heap.size, 0, none⟩ 1 1 [.int .i64 1, .int .i64 2, .int .i64 0, .int .i64 0, .string (S Y ++ ⟨#[13, 10]⟩), .int .i64 0, .string ⟨#[]⟩, .int .i64 0, .int .i64 0, .string ⟨#[]⟩, .string ⟨#[]⟩] rfl rfl (zE W3 [.int .i64 1, .int .i64 2, .int .i64 0, .int .i64 0, .string (S Y ++ ⟨#[13, 10]⟩), .int .i64 0, .string ⟨#[]⟩, .int .i64 0, .int .i64 0, .string ⟨#[]⟩, .string ⟨#[]⟩] _) ?c1 (by omega) ?c2 ?c3 ?c4 _ rfl ?_)
              | fail)
            case c1 => simp [Value.oneCell']
            case c2 => unfold maxLen; omega
            case c3 => omega
            case c4 => have := HB3.out.size; simp; omega
            intro gm cap w4 hown hgrow hat hlt4; have HB4 := hid (show Below w.heap.size w w4 from (HB3.out.alloc HB3.out.size _).grown hgrow (by have := HB3.out.size; simp; omega) (fun j hj => (World.ownsRow.lt HO3.out j hj).1)); have HO4 := hid (show w4.ownsRow w.heap.size 32 11 (.slice (some ⟨gm, 0, none⟩) (k + 1) cap) (k + 1) ((tlsK l (k + 1)).map acuC).flatten by
              rw [HMS.out, jcV]; rw [HAP.out] at hown; exact hown)
            clear hown hgrow hat; go_wp2
            go_roundw
            case rel => first | exact ⟨k + 1, _, cap, by omega, by omega, by go_num, by go_num, rfl, HO4, HB4⟩ | ((repeat apply Exists.intro); exact ⟨⟨k + 1, _, cap, by omega, by omega, by go_num, by go_num, rfl, HO4, HB4⟩, rfl⟩)
            case measure => simp [intOf]; omega
        · have z4 : ¬ ((S T).size : Int) = 4 := by rw [jf]; omega
          have HF := hid (show tlS x = T by rw [HSY.out, if_neg (fun h => h4 h.1)]); clear hl h4 HSY; go_upto_region 9 with fail
          rw [show T = tlS x from HF.out.symm]; obtain ⟨Y, hYe⟩ : ∃ Y, Y = tlS x := ⟨_, rfl⟩; rw [← hYe] at HMS ⊢; have hY : Y.length ≤ 60 := by rw [hYe]; exact jcZ x
          have hsz : ¬ 9223372036854775807 < (S Y).size + (⟨#[13, 10]⟩ : ByteArray).size := by rw [jf]; show ¬ 9223372036854775807 < Y.length + 2; omega
          have HAP := hid (show S Y ++ (⟨#[13, 10]⟩ : ByteArray) = S (Y ++ crL) from jbN Y crL); clear hYe hY HTT HF
          go_wp2_with (first
            | (at_builtin; refine wpList_append_lies _ rfl _ _ 23 rfl w.heap.size 32 i0 _ 11 120 Tryz.underlying23 hi hz0 hz1 hz2 rfl (by omega) (.slice a9 k c9) k (((tlsK l k).map acuC).flatten) rfl (World.ownsRow.alloc HO3.out _) ⟨W3.heap.size, 0, none⟩ 1 1 [.int .i64 1, .int .i64 2, .int .i64 0, .int .i64 0, .string (S Y ++ ⟨#[13, 10]⟩), .int .i64 0, .string ⟨#[]⟩, .int .i64 0, .int .i64 0, .string ⟨#[]⟩, .string ⟨#[]⟩] rfl rfl (zE W3 [.int .i64 1, .int .i64 2, .int .i64 0, .int .i64 0, .string (S Y ++ ⟨#[13, 10]⟩), .int .i64 0, .string ⟨#[]⟩, .int .i64 0, .int .i64 0, .string ⟨#[]⟩, .string ⟨#[]⟩] _) ?c1 (by omega) ?c2 ?c3 ?c4 _ rfl ?_)
            | fail)
          case c1 => simp [Value.oneCell']
          case c2 => unfold maxLen; omega
          case c3 => omega
          case c4 => have := HB3.out.size; simp; omega
          intro gm cap w4 hown hgrow hat hlt4; have HB4 := hid (show Below w.heap.size w w4 from (HB3.out.alloc HB3.out.size _).grown hgrow (by have := HB3.out.size; simp; omega) (fun j hj => (World.ownsRow.lt HO3.out j hj).1)); have HO4 := hid (show w4.ownsRow w.heap.size 32 11 (.slice (some ⟨gm, 0, none⟩) (k + 1) cap) (k + 1) ((tlsK l (k + 1)).map acuC).flatten by
            rw [HMS.out, jcV]; rw [HAP.out] at hown; exact hown)
          clear hown hgrow hat; go_wp2
          go_roundw
          case rel => first | exact ⟨k + 1, _, cap, by omega, by omega, by go_num, by go_num, rfl, HO4, HB4⟩ | ((repeat apply Exists.intro); exact ⟨⟨k + 1, _, cap, by omega, by omega, by go_num, by go_num, rfl, HO4, HB4⟩, rfl⟩)
          case measure => simp [intOf]; omega
    · have hke : k = l.length ∨ k = 30 := by omega
      obtain ⟨ls, hls⟩ : ∃ ls, ls = (l.take k).map tlS := ⟨_, rfl⟩; have hll : ls.length = k := by rw [hls]; simp; omega
      have hma : ls.map tlA = tlsK l k := by rw [hls]; unfold tlsK; rw [List.map_map]; rfl
      have hac : AcsM (fun _ => True) wr (.slice a9 k c9) (tlsK l k) := je7 (css := (tlsK l k).map acuC) HO.out (by rw [← hma]; simp [hll]) (by unfold maxLen; omega) (by simp) (fun cs h => by
        obtain ⟨x, _, rfl⟩ := List.mem_map.1 h; rfl) (fun i x cs h1 h2 => by
        rw [List.getElem?_map, h1] at h2; cases h2; rfl) fun _ _ => trivial
      have HRN := hid (show Calls Tryz.prog 7 #[.slice a9 k c9] wr (RanP wr (tlW ls k)) from by
        have hln : (ls.map tlA).length = k := by simp [hll]
        have h := jmm (fun _ => True) a9 c9 ls wr (HM.out.next HB.out) (by rw [hln, hma]; exact hac) (fun y hy => by
          rw [hls] at hy; obtain ⟨g, _, rfl⟩ := List.mem_map.1 hy; exact ⟨jlh g, jkT g, jcZ g⟩) (by omega)
        rw [hln] at h; exact h)
      obtain ⟨t2, t0, hsf, _⟩ := jdy ls k; obtain ⟨R, hR⟩ : ∃ R, R = tlW ls k := ⟨_, rfl⟩; rw [← hR] at HRN t2 t0 hsf; clear hke hls hll hma hac hR; have k1 : (decide ((k : Int) < (l.length : Int)) && decide ((k : Int) < 30)) = false := by
        rw [Bool.and_eq_false_iff, decide_eq_false_iff_not, decide_eq_false_iff_not]; omega
      by_cases hk1 : (k : Int) < (l.length : Int)
      · have hk2 : ¬ (k : Int) < 30 := by omega
        go_wp2_with fail; refine HRN.out.mono ?_; rintro e w2 ⟨ac, cc, ao, co, as_, cs, rfl, hO2, hb2⟩; obtain ⟨q0, p0, z0, rfl, _, _, _, hz0', v0, rfl, hv0⟩ : ∃ b o cs, ac = some ⟨b, o, none⟩ ∧ b < w2.heap.size ∧ wr.heap.size ≤ b ∧ cs.length = 1 ∧ (∀ (j : Nat) u, cs[j]? = some u → w2.cell? ⟨b, o + 0 * 1 + j, none⟩ = some u) ∧ ∃ v, cs = [v] ∧ IntsM (wr.heap.size ≤ ·) w2 v R.c0.told := by
          obtain ⟨_, _, e, _, hr⟩ := hO2.co; cases e; exact hr 0 _ rfl
        obtain ⟨q2, p2, z2, e2, _, _, _, hz2', v2, rfl, hv2⟩ : ∃ b o cs, (some ⟨q0, p0, none⟩ : Option Addr) = some ⟨b, o, none⟩ ∧ b < w2.heap.size ∧ wr.heap.size ≤ b ∧ cs.length = 1 ∧ (∀ (j : Nat) u, cs[j]? = some u → w2.cell? ⟨b, o + 2 * 1 + j, none⟩ = some u) ∧ ∃ v, cs = [v] ∧ IntsM (wr.heap.size ≤ ·) w2 v R.c2.told := by
          obtain ⟨_, _, e, _, hr⟩ := hO2.co; cases e; exact hr 2 _ rfl
        cases e2; have y0 := hz0' 0 _ rfl; have y2 := hz2' 0 _ rfl; obtain ⟨b0, d0, rfl⟩ := zc hv0; obtain ⟨b2, d2, rfl⟩ := zc hv2; rw [t0] at y0; rw [t2] at y2; simp only [Nat.zero_mul, Nat.add_zero, Nat.mul_one, List.length_nil] at y0 y2; have hs2 := hO2.sf; rw [hsf] at hs2; have HS2 := hid hs2; have HB2 := hid (HB.out.trans (hb2.mono HB.out.size)); clear hO2 hb2 hz0' hz2' hv0 hv2 hs2 t0 t2 hsf; obtain ⟨W3, hW3⟩ : ∃ W3, W3 = w2.alloc (.cells #[.bool R.up, .slice (some ⟨q0, p0, none⟩) 3 cc, .slice ao 3 co, .slice as_ 3 cs, .int .i64 R.waits] 37) := ⟨_, rfl⟩; have hb3 : Below w2.heap.size w2 W3 := by rw [hW3]; exact (Below.refl _ _).alloc (Nat.le_refl _) _
        have hx3 : W3.heap[w2.heap.size]? = some (.cells #[.bool R.up, .slice (some ⟨q0, p0, none⟩) 3 cc, .slice ao 3 co, .slice as_ 3 cs, .int .i64 R.waits] 37) := by rw [hW3]; exact heap_alloc_new w2 _
        have x1 : W3.cell? ⟨w2.heap.size, 1, none⟩ = some (.slice (some ⟨q0, p0, none⟩) 3 cc) := by simp [World.cell?, hx3]
        have x3 : W3.cell? ⟨w2.heap.size, 3, none⟩ = some (.slice as_ 3 cs) := by simp [World.cell?, hx3]
        have w0' := ja y0 hb3; have w2' := ja y2 hb3; have HC3 := hid (show ∀ u, Below W3.heap.size W3 u → u.cell? ⟨w2.heap.size, 1, none⟩ = some (.slice (some ⟨q0, p0, none⟩) 3 cc) ∧ u.cell? ⟨w2.heap.size, 3, none⟩ = some (.slice as_ 3 cs) ∧ u.cell? ⟨q0, p0, none⟩ = some (.slice b0 0 d0) ∧ u.cell? ⟨q0, p0 + 2, none⟩ = some (.slice b2 k d2) from fun u hu => ⟨ja x1 hu, ja x3 hu, ja w0' hu, ja w2' hu⟩); have HS3 := hid (show ∀ u, Below W3.heap.size W3 u → RowM (wr.heap.size ≤ ·) 2 (SttV (wr.heap.size ≤ ·) u) u (.slice as_ 3 cs) [inbS, inbS, inbS] from fun u hu => RowM.imp HS2.out (fun _ h => h) (Keeps.of_below (hb3.trans (hu.mono hb3.size))) fun s cs h => by
          obtain ⟨vb, vs, e, h⟩ := h; exact ⟨vb, vs, e, h.next (hb3.trans (hu.mono hb3.size))⟩)
        have HB3 := hid (HB2.out.trans (hb3.mono HB2.out.size)); have HW3 := hid hW3; have HFR := hid (fun u => jdY u); clear hb3 hx3 hW3 x1 x3 w0' w2' y0 y2 HS2; go_upto_region 12 with fail
        rw [← HW3.out]; refine wp_region_held_drew (S := fun u => u.cell? ⟨w2.heap.size, 1, none⟩ = some (.slice (some ⟨q0, p0, none⟩) 3 cc) ∧ u.cell? ⟨w2.heap.size, 3, none⟩ = some (.slice as_ 3 cs) ∧ u.cell? ⟨q0, p0, none⟩ = some (.slice b0 0 d0) ∧ u.cell? ⟨q0, p0 + 2, none⟩ = some (.slice b2 k d2)) (by kernel_rfl) ?_ (fun hHeld => ?_)
        · exact HC3.out _ (Below.refl _ _).drew
        refine wpAnyH_take (i := 0) (v := ?v29) rfl (by kernel_rfl) (by kernel_rfl) (by kernel_rfl) (fun _ _ _ h => h) (Or.inl ⟨by rfl, ?hy29⟩) (by assumption) ?_
        case hy29 =>
          intro w hSw
          (try dsimp only at hSw)
          go_simp
          all_goals with_reducible rfl
        change wpAnyH _ _ _ _ _ _ _ (Act.put _ (some 65) _) _
        try simp only [Act.put, List.setIfInBounds_toArray, List.set_cons_zero, List.set_cons_succ]
        refine wpAnyH_take (i := 1) (v := ?v30) rfl (by kernel_rfl) (by kernel_rfl) (by kernel_rfl) (fun _ _ _ h => h) (Or.inl ⟨by rfl, ?hy30⟩) (by assumption) ?_
        case hy30 =>
          intro w hSw
          (try dsimp only at hSw)
          go_simp
          all_goals with_reducible rfl
        change wpAnyH _ _ _ _ _ _ _ (Act.put _ (some 66) _) _
        try simp only [Act.put, List.setIfInBounds_toArray, List.set_cons_zero, List.set_cons_succ]
        refine wpAnyH_take (i := 2) (v := ?v31) rfl (by kernel_rfl) (by kernel_rfl) (by kernel_rfl) (fun _ _ _ h => h) (Or.inl ⟨by rfl, ?hy31⟩) (by assumption) ?_
        case hy31 =>
          intro w hSw
          (try dsimp only at hSw)
          go_simp
          all_goals with_reducible rfl
        change wpAnyH _ _ _ _ _ _ _ (Act.put _ (some 67) _) _
        try simp only [Act.put, List.setIfInBounds_toArray, List.set_cons_zero, List.set_cons_succ]
        refine wpAnyH_take (i := 3) (v := ?v32) rfl (by kernel_rfl) (by kernel_rfl) (by kernel_rfl) (fun _ _ _ h => h) (Or.inl ⟨by rfl, ?hy32⟩) (by assumption) ?_
        case hy32 =>
          intro w hSw
          (try dsimp only at hSw)
          go_simp
          all_goals with_reducible rfl
        change wpAnyH _ _ _ _ _ _ _ (Act.put _ (some 68) _) _
        try simp only [Act.put, List.setIfInBounds_toArray, List.set_cons_zero, List.set_cons_succ]
        refine wpAnyH_take (i := 4) (v := ?v33) rfl (by kernel_rfl) (by kernel_rfl) (by kernel_rfl) (fun _ _ _ h => h) (Or.inl ⟨by rfl, ?hy33⟩) (by assumption) ?_
        case hy33 =>
          intro w hSw
          (try dsimp only at hSw)
          go_simp
          all_goals with_reducible rfl
        change wpAnyH _ _ _ _ _ _ _ (Act.put _ (some 69) _) _
        try simp only [Act.put, List.setIfInBounds_toArray, List.set_cons_zero, List.set_cons_succ]
        refine wpAnyH_take (i := 5) (v := ?v34) rfl (by kernel_rfl) (by kernel_rfl) (by kernel_rfl) (fun _ _ _ h => h) (Or.inl ⟨by rfl, ?hy34⟩) (by assumption) ?_
        case hy34 =>
          intro w hSw
          (try dsimp only at hSw)
          go_simp
          all_goals with_reducible rfl
        change wpAnyH _ _ _ _ _ _ _ (Act.put _ (some 70) _) _
        try simp only [Act.put, List.setIfInBounds_toArray, List.set_cons_zero, List.set_cons_succ]
        refine wpAnyH_take (i := 6) (v := ?v35) rfl (by kernel_rfl) (by kernel_rfl) (by kernel_rfl) (fun _ _ _ h => h) (Or.inl ⟨by rfl, ?hy35⟩) (by assumption) ?_
        case hy35 =>
          intro w hSw
          (try dsimp only at hSw)
          go_simp
          all_goals with_reducible rfl
        change wpAnyH _ _ _ _ _ _ _ (Act.put _ (some 71) _) _
        try simp only [Act.put, List.setIfInBounds_toArray, List.set_cons_zero, List.set_cons_succ]
        refine wpAnyH_take (i := 7) (v := ?v36) rfl (by kernel_rfl) (by kernel_rfl) (by kernel_rfl) (fun _ _ _ h => h) (Or.inl ⟨by rfl, ?hy36⟩) (by assumption) ?_
        case hy36 =>
          intro w hSw
          (try dsimp only at hSw)
          go_simp
          all_goals with_reducible rfl
        change wpAnyH _ _ _ _ _ _ _ (Act.put _ (some 72) _) _
        try simp only [Act.put, List.setIfInBounds_toArray, List.set_cons_zero, List.set_cons_succ]
        refine wpAnyH_take (i := 8) (v := ?v37) rfl (by kernel_rfl) (by kernel_rfl) (by kernel_rfl) (fun _ _ _ h => h) (Or.inl ⟨by rfl, ?hy37⟩) (by assumption) ?_
        case hy37 =>
          intro w hSw
          (try dsimp only at hSw)
          go_simp
          all_goals with_reducible rfl
        change wpAnyH _ _ _ _ _ _ _ (Act.put _ (some 73) _) _
        try simp only [Act.put, List.setIfInBounds_toArray, List.set_cons_zero, List.set_cons_succ]
        refine wpAnyH_take (i := 9) (v := ?v38) rfl (by kernel_rfl) (by kernel_rfl) (by kernel_rfl) (fun _ _ _ h => h) (Or.inl ⟨by rfl, ?hy38⟩) (by assumption) ?_
        case hy38 =>
          intro w hSw
          (try dsimp only at hSw)
          go_simp
          all_goals with_reducible rfl
        change wpAnyH _ _ _ _ _ _ _ (Act.put _ (some 74) _) _
        try simp only [Act.put, List.setIfInBounds_toArray, List.set_cons_zero, List.set_cons_succ]
        refine wpAnyH_take (i := 10) (v := ?v39) rfl (by kernel_rfl) (by kernel_rfl) (by kernel_rfl) (fun _ _ _ h => h) (Or.inl ⟨by rfl, ?hy39⟩) (by assumption) ?_
        case hy39 =>
          intro w hSw
          (try dsimp only at hSw)
          go_simp
          all_goals with_reducible rfl
        change wpAnyH _ _ _ _ _ _ _ (Act.put _ (some 75) _) _
        try simp only [Act.put, List.setIfInBounds_toArray, List.set_cons_zero, List.set_cons_succ]
        refine wpAnyH_take (i := 11) (v := ?v40) rfl (by kernel_rfl) (by kernel_rfl) (by kernel_rfl) (fun _ _ _ h => h) (Or.inl ⟨by rfl, ?hy40⟩) (by assumption) ?_
        case hy40 =>
          intro w hSw
          (try dsimp only at hSw)
          go_simp
          all_goals with_reducible rfl
        change wpAnyH _ _ _ _ _ _ _ (Act.put _ (some 76) _) _
        try simp only [Act.put, List.setIfInBounds_toArray, List.set_cons_zero, List.set_cons_succ]
        refine wpAnyH_take (i := 12) (v := ?v41) rfl (by kernel_rfl) (by kernel_rfl) (by kernel_rfl) (fun _ _ _ h => h) (Or.inl ⟨by rfl, ?hy41⟩) (by assumption) ?_
        case hy41 =>
          intro w hSw
          (try dsimp only at hSw)
          go_simp
          all_goals with_reducible rfl
        change wpAnyH _ _ _ _ _ _ _ (Act.put _ (some 77) _) _
        try simp only [Act.put, List.setIfInBounds_toArray, List.set_cons_zero, List.set_cons_succ]
        refine wpAnyH_take (i := 13) (v := ?v42) rfl (by kernel_rfl) (by kernel_rfl) (by kernel_rfl) (fun _ _ _ h => h) (Or.inl ⟨by rfl, ?hy42⟩) (by assumption) ?_
        case hy42 =>
          intro w hSw
          (try dsimp only at hSw)
          go_simp
          all_goals with_reducible rfl
        change wpAnyH _ _ _ _ _ _ _ (Act.put _ (some 78) _) _
        try simp only [Act.put, List.setIfInBounds_toArray, List.set_cons_zero, List.set_cons_succ]
        refine wpAnyH_take (i := 14) (v := ?v43) rfl (by kernel_rfl) (by kernel_rfl) (by kernel_rfl) (fun _ _ _ h => h) (Or.inl ⟨by rfl, ?hy43⟩) (by assumption) ?_
        case hy43 =>
          intro w hSw
          (try dsimp only at hSw)
          go_simp
          all_goals with_reducible rfl
        change wpAnyH _ _ _ _ _ _ _ (Act.put _ (some 79) _) _
        try simp only [Act.put, List.setIfInBounds_toArray, List.set_cons_zero, List.set_cons_succ]
        refine wpAnyH_take (i := 15) (v := ?v44) rfl (by kernel_rfl) (by kernel_rfl) (by kernel_rfl) (fun _ _ _ h => h) (Or.inl ⟨by rfl, ?hy44⟩) (by assumption) ?_
        case hy44 =>
          intro w hSw
          (try dsimp only at hSw)
          go_simp
          all_goals with_reducible rfl
        change wpAnyH _ _ _ _ _ _ _ (Act.put _ (some 80) _) _
        try simp only [Act.put, List.setIfInBounds_toArray, List.set_cons_zero, List.set_cons_succ]
        refine wpAnyH_take (i := 16) (v := ?v45) rfl (by kernel_rfl) (by kernel_rfl) (by kernel_rfl) (fun _ _ _ h => h) (Or.inl ⟨by rfl, ?hy45⟩) (by assumption) ?_
        case hy45 =>
          intro w hSw
          (try dsimp only at hSw)
          go_simp
          all_goals with_reducible rfl
        change wpAnyH _ _ _ _ _ _ _ (Act.put _ (some 81) _) _
        try simp only [Act.put, List.setIfInBounds_toArray, List.set_cons_zero, List.set_cons_succ]
        refine wpAnyH_take (i := 17) (v := ?v46) rfl (by kernel_rfl) (by kernel_rfl) (by kernel_rfl) (fun _ _ _ h => h) (Or.inl ⟨by rfl, ?hy46⟩) (by assumption) ?_
        case hy46 =>
          intro w hSw
          (try dsimp only at hSw)
          go_simp
          all_goals with_reducible rfl
        change wpAnyH _ _ _ _ _ _ _ (Act.put _ (some 82) _) _
        try simp only [Act.put, List.setIfInBounds_toArray, List.set_cons_zero, List.set_cons_succ]
        refine wpAnyH_take (i := 18) (v := ?v47) rfl (by kernel_rfl) (by kernel_rfl) (by kernel_rfl) (fun _ _ _ h => h) (Or.inl ⟨by rfl, ?hy47⟩) (by assumption) ?_
        case hy47 =>
          intro w hSw
          (try dsimp only at hSw)
          go_simp
          all_goals with_reducible rfl
        change wpAnyH _ _ _ _ _ _ _ (Act.put _ (some 83) _) _
        try simp only [Act.put, List.setIfInBounds_toArray, List.set_cons_zero, List.set_cons_succ]
        refine wpAnyH_take (i := 19) (v := ?v48) rfl (by kernel_rfl) (by kernel_rfl) (by kernel_rfl) (fun _ _ _ h => h) (Or.inl ⟨by rfl, ?hy48⟩) (by assumption) ?_
        case hy48 =>
          intro w hSw
          (try dsimp only at hSw)
          go_simp
          all_goals with_reducible rfl
        change wpAnyH _ _ _ _ _ _ _ (Act.put _ (some 84) _) _
        try simp only [Act.put, List.setIfInBounds_toArray, List.set_cons_zero, List.set_cons_succ]
        refine wpAnyH_take (i := 20) (v := ?v49) rfl (by kernel_rfl) (by kernel_rfl) (by kernel_rfl) (fun _ _ _ h => h) (Or.inl ⟨by rfl, ?hy49⟩) (by assumption) ?_
        case hy49 =>
          intro w hSw
          (try dsimp only at hSw)
          go_simp
          all_goals with_reducible rfl
        change wpAnyH _ _ _ _ _ _ _ (Act.put _ (some 85) _) _
        try simp only [Act.put, List.setIfInBounds_toArray, List.set_cons_zero, List.set_cons_succ]
        refine wpAnyH_ready (rs := [21]) (by kernel_rfl) (by simp) ?_; refine AllReadyH.cons rfl (fun K hK => ?_) AllReadyH.nil
        go_simp
        refine (HFR.out _).mono ?_; rintro e u ⟨fa, fc, rfl, hF, hu⟩; have HBF := hid (show Below W3.heap.size W3 u from ((Below.refl _ W3).drew).trans hu); have HSA := hid (jdR _ _ as_ fa cs fc [inbS, inbS, inbS] u (HS3.out u HBF.out) hF); clear hF hu; go_wp2_with fail; refine hK.out _ _ ?_ (fun hHeld => ?_)
        · exact HC3.out _ HBF.out
        clear hK K
        try simp only [Act.put, List.setIfInBounds_toArray, List.set_cons_zero, List.set_cons_succ]
        refine wpAnyH_ready (rs := [22]) (by kernel_rfl) (by simp) ?_; refine AllReadyH.cons rfl (fun K hK => ?_) AllReadyH.nil
        go_simp
        refine HSA.out.mono ?_; rintro e u2 ⟨rfl, hu2⟩; have HBG := hid (HBF.out.trans (hu2.mono HBF.out.size)); clear hu2; go_wp2_with fail; refine hK.out _ _ ?_ (fun hHeld => ?_)
        · exact HC3.out _ HBG.out
        clear hK K
        try simp only [Act.put, List.setIfInBounds_toArray, List.set_cons_zero, List.set_cons_succ]
        refine wpAnyH_take (i := 23) (v := ?v50) rfl (by kernel_rfl) (by kernel_rfl) (by kernel_rfl) (fun _ _ _ h => h) (Or.inl ⟨by rfl, ?hy50⟩) (by assumption) ?_
        case hy50 =>
          intro w hSw
          (try dsimp only at hSw)
          go_simp
          all_goals with_reducible rfl
        change wpAnyH _ _ _ _ _ _ _ (Act.put _ (some 88) _) _
        try simp only [Act.put, List.setIfInBounds_toArray, List.set_cons_zero, List.set_cons_succ]
        refine wpAnyH_take (i := 24) (v := ?v51) rfl (by kernel_rfl) (by kernel_rfl) (by kernel_rfl) (fun _ _ _ h => h) (Or.inl ⟨by rfl, ?hy51⟩) (by assumption) ?_
        case hy51 =>
          intro w hSw
          (try dsimp only at hSw)
          go_simp
          all_goals with_reducible rfl
        change wpAnyH _ _ _ _ _ _ _ (Act.put _ (some 2) _) _
        try simp only [Act.put, List.setIfInBounds_toArray, List.set_cons_zero, List.set_cons_succ]
        refine wpAnyH_done (by kernel_rfl) ?_ _; go_wp2_with fail; go_ret; exact ⟨rfl, HB3.out.trans (HBG.out.mono HB3.out.size)⟩
      · go_wp2_with fail; refine HRN.out.mono ?_; rintro e w2 ⟨ac, cc, ao, co, as_, cs, rfl, hO2, hb2⟩; obtain ⟨q0, p0, z0, rfl, _, _, _, hz0', v0, rfl, hv0⟩ : ∃ b o cs, ac = some ⟨b, o, none⟩ ∧ b < w2.heap.size ∧ wr.heap.size ≤ b ∧ cs.length = 1 ∧ (∀ (j : Nat) u, cs[j]? = some u → w2.cell? ⟨b, o + 0 * 1 + j, none⟩ = some u) ∧ ∃ v, cs = [v] ∧ IntsM (wr.heap.size ≤ ·) w2 v R.c0.told := by
          obtain ⟨_, _, e, _, hr⟩ := hO2.co; cases e; exact hr 0 _ rfl
        obtain ⟨q2, p2, z2, e2, _, _, _, hz2', v2, rfl, hv2⟩ : ∃ b o cs, (some ⟨q0, p0, none⟩ : Option Addr) = some ⟨b, o, none⟩ ∧ b < w2.heap.size ∧ wr.heap.size ≤ b ∧ cs.length = 1 ∧ (∀ (j : Nat) u, cs[j]? = some u → w2.cell? ⟨b, o + 2 * 1 + j, none⟩ = some u) ∧ ∃ v, cs = [v] ∧ IntsM (wr.heap.size ≤ ·) w2 v R.c2.told := by
          obtain ⟨_, _, e, _, hr⟩ := hO2.co; cases e; exact hr 2 _ rfl
        cases e2; have y0 := hz0' 0 _ rfl; have y2 := hz2' 0 _ rfl; obtain ⟨b0, d0, rfl⟩ := zc hv0; obtain ⟨b2, d2, rfl⟩ := zc hv2; rw [t0] at y0; rw [t2] at y2; simp only [Nat.zero_mul, Nat.add_zero, Nat.mul_one, List.length_nil] at y0 y2; have hs2 := hO2.sf; rw [hsf] at hs2; have HS2 := hid hs2; have HB2 := hid (HB.out.trans (hb2.mono HB.out.size)); clear hO2 hb2 hz0' hz2' hv0 hv2 hs2 t0 t2 hsf; obtain ⟨W3, hW3⟩ : ∃ W3, W3 = w2.alloc (.cells #[.bool R.up, .slice (some ⟨q0, p0, none⟩) 3 cc, .slice ao 3 co, .slice as_ 3 cs, .int .i64 R.waits] 37) := ⟨_, rfl⟩; have hb3 : Below w2.heap.size w2 W3 := by rw [hW3]; exact (Below.refl _ _).alloc (Nat.le_refl _) _
        have hx3 : W3.heap[w2.heap.size]? = some (.cells #[.bool R.up, .slice (some ⟨q0, p0, none⟩) 3 cc, .slice ao 3 co, .slice as_ 3 cs, .int .i64 R.waits] 37) := by rw [hW3]; exact heap_alloc_new w2 _
        have x1 : W3.cell? ⟨w2.heap.size, 1, none⟩ = some (.slice (some ⟨q0, p0, none⟩) 3 cc) := by simp [World.cell?, hx3]
        have x3 : W3.cell? ⟨w2.heap.size, 3, none⟩ = some (.slice as_ 3 cs) := by simp [World.cell?, hx3]
        have w0' := ja y0 hb3; have w2' := ja y2 hb3; have HC3 := hid (show ∀ u, Below W3.heap.size W3 u → u.cell? ⟨w2.heap.size, 1, none⟩ = some (.slice (some ⟨q0, p0, none⟩) 3 cc) ∧ u.cell? ⟨w2.heap.size, 3, none⟩ = some (.slice as_ 3 cs) ∧ u.cell? ⟨q0, p0, none⟩ = some (.slice b0 0 d0) ∧ u.cell? ⟨q0, p0 + 2, none⟩ = some (.slice b2 k d2) from fun u hu => ⟨ja x1 hu, ja x3 hu, ja w0' hu, ja w2' hu⟩); have HS3 := hid (show ∀ u, Below W3.heap.size W3 u → RowM (wr.heap.size ≤ ·) 2 (SttV (wr.heap.size ≤ ·) u) u (.slice as_ 3 cs) [inbS, inbS, inbS] from fun u hu => RowM.imp HS2.out (fun _ h => h) (Keeps.of_below (hb3.trans (hu.mono hb3.size))) fun s cs h => by
          obtain ⟨vb, vs, e, h⟩ := h; exact ⟨vb, vs, e, h.next (hb3.trans (hu.mono hb3.size))⟩)
        have HB3 := hid (HB2.out.trans (hb3.mono HB2.out.size)); have HW3 := hid hW3; have HFR := hid (fun u => jdY u); clear hb3 hx3 hW3 x1 x3 w0' w2' y0 y2 HS2; go_upto_region 12 with fail
        rw [← HW3.out]; refine wp_region_held_drew (S := fun u => u.cell? ⟨w2.heap.size, 1, none⟩ = some (.slice (some ⟨q0, p0, none⟩) 3 cc) ∧ u.cell? ⟨w2.heap.size, 3, none⟩ = some (.slice as_ 3 cs) ∧ u.cell? ⟨q0, p0, none⟩ = some (.slice b0 0 d0) ∧ u.cell? ⟨q0, p0 + 2, none⟩ = some (.slice b2 k d2)) (by kernel_rfl) ?_ (fun hHeld => ?_)
        · exact HC3.out _ (Below.refl _ _).drew
        refine wpAnyH_take (i := 0) (v := ?v52) rfl (by kernel_rfl) (by kernel_rfl) (by kernel_rfl) (fun _ _ _ h => h) (Or.inl ⟨by rfl, ?hy52⟩) (by assumption) ?_
        case hy52 =>
          intro w hSw
          (try dsimp only at hSw)
          go_simp
          all_goals with_reducible rfl
        change wpAnyH _ _ _ _ _ _ _ (Act.put _ (some 65) _) _
        try simp only [Act.put, List.setIfInBounds_toArray, List.set_cons_zero, List.set_cons_succ]
        refine wpAnyH_take (i := 1) (v := ?v53) rfl (by kernel_rfl) (by kernel_rfl) (by kernel_rfl) (fun _ _ _ h => h) (Or.inl ⟨by rfl, ?hy53⟩) (by assumption) ?_
        case hy53 =>
          intro w hSw
          (try dsimp only at hSw)
          go_simp
          all_goals with_reducible rfl
        change wpAnyH _ _ _ _ _ _ _ (Act.put _ (some 66) _) _
        try simp only [Act.put, List.setIfInBounds_toArray, List.set_cons_zero, List.set_cons_succ]
        refine wpAnyH_take (i := 2) (v := ?v54) rfl (by kernel_rfl) (by kernel_rfl) (by kernel_rfl) (fun _ _ _ h => h) (Or.inl ⟨by rfl, ?hy54⟩) (by assumption) ?_
        case hy54 =>
          intro w hSw
          (try dsimp only at hSw)
          go_simp
          all_goals with_reducible rfl
        change wpAnyH _ _ _ _ _ _ _ (Act.put _ (some 67) _) _
        try simp only [Act.put, List.setIfInBounds_toArray, List.set_cons_zero, List.set_cons_succ]
        refine wpAnyH_take (i := 3) (v := ?v55) rfl (by kernel_rfl) (by kernel_rfl) (by kernel_rfl) (fun _ _ _ h => h) (Or.inl ⟨by rfl, ?hy55⟩) (by assumption) ?_
        case hy55 =>
          intro w hSw
          (try dsimp only at hSw)
          go_simp
          all_goals with_reducible rfl
        change wpAnyH _ _ _ _ _ _ _ (Act.put _ (some 68) _) _
        try simp only [Act.put, List.setIfInBounds_toArray, List.set_cons_zero, List.set_cons_succ]
        refine wpAnyH_take (i := 4) (v := ?v56) rfl (by kernel_rfl) (by kernel_rfl) (by kernel_rfl) (fun _ _ _ h => h) (Or.inl ⟨by rfl, ?hy56⟩) (by assumption) ?_
        case hy56 =>
          intro w hSw
          (try dsimp only at hSw)
          go_simp
          all_goals with_reducible rfl
        change wpAnyH _ _ _ _ _ _ _ (Act.put _ (some 69) _) _
        try simp only [Act.put, List.setIfInBounds_toArray, List.set_cons_zero, List.set_cons_succ]
        refine wpAnyH_take (i := 5) (v := ?v57) rfl (by kernel_rfl) (by kernel_rfl) (by kernel_rfl) (fun _ _ _ h => h) (Or.inl ⟨by rfl, ?hy57⟩) (by assumption) ?_
        case hy57 =>
          intro w hSw
          (try dsimp only at hSw)
          go_simp
          all_goals with_reducible rfl
        change wpAnyH _ _ _ _ _ _ _ (Act.put _ (some 70) _) _
        try simp only [Act.put, List.setIfInBounds_toArray, List.set_cons_zero, List.set_cons_succ]
        refine wpAnyH_take (i := 6) (v := ?v58) rfl (by kernel_rfl) (by kernel_rfl) (by kernel_rfl) (fun _ _ _ h => h) (Or.inl ⟨by rfl, ?hy58⟩) (by assumption) ?_
        case hy58 =>
          intro w hSw
          (try dsimp only at hSw)
          go_simp
          all_goals with_reducible rfl
        change wpAnyH _ _ _ _ _ _ _ (Act.put _ (some 71) _) _
        try simp only [Act.put, List.setIfInBounds_toArray, List.set_cons_zero, List.set_cons_succ]
        refine wpAnyH_take (i := 7) (v := ?v59) rfl (by kernel_rfl) (by kernel_rfl) (by kernel_rfl) (fun _ _ _ h => h) (Or.inl ⟨by rfl, ?hy59⟩) (by assumption) ?_
        case hy59 =>
          intro w hSw
          (try dsimp only at hSw)
          go_simp
          all_goals with_reducible rfl
        change wpAnyH _ _ _ _ _ _ _ (Act.put _ (some 72) _) _
        try simp only [Act.put, List.setIfInBounds_toArray, List.set_cons_zero, List.set_cons_succ]
        refine wpAnyH_take (i := 8) (v := ?v60) rfl (by kernel_rfl) (by kernel_rfl) (by kernel_rfl) (fun _ _ _ h => h) (Or.inl ⟨by rfl, ?hy60⟩) (by assumption) ?_
        case hy60 =>
          intro w hSw
          (try dsimp only at hSw)
          go_simp
          all_goals with_reducible rfl
        change wpAnyH _ _ _ _ _ _ _ (Act.put _ (some 73) _) _
        try simp only [Act.put, List.setIfInBounds_toArray, List.set_cons_zero, List.set_cons_succ]
        refine wpAnyH_take (i := 9) (v := ?v61) rfl (by kernel_rfl) (by kernel_rfl) (by kernel_rfl) (fun _ _ _ h => h) (Or.inl ⟨by rfl, ?hy61⟩) (by assumption) ?_
        case hy61 =>
          intro w hSw
          (try dsimp only at hSw)
          go_simp
          all_goals with_reducible rfl
        change wpAnyH _ _ _ _ _ _ _ (Act.put _ (some 74) _) _
        try simp only [Act.put, List.setIfInBounds_toArray, List.set_cons_zero, List.set_cons_succ]
        refine wpAnyH_take (i := 10) (v := ?v62) rfl (by kernel_rfl) (by kernel_rfl) (by kernel_rfl) (fun _ _ _ h => h) (Or.inl ⟨by rfl, ?hy62⟩) (by assumption) ?_
        case hy62 =>
          intro w hSw
          (try dsimp only at hSw)
          go_simp
          all_goals with_reducible rfl
        change wpAnyH _ _ _ _ _ _ _ (Act.put _ (some 75) _) _
        try simp only [Act.put, List.setIfInBounds_toArray, List.set_cons_zero, List.set_cons_succ]
        refine wpAnyH_take (i := 11) (v := ?v63) rfl (by kernel_rfl) (by kernel_rfl) (by kernel_rfl) (fun _ _ _ h => h) (Or.inl ⟨by rfl, ?hy63⟩) (by assumption) ?_
        case hy63 =>
          intro w hSw
          (try dsimp only at hSw)
          go_simp
          all_goals with_reducible rfl
        change wpAnyH _ _ _ _ _ _ _ (Act.put _ (some 76) _) _
        try simp only [Act.put, List.setIfInBounds_toArray, List.set_cons_zero, List.set_cons_succ]
        refine wpAnyH_take (i := 12) (v := ?v64) rfl (by kernel_rfl) (by kernel_rfl) (by kernel_rfl) (fun _ _ _ h => h) (Or.inl ⟨by rfl, ?hy64⟩) (by assumption) ?_
        case hy64 =>
          intro w hSw
          (try dsimp only at hSw)
          go_simp
          all_goals with_reducible rfl
        change wpAnyH _ _ _ _ _ _ _ (Act.put _ (some 77) _) _
        try simp only [Act.put, List.setIfInBounds_toArray, List.set_cons_zero, List.set_cons_succ]
        refine wpAnyH_take (i := 13) (v := ?v65) rfl (by kernel_rfl) (by kernel_rfl) (by kernel_rfl) (fun _ _ _ h => h) (Or.inl ⟨by rfl, ?hy65⟩) (by assumption) ?_
        case hy65 =>
          intro w hSw
          (try dsimp only at hSw)
          go_simp
          all_goals with_reducible rfl
        change wpAnyH _ _ _ _ _ _ _ (Act.put _ (some 78) _) _
        try simp only [Act.put, List.setIfInBounds_toArray, List.set_cons_zero, List.set_cons_succ]
        refine wpAnyH_take (i := 14) (v := ?v66) rfl (by kernel_rfl) (by kernel_rfl) (by kernel_rfl) (fun _ _ _ h => h) (Or.inl ⟨by rfl, ?hy66⟩) (by assumption) ?_
        case hy66 =>
          intro w hSw
          (try dsimp only at hSw)
          go_simp
          all_goals with_reducible rfl
        change wpAnyH _ _ _ _ _ _ _ (Act.put _ (some 79) _) _
        try simp only [Act.put, List.setIfInBounds_toArray, List.set_cons_zero, List.set_cons_succ]
        refine wpAnyH_take (i := 15) (v := ?v67) rfl (by kernel_rfl) (by kernel_rfl) (by kernel_rfl) (fun _ _ _ h => h) (Or.inl ⟨by rfl, ?hy67⟩) (by assumption) ?_
        case hy67 =>
          intro w hSw
          (try dsimp only at hSw)
          go_simp
          all_goals with_reducible rfl
        change wpAnyH _ _ _ _ _ _ _ (Act.put _ (some 80) _) _
        try simp only [Act.put, List.setIfInBounds_toArray, List.set_cons_zero, List.set_cons_succ]
        refine wpAnyH_take (i := 16) (v := ?v68) rfl (by kernel_rfl) (by kernel_rfl) (by kernel_rfl) (fun _ _ _ h => h) (Or.inl ⟨by rfl, ?hy68⟩) (by assumption) ?_
        case hy68 =>
          intro w hSw
          (try dsimp only at hSw)
          go_simp
          all_goals with_reducible rfl
        change wpAnyH _ _ _ _ _ _ _ (Act.put _ (some 81) _) _
        try simp only [Act.put, List.setIfInBounds_toArray, List.set_cons_zero, List.set_cons_succ]
        refine wpAnyH_take (i := 17) (v := ?v69) rfl (by kernel_rfl) (by kernel_rfl) (by kernel_rfl) (fun _ _ _ h => h) (Or.inl ⟨by rfl, ?hy69⟩) (by assumption) ?_
        case hy69 =>
          intro w hSw
          (try dsimp only at hSw)
          go_simp
          all_goals with_reducible rfl
        change wpAnyH _ _ _ _ _ _ _ (Act.put _ (some 82) _) _
        try simp only [Act.put, List.setIfInBounds_toArray, List.set_cons_zero, List.set_cons_succ]
        refine wpAnyH_take (i := 18) (v := ?v70) rfl (by kernel_rfl) (by kernel_rfl) (by kernel_rfl) (fun _ _ _ h => h) (Or.inl ⟨by rfl, ?hy70⟩) (by assumption) ?_
        case hy70 =>
          intro w hSw
          (try dsimp only at hSw)
          go_simp
          all_goals with_reducible rfl
        change wpAnyH _ _ _ _ _ _ _ (Act.put _ (some 83) _) _
        try simp only [Act.put, List.setIfInBounds_toArray, List.set_cons_zero, List.set_cons_succ]
        refine wpAnyH_take (i := 19) (v := ?v71) rfl (by kernel_rfl) (by kernel_rfl) (by kernel_rfl) (fun _ _ _ h => h) (Or.inl ⟨by rfl, ?hy71⟩) (by assumption) ?_
        case hy71 =>
          intro w hSw
          (try dsimp only at hSw)
          go_simp
          all_goals with_reducible rfl
        change wpAnyH _ _ _ _ _ _ _ (Act.put _ (some 84) _) _
        try simp only [Act.put, List.setIfInBounds_toArray, List.set_cons_zero, List.set_cons_succ]
        refine wpAnyH_take (i := 20) (v := ?v72) rfl (by kernel_rfl) (by kernel_rfl) (by kernel_rfl) (fun _ _ _ h => h) (Or.inl ⟨by rfl, ?hy72⟩) (by assumption) ?_
        case hy72 =>
          intro w hSw
          (try dsimp only at hSw)
          go_simp
          all_goals with_reducible rfl
        change wpAnyH _ _ _ _ _ _ _ (Act.put _ (some 85) _) _
        try simp only [Act.put, List.setIfInBounds_toArray, List.set_cons_zero, List.set_cons_succ]
        refine wpAnyH_ready (rs := [21]) (by kernel_rfl) (by simp) ?_; refine AllReadyH.cons rfl (fun K hK => ?_) AllReadyH.nil
        go_simp
        refine (HFR.out _).mono ?_; rintro e u ⟨fa, fc, rfl, hF, hu⟩; have HBF := hid (show Below W3.heap.size W3 u from ((Below.refl _ W3).drew).trans hu); have HSA := hid (jdR _ _ as_ fa cs fc [inbS, inbS, inbS] u (HS3.out u HBF.out) hF); clear hF hu; go_wp2_with fail; refine hK.out _ _ ?_ (fun hHeld => ?_)
        · exact HC3.out _ HBF.out
        clear hK K
        try simp only [Act.put, List.setIfInBounds_toArray, List.set_cons_zero, List.set_cons_succ]
        refine wpAnyH_ready (rs := [22]) (by kernel_rfl) (by simp) ?_; refine AllReadyH.cons rfl (fun K hK => ?_) AllReadyH.nil
        go_simp
        refine HSA.out.mono ?_; rintro e u2 ⟨rfl, hu2⟩; have HBG := hid (HBF.out.trans (hu2.mono HBF.out.size)); clear hu2; go_wp2_with fail; refine hK.out _ _ ?_ (fun hHeld => ?_)
        · exact HC3.out _ HBG.out
        clear hK K
        try simp only [Act.put, List.setIfInBounds_toArray, List.set_cons_zero, List.set_cons_succ]
        refine wpAnyH_take (i := 23) (v := ?v73) rfl (by kernel_rfl) (by kernel_rfl) (by kernel_rfl) (fun _ _ _ h => h) (Or.inl ⟨by rfl, ?hy73⟩) (by assumption) ?_
        case hy73 =>
          intro w hSw
          (try dsimp only at hSw)
          go_simp
          all_goals with_reducible rfl
        change wpAnyH _ _ _ _ _ _ _ (Act.put _ (some 88) _) _
        try simp only [Act.put, List.setIfInBounds_toArray, List.set_cons_zero, List.set_cons_succ]
        refine wpAnyH_take (i := 24) (v := ?v74) rfl (by kernel_rfl) (by kernel_rfl) (by kernel_rfl) (fun _ _ _ h => h) (Or.inl ⟨by rfl, ?hy74⟩) (by assumption) ?_
        case hy74 =>
          intro w hSw
          (try dsimp only at hSw)
          go_simp
          all_goals with_reducible rfl
        change wpAnyH _ _ _ _ _ _ _ (Act.put _ (some 2) _) _
        try simp only [Act.put, List.setIfInBounds_toArray, List.set_cons_zero, List.set_cons_succ]
        refine wpAnyH_done (by kernel_rfl) ?_ _; go_wp2_with fail; go_ret; exact ⟨rfl, HB3.out.trans (HBG.out.mono HB3.out.size)⟩
end Go.Proofs.YtlfgemnmfhknfaaGreatDoor
