/-
  What the laws of the whole make of raw numbers: the head of a letter. Plain meaning and walk.
-/
import Derived.Test.YtepfniiojjefhaaGreatDoorQScrCard10
import Derived.Test.YtepfniiojjefhaaGreatDoorQTokGap8
import Derived.Deep.DeepCutAuto
import Derived.Test.YtepfniiojjefhaaGreatDoorQPure6
namespace Go.Proofs.YtepfniiojjefhaaGreatDoor
open Go.RowKit Go.Proofs

theorem S_app (a b : List UInt8) : S a ++ S b = S (a ++ b) := by
  apply ByteArray.ext
  simp [S]
/-- An act in raw numbers. -/
structure Gea where
  kind : Int
  conn : Int
  user : Int
  a : Int
  b : Int
  text : ByteArray
def geaW (g : Gea) : Prop := (Lit.int .i64 g.kind).wf = true ∧ (Lit.int .i64 g.conn).wf = true ∧ (Lit.int .i64 g.user).wf = true ∧ (Lit.int .i64 g.a).wf = true ∧ (Lit.int .i64 g.b).wf = true ∧ g.text.size ≤ maxLen
def geaV (g : Gea) : Value := .agg #[.int .i64 g.kind, .int .i64 g.conn, .int .i64 g.user, .int .i64 g.a, .int .i64 g.b, .string g.text]
def gWd (g : Gea) : List UInt8 := wordL g.text.data.toList
def kinds3 (k : Nat) : List UInt8 := match k with | 0 => [119, 111, 114, 107] | 1 => [102, 117, 110] | _ => [112, 108, 97, 121]
def subjL : List UInt8 := [83, 117, 98, 106, 101, 99, 116, 58, 32]
def listL : List UInt8 := [76, 105, 115, 116, 58, 32, 97, 108, 108, 13, 10]
def xL : List UInt8 := [88, 58, 32, 48, 49, 50, 51, 52, 53, 54, 55, 56, 57, 48, 49, 50, 51, 52, 53, 54, 55, 56, 57, 48, 49, 50, 51, 52, 53, 54, 55, 56, 57, 48, 49, 50, 51, 52, 53, 54, 55, 56, 57, 48, 49, 50, 51, 52, 53, 54, 55, 56, 57, 48, 49, 50, 51, 52, 53, 54, 55, 56, 57, 48, 49, 50, 51, 52, 53, 54, 55, 56, 57, 48, 49, 50, 51, 52, 53, 54, 55, 56, 57, 48, 49, 50, 51, 52, 53, 54, 55, 56, 57, 48, 49, 50, 51, 52, 53, 54, 55, 56, 57, 13, 10]
def headL1 (g : Gea) : List UInt8 := subjL ++ kinds3 (pickN g.b 3) ++ [32] ++ gWd g ++ [13, 10]
def headL2 (g : Gea) : List UInt8 := headL1 g ++ if pickN g.b 4 = 1 then listL else []
def xLs : Nat → List UInt8
  | 0 => []
  | n + 1 => xLs n ++ xL
/-- The head of a letter. -/
def headM (g : Gea) : List UInt8 := headL2 g ++ xLs (pickN g.b 5)
theorem xLs_len (n : Nat) : (xLs n).length = 105 * n := by
  induction n with
  | zero => rfl
  | succ n ih => rw [xLs, List.length_append, ih]; show _ + 105 = _; omega
theorem Picked_any (n : Int) (m : Nat) (w : World) (hn : (Lit.int .i64 n).wf = true) (hm : 0 < m) (hm2 : m ≤ 9223372036854775807) :
    Calls Tryz.prog 5 #[.int .i64 n, .int .i64 m] w fun e w' => e = .returned (.int .i64 (pickN n m)) ∧ w' = w := by
  have HP := hid (picked_any n m w hn hm hm2)
  clear hn hm hm2
  go_enter Tryz.func5, Tryz.ntmps5
  go_wp2_with fail
  refine HP.out.mono ?_
  rintro e u ⟨rfl, hu⟩
  subst hu
  go_wp2
  go_ret
  exact ⟨rfl, rfl⟩
theorem Word_any (s : ByteArray) (w : World) (hs : s.size ≤ maxLen) :
    Calls Tryz.prog 41 #[.string s] w fun e w' => e = .returned (.string (S (wordL s.data.toList))) ∧ Below w.heap.size w w' := by
  have HP := hid (word_any s w hs)
  clear hs
  go_enter Tryz.func41, Tryz.ntmps41
  go_wp2_with fail
  refine HP.out.mono ?_
  rintro e u ⟨rfl, hu⟩
  have HU := hid hu
  clear hu
  go_wp2
  go_ret
  exact ⟨rfl, HU.out⟩
theorem Value_any (s : ByteArray) (w : World) (hs : s.size ≤ maxLen) :
    Calls Tryz.prog 42 #[.string s] w fun e w' => e = .returned (.string (S (valL s.data.toList))) ∧ Below w.heap.size w w' := by
  have HP := hid (value_any s w hs)
  clear hs
  go_enter Tryz.func42, Tryz.ntmps42
  go_wp2_with fail
  refine HP.out.mono ?_
  rintro e u ⟨rfl, hu⟩
  have HU := hid hu
  clear hu
  go_wp2
  go_ret
  exact ⟨rfl, HU.out⟩
theorem k3_at {k : Nat} (h : k < 3) : ∀ h, ([.string { data := #[119, 111, 114, 107] }, .string { data := #[102, 117, 110] }, .string { data := #[112, 108, 97, 121] }] : List Value)[k]'h = .string (S (kinds3 k)) := by
  match k, h with
  | 0, _ | 1, _ | 2, _ => intro _; rfl
theorem k3_cell {k : Nat} (h : k < 3) (w : World) (t : TypeId) : (w.alloc (.cells #[.string { data := #[119, 111, 114, 107] }, .string { data := #[102, 117, 110] }, .string { data := #[112, 108, 97, 121] }] t)).cell? ⟨w.heap.size, k, none⟩ = some (.string (S (kinds3 k))) := by
  have hh := heap_alloc_new w (.cells #[.string { data := #[119, 111, 114, 107] }, .string { data := #[102, 117, 110] }, .string { data := #[112, 108, 97, 121] }] t)
  simp only [World.cell?, hh]
  match k, h with
  | 0, _ | 1, _ | 2, _ => rfl
theorem k3_size (k : Nat) : (S (kinds3 k)).size ≤ 4 := by
  rw [size_S]
  unfold kinds3
  split <;> decide
set_option maxHeartbeats 1000000 in
set_option maxRecDepth 100000 in
theorem head_any (g : Gea) (w : World) (hw : geaW g) :
    Calls Tryz.prog 40 #[geaV g] w fun e w' => e = .returned (.string (S (headM g))) ∧ Below w.heap.size w w' := by
  have HW := hid hw
  have h3 := pickN_lt g.b 3 (by decide)
  clear hw
  unfold geaV
  go_enter Tryz.func40, Tryz.ntmps40
  go_upto_region 1 with fail
  obtain ⟨W1, hW1⟩ : ∃ W1, W1 = w.alloc (.cells #[.int .i64 g.kind, .int .i64 g.conn, .int .i64 g.user, .int .i64 g.a, .int .i64 g.b, .string g.text] 51) := ⟨_, rfl⟩
  rw [← hW1]
  have hB1 : Below w.heap.size w W1 := by rw [hW1]; exact (Below.refl _ _).alloc (Nat.le_refl _) _
  have HB1 := hid hB1
  have hh : W1.heap[w.heap.size]? = some (.cells #[.int .i64 g.kind, .int .i64 g.conn, .int .i64 g.user, .int .i64 g.a, .int .i64 g.b, .string g.text] 51) := by rw [hW1]; exact heap_alloc_new w _
  have c4 : W1.cell? ⟨w.heap.size, 4, none⟩ = some (.int .i64 g.b) := by simp [World.cell?, hh]
  have c5 : W1.cell? ⟨w.heap.size, 5, none⟩ = some (.string g.text) := by simp [World.cell?, hh]
  have hwl : (S (wordL g.text.data.toList)).size ≤ 8 := by rw [size_S]; exact wordL_len _
  have hlt : w.heap.size < W1.heap.size := by rw [hW1]; simp
  clear hW1 hB1 hh
  have HPK := hid (fun u => Picked_any g.b 3 u HW.out.2.2.2.2.1 (by decide) (by decide))
  have HWD := hid (fun u => Word_any g.text u HW.out.2.2.2.2.2)
  generalize hp : pickN g.b 3 = k at *
  go_cut [3] (fun v wx => v = .string (S (headL1 g)) ∧ Below W1.heap.size W1 wx)
  case first =>
    have hi0 : (0 : Int) ≤ (k : Int) := by omega
    have hi3 : (k : Int) < 3 := by omega
    have hget := k3_at h3
    have hsz := k3_size k
    have z1 : ¬ 9223372036854775807 < 9 + (S (kinds3 k)).size := by omega
    have z2 : ¬ 9223372036854775807 < 9 + (S (kinds3 k)).size + 1 := by omega
    have z3 : ¬ 9223372036854775807 < 9 + (S (kinds3 k)).size + 1 + (S (wordL g.text.data.toList)).size := by omega
    have z4 : ¬ 9223372036854775807 < 9 + (S (kinds3 k)).size + 1 + (S (wordL g.text.data.toList)).size + 2 := by omega
    have HK3 := hid (fun (v : World) (t : TypeId) => k3_cell h3 v t)
    have HE := hid (show headL1 g = subjL ++ kinds3 k ++ [32] ++ gWd g ++ [13, 10] by unfold headL1; rw [hp])
    have HC := hid (show ∀ v, Below W1.heap.size W1 v → v.cell? ⟨w.heap.size, 4, none⟩ = some (.int .i64 g.b) ∧ v.cell? ⟨w.heap.size, 5, none⟩ = some (.string g.text) from fun v hv => ⟨wcell_next c4 hv, wcell_next c5 hv⟩)
    clear hp
    refine wp_region_held_drew (S := fun u => u.cell? ⟨w.heap.size, 4, none⟩ = some (.int .i64 g.b) ∧ u.cell? ⟨w.heap.size, 5, none⟩ = some (.string g.text)) (by kernel_rfl) ?_ (fun hHeld => ?_)
    · exact HC.out _ ((Below.refl _ _).drew)
    refine wpAnyH_take (i := 1) (v := ?v1) rfl (by kernel_rfl) (by kernel_rfl) (by kernel_rfl) (fun _ _ _ h => h) (Or.inl ⟨by rfl, ?hy1⟩) (by assumption) ?_
    case hy1 =>
      intro w hSw
      (try dsimp only at hSw)
      go_simp
      all_goals with_reducible rfl
    change wpAnyH _ _ _ _ _ _ _ (Act.put _ (some 6) _) _
    try simp only [Act.put, List.setIfInBounds_toArray, List.set_cons_zero, List.set_cons_succ]
    refine wpAnyH_take (i := 2) (v := ?v2) rfl (by kernel_rfl) (by kernel_rfl) (by kernel_rfl) (fun _ _ _ h => h) (Or.inl ⟨by rfl, ?hy2⟩) (by assumption) ?_
    case hy2 =>
      intro w hSw
      (try dsimp only at hSw)
      go_simp
      all_goals with_reducible rfl
    change wpAnyH _ _ _ _ _ _ _ (Act.put _ (some 7) _) _
    try simp only [Act.put, List.setIfInBounds_toArray, List.set_cons_zero, List.set_cons_succ]
    refine wpAnyH_take (i := 8) (v := ?v3) rfl (by kernel_rfl) (by kernel_rfl) (by kernel_rfl) (fun _ _ _ h => h) (Or.inl ⟨by rfl, ?hy3⟩) (by assumption) ?_
    case hy3 =>
      intro w hSw
      (try dsimp only at hSw)
      go_simp
      all_goals with_reducible rfl
    change wpAnyH _ _ _ _ _ _ _ (Act.put _ (some 13) _) _
    try simp only [Act.put, List.setIfInBounds_toArray, List.set_cons_zero, List.set_cons_succ]
    refine wpAnyH_take (i := 9) (v := ?v4) rfl (by kernel_rfl) (by kernel_rfl) (by kernel_rfl) (fun _ _ _ h => h) (Or.inl ⟨by rfl, ?hy4⟩) (by assumption) ?_
    case hy4 =>
      intro w hSw
      (try dsimp only at hSw)
      go_simp
      all_goals with_reducible rfl
    change wpAnyH _ _ _ _ _ _ _ (Act.put _ (some 14) _) _
    try simp only [Act.put, List.setIfInBounds_toArray, List.set_cons_zero, List.set_cons_succ]
    refine wpAnyH_ready (rs := [0, 3]) (by kernel_rfl) (by simp) ?_
    refine AllReadyH.cons rfl (fun K hK => ?_) ?_
    · skip
      go_simp
      refine hK.out _ _ ?_ (fun hHeld => ?_)
      · (refine HC.out _ ?_; (repeat (first | with_reducible exact HBU.out | with_reducible exact Below.refl _ _ | with_reducible refine Below.drew ?_ | with_reducible refine Below.alloc ?_ (by first | exact Nat.le_refl _ | exact HBU.out.size | simp) _)))
      clear hK K
      try simp only [Act.put, List.setIfInBounds_toArray, List.set_cons_zero, List.set_cons_succ]
      refine wpAnyH_swt (E := fun u : World => u.cell? ⟨W1.heap.size, k, none⟩ = some (.string (S (kinds3 k)))) hHeld (HK3.out W1 _) (fun hHeld1 => ?_)
      clear hHeld
      refine wpAnyH_ready (rs := [3]) (by kernel_rfl) (by simp) ?_
      refine AllReadyH.cons rfl (fun K hK => ?_) AllReadyH.nil
      go_simp
      refine (HPK.out _).mono ?_
      rintro e u ⟨rfl, hu⟩
      subst hu
      go_wp2_with fail
      refine hK.out _ _ ?_ (fun hHeld => ?_)
      · exact hHeld1
      clear hK K
      try simp only [Act.put, List.setIfInBounds_toArray, List.set_cons_zero, List.set_cons_succ]
      refine wpAnyH_take (i := 4) (v := ?v5) rfl (by kernel_rfl) (by kernel_rfl) (by kernel_rfl) (fun _ _ _ h => h) (Or.inl ⟨by rfl, ?hy5⟩) (by assumption) ?_
      case hy5 =>
        intro w hSw
        (try dsimp only at hSw)
        go_simp
        all_goals with_reducible rfl
      change wpAnyH _ _ _ _ _ _ _ (Act.put _ (some 9) _) _
      try simp only [Act.put, List.setIfInBounds_toArray, List.set_cons_zero, List.set_cons_succ]
      refine wpAnyH_take (i := 5) (v := ?v6) rfl (by kernel_rfl) (by kernel_rfl) (by kernel_rfl) (fun _ _ _ h => h) (Or.inl ⟨by rfl, ?hy6⟩) (by assumption) ?_
      case hy6 =>
        intro w hSw
        (try dsimp only at hSw)
        go_simp
        all_goals with_reducible rfl
      change wpAnyH _ _ _ _ _ _ _ (Act.put _ (some 10) _) _
      try simp only [Act.put, List.setIfInBounds_toArray, List.set_cons_zero, List.set_cons_succ]
      refine wpAnyH_take (i := 6) (v := ?v7) rfl (by kernel_rfl) (by kernel_rfl) (by kernel_rfl) (fun _ _ _ h => h) (Or.inl ⟨by rfl, ?hy7⟩) (by assumption) ?_
      case hy7 =>
        intro w hSw
        (try dsimp only at hSw)
        go_simp
        all_goals with_reducible rfl
      change wpAnyH _ _ _ _ _ _ _ (Act.put _ (some 11) _) _
      try simp only [Act.put, List.setIfInBounds_toArray, List.set_cons_zero, List.set_cons_succ]
      refine wpAnyH_take (i := 7) (v := ?v8) rfl (by kernel_rfl) (by kernel_rfl) (by kernel_rfl) (fun _ _ _ h => h) (Or.inl ⟨by rfl, ?hy8⟩) (by assumption) ?_
      case hy8 =>
        intro w hSw
        (try dsimp only at hSw)
        go_simp
        all_goals with_reducible rfl
      change wpAnyH _ _ _ _ _ _ _ (Act.put _ (some 12) _) _
      try simp only [Act.put, List.setIfInBounds_toArray, List.set_cons_zero, List.set_cons_succ]
      refine wpAnyH_ready (rs := [10]) (by kernel_rfl) (by simp) ?_
      refine AllReadyH.cons rfl (fun K hK => ?_) AllReadyH.nil
      go_simp
      refine (HWD.out _).mono ?_
      rintro e u ⟨rfl, hu⟩
      have HBU := hid (show Below W1.heap.size W1 u from (show Below W1.heap.size W1 _ from by (repeat (first | with_reducible exact Below.refl _ _ | with_reducible refine Below.drew ?_ | with_reducible refine Below.alloc ?_ (by first | exact Nat.le_refl _ | simp) _))).trans (hu.mono (by first | exact Nat.le_refl _ | simp)))
      have hx := wcell_next (drw_cell (HK3.out W1 9)) hu
      clear hu
      go_wp2_with fail
      refine hK.out _ _ ?_ (fun hHeld => ?_)
      · exact ⟨HC.out _ (by (repeat (first | with_reducible exact HBU.out | with_reducible exact Below.refl _ _ | with_reducible refine Below.drew ?_ | with_reducible refine Below.alloc ?_ (by first | exact Nat.le_refl _ | exact HBU.out.size | simp) _))), hx⟩
      clear hK K
      try simp only [Act.put, List.setIfInBounds_toArray, List.set_cons_zero, List.set_cons_succ]
      refine wpAnyH_take (i := 11) (v := ?v9) rfl (by kernel_rfl) (by kernel_rfl) (by kernel_rfl) (fun _ _ _ h => h) (Or.inl ⟨by rfl, ?hy9⟩) (by assumption) ?_
      case hy9 =>
        intro w hSw
        (try dsimp only at hSw)
        go_simp
        all_goals with_reducible rfl
      change wpAnyH _ _ _ _ _ _ _ (Act.put _ (some 16) _) _
      try simp only [Act.put, List.setIfInBounds_toArray, List.set_cons_zero, List.set_cons_succ]
      refine wpAnyH_take (i := 12) (v := ?v10) rfl (by kernel_rfl) (by kernel_rfl) (by kernel_rfl) (fun _ _ _ h => h) (Or.inl ⟨by rfl, ?hy10⟩) (by assumption) ?_
      case hy10 =>
        intro w hSw
        (try dsimp only at hSw)
        go_simp
        all_goals with_reducible rfl
      change wpAnyH _ _ _ _ _ _ _ (Act.put _ (some 17) _) _
      try simp only [Act.put, List.setIfInBounds_toArray, List.set_cons_zero, List.set_cons_succ]
      refine wpAnyH_take (i := 13) (v := ?v11) rfl (by kernel_rfl) (by kernel_rfl) (by kernel_rfl) (fun _ _ _ h => h) (Or.inl ⟨by rfl, ?hy11⟩) (by assumption) ?_
      case hy11 =>
        intro w hSw
        (try dsimp only at hSw)
        go_simp
        all_goals with_reducible rfl
      change wpAnyH _ _ _ _ _ _ _ (Act.put _ (some 3) _) _
      try simp only [Act.put, List.setIfInBounds_toArray, List.set_cons_zero, List.set_cons_succ]
      refine wpAnyH_done (by kernel_rfl) ?_ _
      go_wp2_with fail
      go_meet
      exact ⟨by rw [HE.out]; rfl, by (repeat (first | with_reducible exact HBU.out | with_reducible exact Below.refl _ _ | with_reducible refine Below.drew ?_ | with_reducible refine Below.alloc ?_ (by first | exact Nat.le_refl _ | exact HBU.out.size | simp) _))⟩
    refine AllReadyH.cons rfl (fun K hK => ?_) AllReadyH.nil
    go_simp
    refine (HPK.out _).mono ?_
    rintro e u ⟨rfl, hu⟩
    subst hu
    go_wp2_with fail
    refine hK.out _ _ ?_ (fun hHeld => ?_)
    · (refine HC.out _ ?_; (repeat (first | with_reducible exact HBU.out | with_reducible exact Below.refl _ _ | with_reducible refine Below.drew ?_ | with_reducible refine Below.alloc ?_ (by first | exact Nat.le_refl _ | exact HBU.out.size | simp) _)))
    clear hK K
    try simp only [Act.put, List.setIfInBounds_toArray, List.set_cons_zero, List.set_cons_succ]
    refine wpAnyH_ready (rs := [0, 10]) (by kernel_rfl) (by simp) ?_
    refine AllReadyH.cons rfl (fun K hK => ?_) ?_
    · skip
      go_simp
      refine hK.out _ _ ?_ (fun hHeld => ?_)
      · (refine HC.out _ ?_; (repeat (first | with_reducible exact HBU.out | with_reducible exact Below.refl _ _ | with_reducible refine Below.drew ?_ | with_reducible refine Below.alloc ?_ (by first | exact Nat.le_refl _ | exact HBU.out.size | simp) _)))
      clear hK K
      try simp only [Act.put, List.setIfInBounds_toArray, List.set_cons_zero, List.set_cons_succ]
      refine wpAnyH_swt (E := fun u : World => u.cell? ⟨W1.heap.size, k, none⟩ = some (.string (S (kinds3 k)))) hHeld (HK3.out W1 _) (fun hHeld1 => ?_)
      clear hHeld
      refine wpAnyH_take (i := 4) (v := ?v12) rfl (by kernel_rfl) (by kernel_rfl) (by kernel_rfl) (fun _ _ _ h => h) (Or.inl ⟨by rfl, ?hy12⟩) (by assumption) ?_
      case hy12 =>
        intro w hSw
        (try dsimp only at hSw)
        go_simp
        all_goals with_reducible rfl
      change wpAnyH _ _ _ _ _ _ _ (Act.put _ (some 9) _) _
      try simp only [Act.put, List.setIfInBounds_toArray, List.set_cons_zero, List.set_cons_succ]
      refine wpAnyH_take (i := 5) (v := ?v13) rfl (by kernel_rfl) (by kernel_rfl) (by kernel_rfl) (fun _ _ _ h => h) (Or.inl ⟨by rfl, ?hy13⟩) (by assumption) ?_
      case hy13 =>
        intro w hSw
        (try dsimp only at hSw)
        go_simp
        all_goals with_reducible rfl
      change wpAnyH _ _ _ _ _ _ _ (Act.put _ (some 10) _) _
      try simp only [Act.put, List.setIfInBounds_toArray, List.set_cons_zero, List.set_cons_succ]
      refine wpAnyH_take (i := 6) (v := ?v14) rfl (by kernel_rfl) (by kernel_rfl) (by kernel_rfl) (fun _ _ _ h => h) (Or.inl ⟨by rfl, ?hy14⟩) (by assumption) ?_
      case hy14 =>
        intro w hSw
        (try dsimp only at hSw)
        go_simp
        all_goals with_reducible rfl
      change wpAnyH _ _ _ _ _ _ _ (Act.put _ (some 11) _) _
      try simp only [Act.put, List.setIfInBounds_toArray, List.set_cons_zero, List.set_cons_succ]
      refine wpAnyH_take (i := 7) (v := ?v15) rfl (by kernel_rfl) (by kernel_rfl) (by kernel_rfl) (fun _ _ _ h => h) (Or.inl ⟨by rfl, ?hy15⟩) (by assumption) ?_
      case hy15 =>
        intro w hSw
        (try dsimp only at hSw)
        go_simp
        all_goals with_reducible rfl
      change wpAnyH _ _ _ _ _ _ _ (Act.put _ (some 12) _) _
      try simp only [Act.put, List.setIfInBounds_toArray, List.set_cons_zero, List.set_cons_succ]
      refine wpAnyH_ready (rs := [10]) (by kernel_rfl) (by simp) ?_
      refine AllReadyH.cons rfl (fun K hK => ?_) AllReadyH.nil
      go_simp
      refine (HWD.out _).mono ?_
      rintro e u ⟨rfl, hu⟩
      have HBU := hid (show Below W1.heap.size W1 u from (show Below W1.heap.size W1 _ from by (repeat (first | with_reducible exact Below.refl _ _ | with_reducible refine Below.drew ?_ | with_reducible refine Below.alloc ?_ (by first | exact Nat.le_refl _ | simp) _))).trans (hu.mono (by first | exact Nat.le_refl _ | simp)))
      have hx := wcell_next (drw_cell (HK3.out W1 9)) hu
      clear hu
      go_wp2_with fail
      refine hK.out _ _ ?_ (fun hHeld => ?_)
      · exact ⟨HC.out _ (by (repeat (first | with_reducible exact HBU.out | with_reducible exact Below.refl _ _ | with_reducible refine Below.drew ?_ | with_reducible refine Below.alloc ?_ (by first | exact Nat.le_refl _ | exact HBU.out.size | simp) _))), hx⟩
      clear hK K
      try simp only [Act.put, List.setIfInBounds_toArray, List.set_cons_zero, List.set_cons_succ]
      refine wpAnyH_take (i := 11) (v := ?v16) rfl (by kernel_rfl) (by kernel_rfl) (by kernel_rfl) (fun _ _ _ h => h) (Or.inl ⟨by rfl, ?hy16⟩) (by assumption) ?_
      case hy16 =>
        intro w hSw
        (try dsimp only at hSw)
        go_simp
        all_goals with_reducible rfl
      change wpAnyH _ _ _ _ _ _ _ (Act.put _ (some 16) _) _
      try simp only [Act.put, List.setIfInBounds_toArray, List.set_cons_zero, List.set_cons_succ]
      refine wpAnyH_take (i := 12) (v := ?v17) rfl (by kernel_rfl) (by kernel_rfl) (by kernel_rfl) (fun _ _ _ h => h) (Or.inl ⟨by rfl, ?hy17⟩) (by assumption) ?_
      case hy17 =>
        intro w hSw
        (try dsimp only at hSw)
        go_simp
        all_goals with_reducible rfl
      change wpAnyH _ _ _ _ _ _ _ (Act.put _ (some 17) _) _
      try simp only [Act.put, List.setIfInBounds_toArray, List.set_cons_zero, List.set_cons_succ]
      refine wpAnyH_take (i := 13) (v := ?v18) rfl (by kernel_rfl) (by kernel_rfl) (by kernel_rfl) (fun _ _ _ h => h) (Or.inl ⟨by rfl, ?hy18⟩) (by assumption) ?_
      case hy18 =>
        intro w hSw
        (try dsimp only at hSw)
        go_simp
        all_goals with_reducible rfl
      change wpAnyH _ _ _ _ _ _ _ (Act.put _ (some 3) _) _
      try simp only [Act.put, List.setIfInBounds_toArray, List.set_cons_zero, List.set_cons_succ]
      refine wpAnyH_done (by kernel_rfl) ?_ _
      go_wp2_with fail
      go_meet
      exact ⟨by rw [HE.out]; rfl, by (repeat (first | with_reducible exact HBU.out | with_reducible exact Below.refl _ _ | with_reducible refine Below.drew ?_ | with_reducible refine Below.alloc ?_ (by first | exact Nat.le_refl _ | exact HBU.out.size | simp) _))⟩
    refine AllReadyH.cons rfl (fun K hK => ?_) AllReadyH.nil
    go_simp
    refine (HWD.out _).mono ?_
    rintro e u ⟨rfl, hu⟩
    have HBU := hid (show Below W1.heap.size W1 u from (show Below W1.heap.size W1 _ from by (repeat (first | with_reducible exact Below.refl _ _ | with_reducible refine Below.drew ?_ | with_reducible refine Below.alloc ?_ (by first | exact Nat.le_refl _ | simp) _))).trans (hu.mono (by first | exact Nat.le_refl _ | simp)))
    clear hu
    go_wp2_with fail
    refine hK.out _ _ ?_ (fun hHeld => ?_)
    · (refine HC.out _ ?_; (repeat (first | with_reducible exact HBU.out | with_reducible exact Below.refl _ _ | with_reducible refine Below.drew ?_ | with_reducible refine Below.alloc ?_ (by first | exact Nat.le_refl _ | exact HBU.out.size | simp) _)))
    clear hK K
    try simp only [Act.put, List.setIfInBounds_toArray, List.set_cons_zero, List.set_cons_succ]
    refine wpAnyH_ready (rs := [0]) (by kernel_rfl) (by simp) ?_
    refine AllReadyH.cons rfl (fun K hK => ?_) AllReadyH.nil
    go_simp
    refine hK.out _ _ ?_ (fun hHeld => ?_)
    · (refine HC.out _ ?_; (repeat (first | with_reducible exact HBU.out | with_reducible exact Below.refl _ _ | with_reducible refine Below.drew ?_ | with_reducible refine Below.alloc ?_ (by first | exact Nat.le_refl _ | exact HBU.out.size | simp) _)))
    clear hK K
    try simp only [Act.put, List.setIfInBounds_toArray, List.set_cons_zero, List.set_cons_succ]
    refine wpAnyH_swt (E := fun v : World => v.cell? ⟨u.heap.size, k, none⟩ = some (.string (S (kinds3 k)))) hHeld (HK3.out u _) (fun hHeld1 => ?_)
    clear hHeld
    refine wpAnyH_take (i := 4) (v := ?v19) rfl (by kernel_rfl) (by kernel_rfl) (by kernel_rfl) (fun _ _ _ h => h) (Or.inl ⟨by rfl, ?hy19⟩) (by assumption) ?_
    case hy19 =>
      intro w hSw
      (try dsimp only at hSw)
      go_simp
      all_goals with_reducible rfl
    change wpAnyH _ _ _ _ _ _ _ (Act.put _ (some 9) _) _
    try simp only [Act.put, List.setIfInBounds_toArray, List.set_cons_zero, List.set_cons_succ]
    refine wpAnyH_take (i := 5) (v := ?v20) rfl (by kernel_rfl) (by kernel_rfl) (by kernel_rfl) (fun _ _ _ h => h) (Or.inl ⟨by rfl, ?hy20⟩) (by assumption) ?_
    case hy20 =>
      intro w hSw
      (try dsimp only at hSw)
      go_simp
      all_goals with_reducible rfl
    change wpAnyH _ _ _ _ _ _ _ (Act.put _ (some 10) _) _
    try simp only [Act.put, List.setIfInBounds_toArray, List.set_cons_zero, List.set_cons_succ]
    refine wpAnyH_take (i := 6) (v := ?v21) rfl (by kernel_rfl) (by kernel_rfl) (by kernel_rfl) (fun _ _ _ h => h) (Or.inl ⟨by rfl, ?hy21⟩) (by assumption) ?_
    case hy21 =>
      intro w hSw
      (try dsimp only at hSw)
      go_simp
      all_goals with_reducible rfl
    change wpAnyH _ _ _ _ _ _ _ (Act.put _ (some 11) _) _
    try simp only [Act.put, List.setIfInBounds_toArray, List.set_cons_zero, List.set_cons_succ]
    refine wpAnyH_take (i := 7) (v := ?v22) rfl (by kernel_rfl) (by kernel_rfl) (by kernel_rfl) (fun _ _ _ h => h) (Or.inl ⟨by rfl, ?hy22⟩) (by assumption) ?_
    case hy22 =>
      intro w hSw
      (try dsimp only at hSw)
      go_simp
      all_goals with_reducible rfl
    change wpAnyH _ _ _ _ _ _ _ (Act.put _ (some 12) _) _
    try simp only [Act.put, List.setIfInBounds_toArray, List.set_cons_zero, List.set_cons_succ]
    refine wpAnyH_take (i := 11) (v := ?v23) rfl (by kernel_rfl) (by kernel_rfl) (by kernel_rfl) (fun _ _ _ h => h) (Or.inl ⟨by rfl, ?hy23⟩) (by assumption) ?_
    case hy23 =>
      intro w hSw
      (try dsimp only at hSw)
      go_simp
      all_goals with_reducible rfl
    change wpAnyH _ _ _ _ _ _ _ (Act.put _ (some 16) _) _
    try simp only [Act.put, List.setIfInBounds_toArray, List.set_cons_zero, List.set_cons_succ]
    refine wpAnyH_take (i := 12) (v := ?v24) rfl (by kernel_rfl) (by kernel_rfl) (by kernel_rfl) (fun _ _ _ h => h) (Or.inl ⟨by rfl, ?hy24⟩) (by assumption) ?_
    case hy24 =>
      intro w hSw
      (try dsimp only at hSw)
      go_simp
      all_goals with_reducible rfl
    change wpAnyH _ _ _ _ _ _ _ (Act.put _ (some 17) _) _
    try simp only [Act.put, List.setIfInBounds_toArray, List.set_cons_zero, List.set_cons_succ]
    refine wpAnyH_take (i := 13) (v := ?v25) rfl (by kernel_rfl) (by kernel_rfl) (by kernel_rfl) (fun _ _ _ h => h) (Or.inl ⟨by rfl, ?hy25⟩) (by assumption) ?_
    case hy25 =>
      intro w hSw
      (try dsimp only at hSw)
      go_simp
      all_goals with_reducible rfl
    change wpAnyH _ _ _ _ _ _ _ (Act.put _ (some 3) _) _
    try simp only [Act.put, List.setIfInBounds_toArray, List.set_cons_zero, List.set_cons_succ]
    refine wpAnyH_done (by kernel_rfl) ?_ _
    go_wp2_with fail
    go_meet
    exact ⟨by rw [HE.out]; rfl, by (repeat (first | with_reducible exact HBU.out | with_reducible exact Below.refl _ _ | with_reducible refine Below.drew ?_ | with_reducible refine Below.alloc ?_ (by first | exact Nat.le_refl _ | exact HBU.out.size | simp) _))⟩
  case rest =>
    obtain ⟨hv, hBx⟩ := hcut
    subst hv
    obtain ⟨W2, rfl⟩ : ∃ W, W = wc := ⟨_, rfl⟩
    have HB2 := hid (show Below w.heap.size w W2 from HB1.out.trans (hBx.mono HB1.out.size))
    have c4 := wcell_next c4 hBx
    have hp4 := pickN_lt g.b 4 (by decide)
    have hp5 := pickN_lt g.b 5 (by decide)
    have HP4 := hid (fun u => Picked_any g.b 4 u HW.out.2.2.2.2.1 (by decide) (by decide))
    have HP5 := hid (fun u => Picked_any g.b 5 u HW.out.2.2.2.2.1 (by decide) (by decide))
    have hl1 : (S (headL1 g)).size ≤ 30 := by
      rw [size_S]
      unfold headL1 gWd
      have := wordL_len g.text.data.toList
      have := k3_size (pickN g.b 3)
      rw [size_S] at this
      simp [subjL]
      omega
    have HL2 := hid (show headL2 g = headL1 g ++ if pickN g.b 4 = 1 then listL else [] from rfl)
    have HHM := hid (show headM g = headL2 g ++ xLs (pickN g.b 5) from rfl)
    clear hBx HPK HWD hp h3 hwl c5
    have HSZ := hid (show (headL2 g).length ≤ 41 by
      rw [HL2.out, List.length_append]
      rw [size_S] at hl1
      split
      · simp [listL]; omega
      · simp; omega)
    go_wp2_with fail
    refine (HP4.out _).mono ?_
    rintro e u ⟨rfl, hu⟩
    have hu' := hu.symm
    subst hu'
    clear hu
    obtain ⟨q, hq⟩ : ∃ q, q = pickN g.b 4 := ⟨_, rfl⟩
    rw [← hq] at HL2 ⊢
    clear HP4 hp4 hq
    by_cases h1 : q = 1
    · have HS2 := hid (show headL2 g ++ xLs 0 = headL1 g ++ listL by rw [HL2.out, if_pos h1]; exact List.append_nil _)
      subst h1
      go_wp2_with fail
      rw [show S (headL1 g) ++ ⟨#[76, 105, 115, 116, 58, 32, 97, 108, 108, 13, 10]⟩ = S (headL1 g ++ listL) from S_app _ listL]
      go_loopw [3, 4] (fun s i wr => ∃ k : Nat, k ≤ pickN g.b 5 ∧ s = .string (S (headL2 g ++ xLs k)) ∧ i = .int .i64 k ∧ Hid (wr = W2)) (fun _ i _ => pickN g.b 5 - (intOf i).toNat)
      case atStart => exact ⟨0, Nat.zero_le _, by rw [HS2.out], rfl, hid rfl⟩
      case round =>
        obtain ⟨k, hk, rfl, rfl, HWR⟩ := hrel
        obtain rfl := HWR.out.symm
        go_wp2_with fail
        refine (HP5.out _).mono ?_
        rintro e u ⟨rfl, hu⟩
        have hu' := hu.symm
        subst hu'
        clear hu
        have hxs : (S (headL2 g ++ xLs k)).size ≤ 1000 := by
          rw [size_S, List.length_append, xLs_len]
          have := HSZ.out
          omega
        by_cases hlt : k < pickN g.b 5
        · have i1 : (k : Int) < (pickN g.b 5 : Int) := by omega
          go_wp2
          go_roundw
          case rel => exact ⟨k + 1, by omega, by rw [show headL2 g ++ xLs (k + 1) = (headL2 g ++ xLs k) ++ xL by rw [xLs, List.append_assoc], ← S_app]; rfl, by go_num, by first | exact hid rfl | exact hid trivial⟩
          case measure => simp [intOf]; omega
        · have i1 : ¬ (k : Int) < (pickN g.b 5 : Int) := by omega
          obtain rfl : k = pickN g.b 5 := by omega
          go_wp2
          go_ret
          exact ⟨by rw [HHM.out]; rfl, HB2.out⟩
    · have HS2 := hid (show headL2 g ++ xLs 0 = headL1 g by rw [HL2.out, if_neg h1]; simp [xLs])
      have h1' : ((q : Int) == 1) = false := by simp; omega
      go_wp2_with fail
      go_loopw [3, 4] (fun s i wr => ∃ k : Nat, k ≤ pickN g.b 5 ∧ s = .string (S (headL2 g ++ xLs k)) ∧ i = .int .i64 k ∧ Hid (wr = W2)) (fun _ i _ => pickN g.b 5 - (intOf i).toNat)
      case atStart => exact ⟨0, Nat.zero_le _, by rw [HS2.out], rfl, hid rfl⟩
      case round =>
        obtain ⟨k, hk, rfl, rfl, HWR⟩ := hrel
        obtain rfl := HWR.out.symm
        go_wp2_with fail
        refine (HP5.out _).mono ?_
        rintro e u ⟨rfl, hu⟩
        have hu' := hu.symm
        subst hu'
        clear hu
        have hxs : (S (headL2 g ++ xLs k)).size ≤ 1000 := by
          rw [size_S, List.length_append, xLs_len]
          have := HSZ.out
          omega
        by_cases hlt : k < pickN g.b 5
        · have i1 : (k : Int) < (pickN g.b 5 : Int) := by omega
          go_wp2
          go_roundw
          case rel => exact ⟨k + 1, by omega, by rw [show headL2 g ++ xLs (k + 1) = (headL2 g ++ xLs k) ++ xL by rw [xLs, List.append_assoc], ← S_app]; rfl, by go_num, by first | exact hid rfl | exact hid trivial⟩
          case measure => simp [intOf]; omega
        · have i1 : ¬ (k : Int) < (pickN g.b 5 : Int) := by omega
          obtain rfl : k = pickN g.b 5 := by omega
          go_wp2
          go_ret
          exact ⟨by rw [HHM.out]; rfl, HB2.out⟩
end Go.Proofs.YtepfniiojjefhaaGreatDoor
