/-
  code.Run: a runner's step, and the run: the walks.
  What the laws' makers of plain texts do (value): the walk.
-/
import Derived.Test.YtaapmpchcfcniaaGreatDoorYQOnePur5
import Derived.Test.YtaapmpchcfcniaaGreatDoorYQCodFit7
import Derived.Deep.MidRow
import Derived.Test.YtaapmpchcfcniaaGreatDoorYKeepWd
import Derived.Test.YtaapmpchcfcniaaGreatDoorYQPure2
import Derived.Test.YtaapmpchcfcniaaGreatDoorYLetPar
namespace Go.Proofs.YtaapmpchcfcniaaGreatDoor
open Go.RowKit Go.Proofs
theorem jkT {w : World} {b i j : Nat} {u v : Value} (h : w.cell? ⟨b, i, none⟩ = some u) (hne : i ≠ j) : (w.setCell ⟨b, j, none⟩ v).cell? ⟨b, i, none⟩ = some u :=
  (World.cell?_setCell_other w _ _ _ (fun e => hne (by cases e; rfl))).trans h
def StpD (W : World) (rr : Crs × Bool) (p g : Value) (wx : World) : Prop := ∃ (Q : Nat) (a5 : Option Addr) (k5 : Nat), p = .pointer (some ⟨Q, 0, none⟩) ∧ g = .bool (!rr.2) ∧ W.heap.size ≤ Q ∧ wx.heap[Q]? = some (.cells #[.slice a5 rr.1.acts.length k5, .int .i64 rr.1.flags, .bool rr.1.asked, .int .i64 rr.1.fault] 42) ∧ AtnsM anyB wx (.slice a5 rr.1.acts.length k5) rr.1.acts ∧ (a5 = none → rr.1.acts = [] ∧ k5 = 0) ∧ Below W.heap.size W wx
theorem StpD.old {W w3 : World} {rr : Crs × Bool} {P : Nat} {a3 : Option Addr} {k3 : Nat} (hP : W.heap.size ≤ P) (hb : w3.heap[P]? = some (.cells #[.slice none 0 0, .int .i64 0, .bool false, .int .i64 0] 42)) (hA : AtnsM anyB w3 (.slice a3 rr.1.acts.length k3) rr.1.acts) (hn : a3 = none → rr.1.acts = [] ∧ k3 = 0) (hB : Below W.heap.size W w3) :
    StpD W rr (.pointer (some ⟨P, 0, none⟩)) (.bool (!rr.2)) ((((w3.setCell ⟨P, 0, none⟩ (.slice a3 rr.1.acts.length k3)).setCell ⟨P, 1, none⟩ (.int .i64 rr.1.flags)).setCell ⟨P, 2, none⟩ (.bool rr.1.asked)).setCell ⟨P, 3, none⟩ (.int .i64 rr.1.fault)) :=
  ⟨P, a3, k3, rfl, rfl, hP, jlc hb, jbB (vZ hb hA), hn, (((hB.setCell hP _).setCell hP _).setCell hP _).setCell hP _⟩
theorem StpD.new {W w3 : World} {rr : Crs × Bool} {a3 : Option Addr} {k3 : Nat} (hA : AtnsM anyB w3 (.slice a3 rr.1.acts.length k3) rr.1.acts) (hn : a3 = none → rr.1.acts = [] ∧ k3 = 0) (hB : Below W.heap.size W w3) :
    StpD W rr (.pointer (some ⟨w3.heap.size, 0, none⟩)) (.bool (!rr.2)) (w3.alloc (.cells #[.slice a3 rr.1.acts.length k3, .int .i64 rr.1.flags, .bool rr.1.asked, .int .i64 rr.1.fault] 42)) :=
  ⟨w3.heap.size, a3, k3, rfl, rfl, hB.size, jV _ rfl, AtnsM.next hA ((Below.refl _ _).alloc (Nat.le_refl _) _), hn, hB.alloc hB.size _⟩
theorem jh1 {Q : Nat → Prop} {w : World} {x : Opr} {cs : List Value} (h : OpM Q w x cs) : cs[0]? = some (.int .i64 x.kind) := by
  obtain ⟨ts, ds, rfl, _⟩ := h; rfl
def GoIfR (w : World) (b : Nat) (o : Opn) (vL : Value) (a : Option Addr) (k : Nat) (c : Crs) (pc dn : Int) (td : Bool) (e : Ending) (w' : World) : Prop := (∃ v, e = .returned v) ∧ w'.heap[b]? = some (.cells (rnL o vL a k c pc dn td) 80) ∧ Keeps (fun q => q ≠ b) w w' ∧ Below b w w'
theorem GoIfR.stp {w0 w w' : World} {b : Nat} {o : Opn} {vL : Value} {a : Option Addr} {k : Nat} {c : Crs} {pc dn : Int} {td : Bool} {e : Ending} {s : Rn} (h : GoIfR w b o vL a k c pc dn td e w') (hA : AtnsM (fun q => q ≠ b) w (.slice a c.acts.length k) c.acts) (hn : a = none → c.acts = [] ∧ k = 0) (hB : Below w0.heap.size w0 w) (hb : w0.heap.size ≤ b) (e1 : s.c = c) (e2 : pc = s.pc) (e3 : dn = s.done) (e4 : s.told = td) : RnB w' b o vL s ∧ Below w0.heap.size w0 w' := by
  obtain ⟨_, h1, h2, h3⟩ := h; subst e2 e3 e4 e1; exact ⟨⟨a, k, h1, RowM.imp hA (fun _ h => h) h2 fun _ _ h => h, hn⟩, hB.trans (h3.mono hb)⟩
set_option maxHeartbeats 1000000 in
set_option maxRecDepth 100000 in
theorem jeV (b : Nat) (o : Opn) (vL : Value) (a : Option Addr) (k : Nat) (c : Crs) (pc dn : Int) (td q : Bool) (tt : Int) (w : World) (h : w.heap[b]? = some (.cells (rnL o vL a k c pc dn td) 80)) :
    Calls Tryz.prog 47 #[.pointer (some ⟨b, 0, none⟩), .bool q, .int .i64 tt] w (GoIfR w b o vL a k c (if q = true then tt else pc) dn td) := by
  have h10 := (bx13 h).2.2.2.2.2.2.2.2.2.2.1; have f10 := (bz13 h).2.2.2.2.1; have HH := hid h; clear h; go_enter Tryz.func47, Tryz.ntmps47; cases q with
  | true =>
    go_wp2; go_end0; exact ⟨⟨_, rfl⟩, by have := heap_setCell_same w b 10 _ _ (.int .i64 tt) HH.out; simpa using this, Keeps.set (p := ⟨b, 10, none⟩) w _ (fun _ h => h), (Below.refl b w).setCell (show b ≤ b from Nat.le_refl _) _⟩
  | false =>
    go_wp2; go_end0; exact ⟨⟨_, rfl⟩, HH.out, Keeps.refl _ _, Below.refl _ _⟩
set_option maxHeartbeats 2000000 in
set_option maxRecDepth 100000 in
theorem jik (o : Opn) (L : List Opr) (bb oo cap : Nat) (w0 : World) (b : Nat) (s : Rn) (x : Opr) (w : World) (hw : Tabs w0) (hm : maxLenCell w0) (hj : vU o) (hl : L.length ≤ 400) (hO : OpsM anyB w0 (.slice (some ⟨bb, oo, none⟩) L.length cap) L) (hb0 : w0.heap.size ≤ b) (hB : Below w0.heap.size w0 w) (hR : RnB w b o (.slice (some ⟨bb, oo, none⟩) L.length cap) s) (hk : RnOk L s) (hx : L[s.pc]? = some x) (hG : OpGood RT RC s.pc L.length x) :
    Calls Tryz.prog 25 #[.pointer (some ⟨b, 0, none⟩)] w (StpR w0 b o (.slice (some ⟨bb, oo, none⟩) L.length cap) (ze o L.length s x)) := by
  obtain ⟨a, k, hb, hA, hn⟩ := hR; have hlt := (List.getElem?_eq_some_iff.1 hx).1; have hbw : b < w.heap.size := (Array.getElem?_eq_some_iff.1 hb).1; obtain ⟨a', c', e, _, hrow⟩ := hO; obtain ⟨b', o', cs, e2, hb', _, hcs, hcell, hP⟩ := hrow s.pc x hx; cases e; cases e2; have hbb : bb < w0.heap.size := by
    cases cs with
    | nil => simp at hcs
    | cons u r => exact World.block_lt_of_cell? w0 _ (hcell 0 u rfl)
  have HP := hid hP; have HCS := hid hcs; have HRg0 := hid (show w.rangeAt bb (oo + s.pc * 22) cs from fun j u hj => jk hB (Nat.le_refl _) (hcell j u hj)); have HH := hid hb; have i1 : (s.pc : Int) < (L.length : Int) := by omega
  have i3 : (0 : Int) ≤ (s.pc : Int) := by omega
  have HKS := hid (show ∀ u, Below w.heap.size w u → u.rangeAt bb (oo + s.pc * 22) cs ∧ u.cell? ⟨b, 0, none⟩ = some (.slice (some ⟨bb, oo, none⟩) L.length cap) ∧ u.cell? ⟨b, 10, none⟩ = some (.int .i64 s.pc) from fun u hu => ⟨fun j v hj => jk hu (Nat.le_refl _) (HRg0.out j v hj), (bx13 (jL hu HH.out)).1, (bx13 (jL hu HH.out)).2.2.2.2.2.2.2.2.2.2.1⟩); obtain ⟨WA, hWA⟩ : ∃ WA, WA = (w.alloc (.cells #[.int .i64 0, .int .i64 0, .int .i64 0, .int .i64 0, .int .i64 0, .slice none 0 0, .slice none 0 0, .bool false, .int .i64 0, .slice none 0 0, .int .i64 0, .slice none 0 0, .int .i64 0, .int .i64 0, .int .i64 0, .slice none 0 0, .slice none 0 0, .bool false, .int .i64 0, .slice none 0 0, .slice none 0 0, .slice none 0 0] 116)).drew := ⟨_, rfl⟩; have HWA := hid hWA; have hZ : WA.heap[w.heap.size]? = some (.cells #[.int .i64 0, .int .i64 0, .int .i64 0, .int .i64 0, .int .i64 0, .slice none 0 0, .slice none 0 0, .bool false, .int .i64 0, .slice none 0 0, .int .i64 0, .slice none 0 0, .int .i64 0, .int .i64 0, .int .i64 0, .slice none 0 0, .slice none 0 0, .bool false, .int .i64 0, .slice none 0 0, .slice none 0 0, .slice none 0 0] 116) := by rw [hWA]; exact heap_alloc_new w _
  have HBA := hid (show Below w.heap.size w WA by rw [hWA]; exact ((Below.refl _ _).alloc (Nat.le_refl _) _).drew); have HTH := hid (show WA.there w.heap.size 0 cs.toArray.size by
    intro j hj; have hj2 : j < 22 := by simpa [HCS.out] using hj
    rw [Nat.zero_add]; have hget : ∃ u, ([.int .i64 0, .int .i64 0, .int .i64 0, .int .i64 0, .int .i64 0, .slice none 0 0, .slice none 0 0, .bool false, .int .i64 0, .slice none 0 0, .int .i64 0, .slice none 0 0, .int .i64 0, .int .i64 0, .int .i64 0, .slice none 0 0, .slice none 0 0, .bool false, .int .i64 0, .slice none 0 0, .slice none 0 0, .slice none 0 0] : List Value)[j]? = some u := ⟨_, List.getElem?_eq_getElem (by simpa using hj2)⟩; obtain ⟨u, hu⟩ := hget; exact ⟨by rw [jc hZ (by simpa using hu)]; rfl, by simp [World.frozen?, hZ]⟩)
  have HSZ := hid (show (Tryz.prog.info? 116).map (·.size) = some cs.length by rw [HCS.out]; kernel_rfl); have HSZ2 := hid (show (Tryz.prog.info? 116).map (·.size) = some cs.toArray.size by rw [List.size_toArray]; exact HSZ.out); have HON := hid (all_oneCell_toArray (jh2 HP.out)); obtain ⟨WB, hWB⟩ : ∃ WB, WB = WA.setCells w.heap.size 0 cs.toArray.toList := ⟨_, rfl⟩; have HWB := hid hWB; have HBB := hid (show Below w.heap.size w WB by rw [hWB]; exact vY _ (Nat.le_refl _) _ _ _ HBA.out); have HRB := hid (show WB.rangeAt w.heap.size 0 cs by
    rw [hWB]; exact World.rangeAt_setCells_same WA w.heap.size 0 cs (by simpa using HTH.out))
  have HPL := hid (show w.heap.size < WB.heap.size from World.block_lt_of_cell? WB _ (HRB.out 0 _ (jh1 HP.out))); have HW := hid hw; have HM := hid hm; have HJ := hid hj; have HB := hid hB; have HA := hid hA; have HN := hid hn; have HK := hid hk; have HG := hid hG; have hdn : s.done ≤ 400 := Nat.le_trans hk.done (Nat.le_trans hk.le hl); clear hw hm hj hB hA hn hk hG hrow hcell hP hb hWA hZ hWB hx; go_enter Tryz.func25, Tryz.ntmps25; go_upto_region 0 with fail
  go_cut [2] (fun p wx => ∃ P, p = .pointer (some ⟨P, 0, none⟩) ∧ w.heap.size ≤ P ∧ P < wx.heap.size ∧ wx.rangeAt P 0 cs ∧ Below w.heap.size w wx)
  case first =>
    refine wp_region_held_drew (S := fun u => u.rangeAt bb (oo + s.pc * 22) cs ∧ u.cell? ⟨b, 0, none⟩ = some (.slice (some ⟨bb, oo, none⟩) L.length cap) ∧ u.cell? ⟨b, 10, none⟩ = some (.int .i64 s.pc)) (by kernel_rfl) ?_ (fun hHeld => ?_)
    · exact HKS.out _ (Below.refl _ _).drew
    refine wpAnyH_take (i := 0) (v := ?v1) rfl (by kernel_rfl) (by kernel_rfl) (by kernel_rfl) (fun _ _ _ h => h) (Or.inl ⟨by rfl, ?hy1⟩) (by assumption) ?_
    case hy1 =>
      intro w hSw
      (try dsimp only at hSw)
      go_simp
      all_goals with_reducible rfl
    change wpAnyH _ _ _ _ _ _ _ (Act.put _ (some 6) _) _
    try simp only [Act.put, List.setIfInBounds_toArray, List.set_cons_zero, List.set_cons_succ]
    refine wpAnyH_take (i := 1) (v := ?v2) rfl (by kernel_rfl) (by kernel_rfl) (by kernel_rfl) (fun _ _ _ h => h) (Or.inl ⟨by rfl, ?hy2⟩) (by assumption) ?_
    case hy2 =>
      intro w hSw
      (try dsimp only at hSw)
      go_simp
      all_goals with_reducible rfl
    change wpAnyH _ _ _ _ _ _ _ (Act.put _ (some 7) _) _
    try simp only [Act.put, List.setIfInBounds_toArray, List.set_cons_zero, List.set_cons_succ]
    refine wpAnyH_take (i := 2) (v := ?v3) rfl (by kernel_rfl) (by kernel_rfl) (by kernel_rfl) (fun _ _ _ h => h) (Or.inl ⟨by rfl, ?hy3⟩) (by assumption) ?_
    case hy3 =>
      intro w hSw
      (try dsimp only at hSw)
      go_simp
      all_goals with_reducible rfl
    change wpAnyH _ _ _ _ _ _ _ (Act.put _ (some 8) _) _
    try simp only [Act.put, List.setIfInBounds_toArray, List.set_cons_zero, List.set_cons_succ]
    refine wpAnyH_take (i := 3) (v := ?v4) rfl (by kernel_rfl) (by kernel_rfl) (by kernel_rfl) (fun _ _ _ h => h) (Or.inl ⟨by rfl, ?hy4⟩) (by assumption) ?_
    case hy4 =>
      intro w hSw
      (try dsimp only at hSw)
      go_simp
      all_goals with_reducible rfl
    change wpAnyH _ _ _ _ _ _ _ (Act.put _ (some 9) _) _
    try simp only [Act.put, List.setIfInBounds_toArray, List.set_cons_zero, List.set_cons_succ]
    refine wpAnyH_take (i := 4) (v := ?v5) rfl (by kernel_rfl) (by kernel_rfl) (by kernel_rfl) (fun _ _ _ h => h) (Or.inl ⟨by rfl, ?hy5⟩) (by assumption) ?_
    case hy5 =>
      intro w hSw
      (try dsimp only at hSw)
      go_simp
      all_goals with_reducible rfl
    change wpAnyH _ _ _ _ _ _ _ (Act.put _ (some 10) _) _
    try simp only [Act.put, List.setIfInBounds_toArray, List.set_cons_zero, List.set_cons_succ]
    refine wpAnyH_take (i := 5) (v := ?v6) rfl (by kernel_rfl) (by kernel_rfl) (by kernel_rfl) (fun _ _ _ h => h) (Or.inl ⟨by rfl, ?hy6⟩) (by assumption) ?_
    case hy6 =>
      intro w hSw
      (try dsimp only at hSw)
      go_simp
      all_goals with_reducible rfl
    change wpAnyH _ _ _ _ _ _ _ (Act.put _ (some 11) _) _
    try simp only [Act.put, List.setIfInBounds_toArray, List.set_cons_zero, List.set_cons_succ]
    refine wpAnyH_take (i := 6) (v := ?v7) rfl (by kernel_rfl) (by kernel_rfl) (by kernel_rfl) (fun _ _ _ h => h) (Or.inl ⟨by rfl, ?hy7⟩) (by assumption) ?_
    case hy7 =>
      intro w hSw
      (try dsimp only at hSw)
      go_simp
      all_goals with_reducible rfl
    change wpAnyH _ _ _ _ _ _ _ (Act.put _ (some 12) _) _
    try simp only [Act.put, List.setIfInBounds_toArray, List.set_cons_zero, List.set_cons_succ]
    refine wpAnyH_take (i := 7) (v := ?v8) rfl (by kernel_rfl) (by kernel_rfl) (by kernel_rfl) (fun _ _ _ h => h) (Or.inl ⟨by rfl, ?hy8⟩) (by assumption) ?_
    case hy8 =>
      intro w hSw
      (try dsimp only at hSw)
      go_simp
      all_goals with_reducible rfl
    change wpAnyH _ _ _ _ _ _ _ (Act.put _ (some 13) _) _
    try simp only [Act.put, List.setIfInBounds_toArray, List.set_cons_zero, List.set_cons_succ]
    refine wpAnyH_take (i := 8) (v := ?v9) rfl (by kernel_rfl) (by kernel_rfl) (by kernel_rfl) (fun _ _ _ h => h) (Or.inl ⟨by rfl, ?hy9⟩) (by assumption) ?_
    case hy9 =>
      intro w hSw
      (try dsimp only at hSw)
      go_simp
      all_goals with_reducible rfl
    change wpAnyH _ _ _ _ _ _ _ (Act.put _ (some 14) _) _
    try simp only [Act.put, List.setIfInBounds_toArray, List.set_cons_zero, List.set_cons_succ]
    refine wpAnyH_take (i := 9) (v := .agg cs.toArray) rfl (by kernel_rfl) (by kernel_rfl) (by kernel_rfl) (fun _ _ _ h => h) (yieldsIf_load_mid (by rfl) 116 _ rfl bb (oo + s.pc * 22) rfl cs _ (fun _ h => h.1) Tryz.underlying116 rfl HSZ.out) (by assumption) ?_
    change wpAnyH _ _ _ _ _ _ _ (Act.put _ (some 15) _) _
    try simp only [Act.put, List.setIfInBounds_toArray, List.set_cons_zero, List.set_cons_succ]
    refine wpAnyH_ready (rs := [10]) (by kernel_rfl) (by simp) ?_; refine AllReadyH.cons rfl (fun K hK => ?_) AllReadyH.nil
    go_simp
    rw [← HWA.out]; refine hK.out _ _ ?_ (fun hHeld => ?_)
    · exact HKS.out _ HBA.out
    clear hK K
    try simp only [Act.put, List.setIfInBounds_toArray, List.set_cons_zero, List.set_cons_succ]
    refine wpAnyH_ready (rs := [11]) (by kernel_rfl) (by simp) ?_; refine AllReadyH.cons rfl (fun K hK => ?_) AllReadyH.nil; rw [if_pos (by rfl)]; refine wp_store_mid 116 _ _ rfl w.heap.size 0 cs.toArray rfl rfl HTH.out HSZ2.out HON.out ?_; rw [← HWB.out]; refine hK.out _ _ ?_ (fun hHeld => ?_)
    · exact HKS.out _ HBB.out
    clear hK K
    try simp only [Act.put, List.setIfInBounds_toArray]
    refine wpAnyH_done (by kernel_rfl) ?_ _; go_wp2_with fail
    go_meet
    exact ⟨_, rfl, Nat.le_refl _, HPL.out, HRB.out, HBB.out⟩
  case rest =>
    obtain ⟨P, rfl, hP, hP2, hRc, hbc⟩ := hcut; have hPb : P ≠ b := by omega
    have HHc := hid (jL hbc HH.out); obtain ⟨q0, q1, q2, q3, q4, q5, q6, q7, q8, q9, q10, q11, q12⟩ := bx13 HHc.out; obtain ⟨f6, f7, f8, f9, f10, f11, f12⟩ := bz13 HHc.out; obtain ⟨WC, hWC⟩ : ∃ WC, WC = (wc.setCell ⟨b, 10, none⟩ (.int .i64 ((s.pc : Int) + 1))).setCell ⟨b, 11, none⟩ (.int .i64 ((s.done : Int) + 1)) := ⟨_, rfl⟩; have HWC := hid hWC; have HHC := hid (show WC.heap[b]? = some (.cells (rnL o (.slice (some ⟨bb, oo, none⟩) L.length cap) a k s.c ((s.pc : Int) + 1) ((s.done : Int) + 1) s.told) 80) by
      have h1 := heap_setCell_same wc b 10 _ _ (.int .i64 ((s.pc : Int) + 1)) HHc.out; have h2 := heap_setCell_same _ b 11 _ _ (.int .i64 ((s.done : Int) + 1)) h1; rw [hWC]; simpa using h2)
    have HRC := hid (show WC.rangeAt P 0 cs from fun j v hj => by
      rw [hWC, World.cell?_setCell_far _ _ _ _ (by simpa using fun e => hPb e.symm), World.cell?_setCell_far _ _ _ _ (by simpa using fun e => hPb e.symm)]; exact hRc j v hj)
    have HBC := hid (show Below w0.heap.size w0 WC by rw [hWC]; exact ((HB.out.trans (hbc.mono HB.out.size)).setCell hb0 _).setCell hb0 _); have HAC := hid (show AtnsM (fun q => q ≠ b) WC (.slice a s.c.acts.length k) s.c.acts by rw [hWC]; exact zT _ (zT _ (AtnsM.next HA.out hbc) rfl) rfl); have w1 : IntKind.i64.wrap ((s.pc : Int) + 1) = (s.pc : Int) + 1 := by rw [IntKind.wrap_i64]; omega
    have w2 : IntKind.i64.wrap ((s.done : Int) + 1) = (s.done : Int) + 1 := by rw [IntKind.wrap_i64]; omega
    have hPs : P < WC.heap.size := by rw [hWC]; simpa [World.setCell] using hP2
    clear hWC hRc hbc hP2; go_upto_region 3 with fail
    rw [← HWC.out]; obtain ⟨ts, ds, rfl, hT, hD⟩ := HP.out; clear q0 q1 q2 q3 q4 q5 q6 q7 q8 q9 q10 q11 q12 f6 f7 f8 f9 f10 f11 f12 w1 w2; have HTM := hid (TstM.next hT HBC.out); have HDM := hid (CmdM.next hD HBC.out); have HGo := HG.out; have HF := hid (HK.out.fault (by omega)); clear HTH HSZ HSZ2 HON HWA HWB HBA HBB HRB HPL HKS HRg0 HCS HP HG HHc hcs HH HA hlt hbw hb' hbb hP
    rcases HGo with ⟨j, tt, hj, rfl, h3, h4⟩ | rfl | ⟨t, ht, rfl⟩ | ⟨c, hc, rfl⟩
    · have r1 : WC.cell? ⟨P, 1, none⟩ = some (.int .i64 (tt : Int)) := HRC.out 1 _ rfl; obtain ⟨td, htd⟩ : ∃ td, td = s.told := ⟨_, rfl⟩; have HGI := hid (show ∀ (u : World), Below WC.heap.size WC u → ∀ (q : Bool) (n : Nat), (if q = true then (tt : Int) else (s.pc : Int) + 1) = (n : Int) → Calls Tryz.prog 47 #[.pointer (some ⟨b, 0, none⟩), .bool q, .int .i64 tt] u (fun e w' => (∃ v, e = .returned v) ∧ (RnB w' b o (.slice (some ⟨bb, oo, none⟩) L.length cap) ⟨s.c, n, s.done + 1, s.told⟩ ∧ Below w0.heap.size w0 w') ∧ w'.cell? ⟨b, 12, none⟩ = some (.bool s.told) ∧ w'.cell? ⟨P, 1, none⟩ = some (.int .i64 (tt : Int))) from fun u hu q n h => (jeV b o (.slice (some ⟨bb, oo, none⟩) L.length cap) a k s.c ((s.pc : Int) + 1) ((s.done : Int) + 1) s.told q (tt : Int) u (jL hu HHC.out)).mono fun e w' hg => ⟨hg.1, hg.stp (s := ⟨s.c, n, s.done + 1, s.told⟩) (jeL HAC.out hu) HN.out (HBC.out.trans (hu.mono HBC.out.size)) hb0 rfl h (by simp) rfl, (bx13 hg.2.1).2.2.2.2.2.2.2.2.2.2.2.2, by have e1 := (hg.2.2.1.block P (by have := hu.size; omega) hPb).trans (hu.block P hPs); have h := r1; simp only [World.cell?] at h ⊢; rw [e1]; exact h⟩); obtain ⟨c0, c1, c2, c3, c4, c5, c6, c7, c8, c9, c10, c11, c12⟩ := bx13 HHC.out; rw [← htd] at c12; have HTD := hid htd; clear hT hD c1 c2 c3 c4 c5 c6 c7 c8 c9 HHC HAC htd
      rcases hj with rfl | rfl | rfl
      · have r0 : WC.cell? ⟨P, 0, none⟩ = some (.int .i64 3) := HRC.out 0 _ rfl; have HRU := hid (show ze o L.length s (zk 3 tt) = ⟨s.c, if s.told = true then tt else s.pc + 1, s.done + 1, s.told⟩ from rfl); rw [← HTD.out] at HRU; have HQ := hid (show (if td = true then (tt : Int) else (s.pc : Int) + 1) = ((if td = true then tt else s.pc + 1 : Nat) : Int) by cases td <;> simp); go_wp2_with fail
        go_region_held3 (fun w' => w'.cell? ⟨b, 12, none⟩ = some (.bool td) ∧ w'.cell? ⟨P, 1, none⟩ = some (.int .i64 (tt : Int))) (first | go_keep) ((go_at_call 47; (with_reducible refine (HGI.out _ (Below.refl _ _).drew td (if td = true then tt else s.pc + 1) (HQ.out)).mono ?_); rintro e w4 ⟨⟨v, rfl⟩, hr4, hm4, hn4⟩; rw [← HTD.out] at hm4; have HR4 := hid hr4; clear hr4))
        all_goals
          go_wp2; go_end0; exact ⟨⟨_, rfl⟩, by rw [HRU.out, HTD.out]; rw [HTD.out] at HR4; exact HR4.out.1, HR4.out.2⟩
      · have r0 : WC.cell? ⟨P, 0, none⟩ = some (.int .i64 4) := HRC.out 0 _ rfl; have HRU := hid (show ze o L.length s (zk 4 tt) = ⟨s.c, if s.told = true then s.pc + 1 else tt, s.done + 1, s.told⟩ from rfl); rw [← HTD.out] at HRU; have HQ := hid (show (if (!td) = true then (tt : Int) else (s.pc : Int) + 1) = ((if td = true then s.pc + 1 else tt : Nat) : Int) by cases td <;> simp); go_wp2_with fail
        go_region_held3 (fun w' => w'.cell? ⟨b, 12, none⟩ = some (.bool td) ∧ w'.cell? ⟨P, 1, none⟩ = some (.int .i64 (tt : Int))) (first | go_keep) ((go_at_call 47; (with_reducible refine (HGI.out _ (Below.refl _ _).drew (!td) (if td = true then s.pc + 1 else tt) (HQ.out)).mono ?_); rintro e w4 ⟨⟨v, rfl⟩, hr4, hm4, hn4⟩; rw [← HTD.out] at hm4; have HR4 := hid hr4; clear hr4))
        all_goals
          go_wp2; go_end0; exact ⟨⟨_, rfl⟩, by rw [HRU.out, HTD.out]; rw [HTD.out] at HR4; exact HR4.out.1, HR4.out.2⟩
      · have r0 : WC.cell? ⟨P, 0, none⟩ = some (.int .i64 5) := HRC.out 0 _ rfl; have HRU := hid (show ze o L.length s (zk 5 tt) = ⟨s.c, tt, s.done + 1, s.told⟩ from rfl); go_wp2_with fail; refine (HGI.out _ (Below.refl _ _) true tt rfl).mono ?_; rintro e w4 ⟨⟨v, rfl⟩, hr4, _, _⟩; have HR4 := hid hr4; clear hr4; simp only; go_wp2; go_end0; exact ⟨⟨_, rfl⟩, by rw [HRU.out]; exact HR4.out.1, HR4.out.2⟩
    · have r0 : WC.cell? ⟨P, 0, none⟩ = some (.int .i64 2) := by
        obtain ⟨_, _, _, _, _, _, _, _, rfl, _⟩ := jO hT; exact HRC.out 0 _ rfl
      obtain ⟨c0, c1, c2, c3, c4, c5, c6, c7, c8, c9, c10, c11, c12⟩ := bx13 HHC.out; have g12 := jz HHC.out 12; have HEND := hid (show StpR w0 b o (.slice (some ⟨bb, oo, none⟩) L.length cap) (ze o L.length s jaa) (.returned (.tuple #[])) (WC.setCell ⟨b, 12, none⟩ (.bool (!s.told))) from ⟨⟨_, rfl⟩, ⟨a, k, by have h := heap_setCell_same WC b 12 _ _ (.bool (!s.told)) HHC.out; simpa [ze, jaa] using h, zT _ HAC.out rfl, HN.out⟩, HBC.out.setCell hb0 _⟩); clear hT hD; go_wp2; go_end0; exact ⟨⟨_, rfl⟩, HEND.out.2⟩
    · obtain ⟨an, cn, ak, ck, at', ct, mm, hm1, rfl, hm2⟩ := jO (t := qH t) hT; clear hm1 hm2; obtain ⟨_, hNT, htn⟩ := ht; have hNB : NT (qH t) := by
        obtain ⟨k, m, p, nm, ky, ov, li, ts⟩ := t; have htn' : ts = [] := htn; subst htn'; exact hNT
      have HASK := hid (fun (u : World) (hu : Below WC.heap.size WC u) => jgU 0 (by omega) (qH t) o HJ.out an ak at' cn ck ct u (HW.out.next (HBC.out.trans (hu.mono HBC.out.size))) (maxLenCell_below HM.out (HBC.out.trans (hu.mono HBC.out.size))) (TstM.next HTM.out hu) hNB (by have := jfm 1 1 (qH t) _ HTM.out (hNB 1).2; have h16 : bndT 1 = 16 := rfl; show (jD 1 (qH t)).length ≤ 390; omega)); obtain ⟨tl, htl⟩ : ∃ tl, tl = ju o 1 (qH t) := ⟨_, rfl⟩; have HRU := hid (show ze o L.length s (askO t) = ⟨s.c, s.pc + 1, s.done + 1, tl⟩ by rw [htl]; rfl); have r0 : WC.cell? ⟨P, 0, none⟩ = some (.int .i64 1) := HRC.out 0 _ rfl; have r2 : WC.cell? ⟨P, 2, none⟩ = some (.int .i64 t.kind) := HRC.out 2 _ rfl; have r3 : WC.cell? ⟨P, 3, none⟩ = some (.int .i64 t.mat) := HRC.out 3 _ rfl; have r4 : WC.cell? ⟨P, 4, none⟩ = some (.int .i64 t.part) := HRC.out 4 _ rfl; have r5 : WC.cell? ⟨P, 5, none⟩ = some (.slice an t.names.length cn) := HRC.out 5 _ rfl; have r6 : WC.cell? ⟨P, 6, none⟩ = some (.slice ak t.keys.length ck) := HRC.out 6 _ rfl; have r7 : WC.cell? ⟨P, 7, none⟩ = some (.bool t.over) := HRC.out 7 _ rfl; have r8 : WC.cell? ⟨P, 8, none⟩ = some (.int .i64 t.limit) := HRC.out 8 _ rfl; have r9 : WC.cell? ⟨P, 9, none⟩ = some (.slice at' 0 ct) := HRC.out 9 _ rfl; have HAK := hid (fun (u : World) (hu : Below WC.heap.size WC u) => show Calls Tryz.prog 14 #[.agg #[.int .i64 t.kind, .int .i64 t.mat, .int .i64 t.part, .slice an t.names.length cn, .slice ak t.keys.length ck, .bool t.over, .int .i64 t.limit, .slice at' 0 ct], .agg #[.string (S o.fl), .string (S o.fd), .string (S o.tl), .string (S o.td), .string (S o.tx)]] u (fun e w' => e = .returned (.tuple #[.bool tl, .int .i64 0]) ∧ Below u.heap.size u w') by rw [htl]; exact HASK.out u hu); obtain ⟨c0, c1, c2, c3, c4, c5, c6, c7, c8, c9, c10, c11, c12⟩ := bx13 HHC.out; clear hT hD c6 c7 c8 c9 c10 c11 HASK htl hNB hNT htn; go_wp2_with fail
      go_region_held3 (fun w' => w'.cell? ⟨b, 1, none⟩ = some (.string (S o.fl)) ∧ w'.cell? ⟨b, 2, none⟩ = some (.string (S o.fd)) ∧ w'.cell? ⟨b, 3, none⟩ = some (.string (S o.tl)) ∧ w'.cell? ⟨b, 4, none⟩ = some (.string (S o.td)) ∧ w'.cell? ⟨b, 5, none⟩ = some (.string (S o.tx)) ∧ w'.cell? ⟨P, 2, none⟩ = some (.int .i64 t.kind) ∧ w'.cell? ⟨P, 3, none⟩ = some (.int .i64 t.mat) ∧ w'.cell? ⟨P, 4, none⟩ = some (.int .i64 t.part) ∧ w'.cell? ⟨P, 5, none⟩ = some (.slice an t.names.length cn) ∧ w'.cell? ⟨P, 6, none⟩ = some (.slice ak t.keys.length ck) ∧ w'.cell? ⟨P, 7, none⟩ = some (.bool t.over) ∧ w'.cell? ⟨P, 8, none⟩ = some (.int .i64 t.limit) ∧ w'.cell? ⟨P, 9, none⟩ = some (.slice at' 0 ct)) (first | go_keep | (refine ⟨?_, ?_, ?_, ?_, ?_, ?_, ?_, ?_, ?_, ?_, ?_, ?_, ?_⟩ <;> first | exact jkT (by assumption) (by decide) | exact jh (by assumption) hPb)) ((go_at_call 14; (with_reducible refine (HAK.out _ (Below.refl _ _).drew).mono ?_); rintro e w4 ⟨rfl, hb4⟩; have HB4 := hid (show Below WC.heap.size WC w4 from ((Below.refl _ _).drew).trans hb4); have hH4 := jL HB4.out HHC.out; have d1 := (bx13 hH4).2.1; have d2 := (bx13 hH4).2.2.1; have d3 := (bx13 hH4).2.2.2.1; have d4 := (bx13 hH4).2.2.2.2.1; have d5 := (bx13 hH4).2.2.2.2.2.1; have e12 := (bx13 hH4).2.2.2.2.2.2.2.2.2.2.2.2; have g12 := jz hH4 12; have p2 := jk HB4.out (Nat.le_refl _) r2; have p3 := jk HB4.out (Nat.le_refl _) r3; have p4 := jk HB4.out (Nat.le_refl _) r4; have p5 := jk HB4.out (Nat.le_refl _) r5; have p6 := jk HB4.out (Nat.le_refl _) r6; have p7 := jk HB4.out (Nat.le_refl _) r7; have p8 := jk HB4.out (Nat.le_refl _) r8; have p9 := jk HB4.out (Nat.le_refl _) r9; have HH4 := hid hH4; clear hb4 hH4))
      all_goals
        have HEND := hid (show StpR w0 b o (.slice (some ⟨bb, oo, none⟩) L.length cap) (ze o L.length s (askO t)) (.returned (.tuple #[])) (w4.setCell ⟨b, 12, none⟩ (.bool tl)) from ⟨⟨_, rfl⟩, ⟨a, k, by have h := heap_setCell_same w4 b 12 _ _ (.bool tl) HH4.out; rw [HRU.out]; simpa using h, zT _ (jeL HAC.out HB4.out) rfl, HN.out⟩, (HBC.out.trans (HB4.out.mono HBC.out.size)).setCell hb0 _⟩); go_wp2; go_end0; exact ⟨⟨_, rfl⟩, HEND.out.2⟩
    · obtain ⟨_, _, _, _, _, _, _, hm1, rfl, hm2⟩ := jO hT; clear hm1 hm2; obtain ⟨ax, cx, bn, dn, bk, dk, bt, dt, aa, ca, ae, ce, _, hm1, rfl, hm2⟩ := zh (c := qG c) hD; clear hm1 hm2; obtain ⟨hcf, hmd, hsh⟩ := hc; have hac : AtnsM anyB WC (.slice a s.c.acts.length k) s.c.acts := RowM.imp HAC.out (fun _ _ => trivial) (Keeps.refl _ _) fun _ _ h => h
      obtain ⟨rr, hrr⟩ : ∃ rr, rr = doP s.c (qG c) := ⟨_, rfl⟩; have HDO := hid (fun (u : World) (hu : Below WC.heap.size WC u) => show Calls Tryz.prog 48 #[.agg #[.slice a s.c.acts.length k, .int .i64 s.c.flags, .bool s.c.asked, .int .i64 s.c.fault], .agg #[.int .i64 c.kind, .slice ax c.texts.length cx, .int .i64 0, .int .i64 0, .int .i64 0, .slice bn 0 dn, .slice bk 0 dk, .bool false, .int .i64 0, .slice bt 0 dt, .slice aa 0 ca, .slice ae 0 ce]] u (DoR u rr) by
        have h := jmS 0 s.c a k (qG c) ax bn bk bt aa ae cx dn dk dt ca ce u (HW.out.next (HBC.out.trans (hu.mono HBC.out.size))) (AtnsM.next hac hu) HN.out (by have := HK.out.crs.1; omega) HK.out.crs.2.1 HK.out.crs.2.2 (CmdM.next HDM.out hu) hmd hsh hcf.2.1; rw [show jfY s.c (qG c) = rr by unfold jfY; rw [if_neg (by rw [HF.out]; decide), hrr]] at h; exact h)
      have HRU := hid (show ze o L.length s (doO c) = ⟨rr.1, if rr.2 = true then L.length else s.pc + 1, s.done + 1, s.told⟩ by rw [hrr]; rfl); have r0 : WC.cell? ⟨P, 0, none⟩ = some (.int .i64 6) := HRC.out 0 _ rfl; have r10 : WC.cell? ⟨P, 10, none⟩ = some (.int .i64 c.kind) := HRC.out 10 _ rfl; have r11 : WC.cell? ⟨P, 11, none⟩ = some (.slice ax c.texts.length cx) := HRC.out 11 _ rfl; have r12 : WC.cell? ⟨P, 12, none⟩ = some (.int .i64 0) := HRC.out 12 _ rfl; have r13 : WC.cell? ⟨P, 13, none⟩ = some (.int .i64 0) := HRC.out 13 _ rfl; have r14 : WC.cell? ⟨P, 14, none⟩ = some (.int .i64 0) := HRC.out 14 _ rfl; have r15 : WC.cell? ⟨P, 15, none⟩ = some (.slice bn 0 dn) := HRC.out 15 _ rfl; have r16 : WC.cell? ⟨P, 16, none⟩ = some (.slice bk 0 dk) := HRC.out 16 _ rfl; have r17 : WC.cell? ⟨P, 17, none⟩ = some (.bool false) := HRC.out 17 _ rfl; have r18 : WC.cell? ⟨P, 18, none⟩ = some (.int .i64 0) := HRC.out 18 _ rfl; have r19 : WC.cell? ⟨P, 19, none⟩ = some (.slice bt 0 dt) := HRC.out 19 _ rfl; have r20 : WC.cell? ⟨P, 20, none⟩ = some (.slice aa 0 ca) := HRC.out 20 _ rfl; have r21 : WC.cell? ⟨P, 21, none⟩ = some (.slice ae 0 ce) := HRC.out 21 _ rfl; obtain ⟨c0, c1, c2, c3, c4, c5, c6, c7, c8, c9, c10, c11, c12⟩ := bx13 HHC.out; clear hT hD c1 c2 c3 c4 c5 c10 c11 c12 hrr hac hcf hmd hsh; go_wp2_with fail; have hbW : b ≠ WC.heap.size := by have := (Array.getElem?_eq_some_iff.1 HHC.out).1; omega
      have hPW : P ≠ WC.heap.size := by omega
      have hbW' : b < WC.heap.size := (Array.getElem?_eq_some_iff.1 HHC.out).1
      go_cut [3, 4] (fun p g wx => StpD WC rr p g wx)
      case first =>
        go_region_held3 (fun w' => w'.cell? ⟨b, 6, none⟩ = some (.slice a s.c.acts.length k) ∧ w'.cell? ⟨b, 7, none⟩ = some (.int .i64 s.c.flags) ∧ w'.cell? ⟨b, 8, none⟩ = some (.bool s.c.asked) ∧ w'.cell? ⟨b, 9, none⟩ = some (.int .i64 s.c.fault) ∧ w'.cell? ⟨P, 10, none⟩ = some (.int .i64 c.kind) ∧ w'.cell? ⟨P, 11, none⟩ = some (.slice ax c.texts.length cx) ∧ w'.cell? ⟨P, 12, none⟩ = some (.int .i64 0) ∧ w'.cell? ⟨P, 13, none⟩ = some (.int .i64 0) ∧ w'.cell? ⟨P, 14, none⟩ = some (.int .i64 0) ∧ w'.cell? ⟨P, 15, none⟩ = some (.slice bn 0 dn) ∧ w'.cell? ⟨P, 16, none⟩ = some (.slice bk 0 dk) ∧ w'.cell? ⟨P, 17, none⟩ = some (.bool false) ∧ w'.cell? ⟨P, 18, none⟩ = some (.int .i64 0) ∧ w'.cell? ⟨P, 19, none⟩ = some (.slice bt 0 dt) ∧ w'.cell? ⟨P, 20, none⟩ = some (.slice aa 0 ca) ∧ w'.cell? ⟨P, 21, none⟩ = some (.slice ae 0 ce)) (first | go_keep | (refine ⟨?_, ?_, ?_, ?_, ?_, ?_, ?_, ?_, ?_, ?_, ?_, ?_, ?_, ?_, ?_, ?_⟩ <;> exact jh (jh (jh (jh (by assumption) (by assumption)) (by assumption)) (by assumption)) (by assumption)))
          (first
        | (go_at_call 48
           with_reducible refine (HDO.out _ (Below.refl WC.heap.size WC).drew).mono ?_
           rintro e w4 ⟨a5, k5, he, hA5, hn5, hb4⟩; have he' : e = .returned (.tuple #[.agg #[.slice a5 rr.1.acts.length k5, .int .i64 rr.1.flags, .bool rr.1.asked, .int .i64 rr.1.fault], .bool (!rr.2), .int .i64 0]) := he; subst he'; have HB4 := hid (show Below WC.heap.size WC w4 from ((Below.refl WC.heap.size WC).drew).trans hb4); have hH4 := jL HB4.out HHC.out; have d6 := (bx13 hH4).2.2.2.2.2.2.1; have d7 := (bx13 hH4).2.2.2.2.2.2.2.1; have d8 := (bx13 hH4).2.2.2.2.2.2.2.2.1; have d9 := (bx13 hH4).2.2.2.2.2.2.2.2.2.1; have p10 := jk HB4.out (Nat.le_refl _) r10; have p11 := jk HB4.out (Nat.le_refl _) r11; have p12 := jk HB4.out (Nat.le_refl _) r12; have p13 := jk HB4.out (Nat.le_refl _) r13; have p14 := jk HB4.out (Nat.le_refl _) r14; have p15 := jk HB4.out (Nat.le_refl _) r15; have p16 := jk HB4.out (Nat.le_refl _) r16; have p17 := jk HB4.out (Nat.le_refl _) r17; have p18 := jk HB4.out (Nat.le_refl _) r18; have p19 := jk HB4.out (Nat.le_refl _) r19; have p20 := jk HB4.out (Nat.le_refl _) r20; have p21 := jk HB4.out (Nat.le_refl _) r21; have hbx : b ≠ w4.heap.size := by have := HB4.out.size; omega
           have hpx : P ≠ w4.heap.size := by have := HB4.out.size; omega
           have HA5 := hid hA5; have HN5 := hid hn5; clear hb4 hH4 hA5 hn5)
        | (go_at_call 48
           with_reducible refine (HDO.out _ ((Below.refl WC.heap.size WC).alloc (Nat.le_refl _) _).drew).mono ?_
           rintro e w4 ⟨a5, k5, he, hA5, hn5, hb4⟩; have he' : e = .returned (.tuple #[.agg #[.slice a5 rr.1.acts.length k5, .int .i64 rr.1.flags, .bool rr.1.asked, .int .i64 rr.1.fault], .bool (!rr.2), .int .i64 0]) := he; subst he'; have HB4 := hid (show Below WC.heap.size WC w4 from (((Below.refl WC.heap.size WC).alloc (Nat.le_refl _) _).drew).trans (hb4.mono (by simp [World.drew]))); have hH4 := jL HB4.out HHC.out; have d6 := (bx13 hH4).2.2.2.2.2.2.1; have d7 := (bx13 hH4).2.2.2.2.2.2.2.1; have d8 := (bx13 hH4).2.2.2.2.2.2.2.2.1; have d9 := (bx13 hH4).2.2.2.2.2.2.2.2.2.1; have p10 := jk HB4.out (Nat.le_refl _) r10; have p11 := jk HB4.out (Nat.le_refl _) r11; have p12 := jk HB4.out (Nat.le_refl _) r12; have p13 := jk HB4.out (Nat.le_refl _) r13; have p14 := jk HB4.out (Nat.le_refl _) r14; have p15 := jk HB4.out (Nat.le_refl _) r15; have p16 := jk HB4.out (Nat.le_refl _) r16; have p17 := jk HB4.out (Nat.le_refl _) r17; have p18 := jk HB4.out (Nat.le_refl _) r18; have p19 := jk HB4.out (Nat.le_refl _) r19; have p20 := jk HB4.out (Nat.le_refl _) r20; have p21 := jk HB4.out (Nat.le_refl _) r21; have hbx : b ≠ w4.heap.size := by have := HB4.out.size; omega
           have hpx : P ≠ w4.heap.size := by have := HB4.out.size; omega
           have HA5 := hid hA5; have HN5 := hid hn5; have HZ4 := hid (jx hb4 (jV (w := WC) (.cells #[.slice none 0 0, .int .i64 0, .bool false, .int .i64 0] 42) rfl)); have hz4 := HZ4.out; have z0 := je (j := 0) hz4 rfl; have z1 := je (j := 1) hz4 rfl; have z2 := je (j := 2) hz4 rfl; have z3 := je (j := 3) hz4 rfl; have y0 := jz hz4 0; have y1 := jz hz4 1; have y2 := jz hz4 2; have y3 := jz hz4 3; clear hz4; clear hb4 hH4 hA5 hn5))
        all_goals
          first
            | (have HE := hid (StpD.old (W := WC) (P := WC.heap.size) (Nat.le_refl _) HZ4.out HA5.out HN5.out HB4.out)
               go_wp2_with fail
               go_meet
               exact HE.out)
            | (have HE := hid (StpD.new (W := WC) HA5.out HN5.out HB4.out)
               go_wp2_with fail
               go_meet
               exact HE.out)
      case rest =>
        obtain ⟨Q, a5, k5, rfl, rfl, hQW, hQ, hA5, hn5, hbc⟩ := hcut; have hQb : Q ≠ b := by omega
        have HHD := hid (jL hbc HHC.out); obtain ⟨rc, rb⟩ := rr; have HA5 := hid (jfE HHD.out hA5); obtain ⟨z0, z1, z2, z3⟩ := bx4 hQ; obtain ⟨d0, d1, d2, d3, d4, d5, d6, d7, d8, d9, d10, d11, d12⟩ := bx13 HHD.out; clear d1 d2 d3 d4 d5 d10 d11 d12; have g6 := jz HHD.out 6; have g7 := jz HHD.out 7; have g8 := jz HHD.out 8; have g9 := jz HHD.out 9; obtain ⟨WD, hWD⟩ : ∃ WD, WD = (((wc.setCell ⟨b, 6, none⟩ (.slice a5 rc.acts.length k5)).setCell ⟨b, 7, none⟩ (.int .i64 rc.flags)).setCell ⟨b, 8, none⟩ (.bool rc.asked)).setCell ⟨b, 9, none⟩ (.int .i64 rc.fault) := ⟨_, rfl⟩; have HWD := hid hWD; have HHE := hid (show WD.heap[b]? = some (.cells (rnL o (.slice (some ⟨bb, oo, none⟩) L.length cap) a5 k5 rc ((s.pc : Int) + 1) ((s.done : Int) + 1) s.told) 80) by
          have h1 := heap_setCell_same wc b 6 _ _ (.slice a5 rc.acts.length k5) HHD.out; have h2 := heap_setCell_same _ b 7 _ _ (.int .i64 rc.flags) h1; have h3 := heap_setCell_same _ b 8 _ _ (.bool rc.asked) h2; have h4 := heap_setCell_same _ b 9 _ _ (.int .i64 rc.fault) h3; rw [hWD]; simpa using h4)
        have HBE := hid (show Below w0.heap.size w0 WD by rw [hWD]; exact ((((HBC.out.trans (hbc.mono HBC.out.size)).setCell hb0 _).setCell hb0 _).setCell hb0 _).setCell hb0 _); have HAE := hid (show AtnsM (fun q => q ≠ b) WD (.slice a5 rc.acts.length k5) rc.acts by rw [hWD]; exact zT _ (zT _ (zT _ (zT _ HA5.out rfl) rfl) rfl) rfl); have HGI := hid (show Calls Tryz.prog 47 #[.pointer (some ⟨b, 0, none⟩), .bool rb, .int .i64 (L.length : Int)] WD (fun e w' => (∃ v, e = .returned v) ∧ (RnB w' b o (.slice (some ⟨bb, oo, none⟩) L.length cap) ⟨rc, if rb = true then L.length else s.pc + 1, s.done + 1, s.told⟩ ∧ Below w0.heap.size w0 w')) from (jeV b o (.slice (some ⟨bb, oo, none⟩) L.length cap) a5 k5 rc ((s.pc : Int) + 1) ((s.done : Int) + 1) s.told rb (L.length : Int) WD HHE.out).mono fun e w' hg => ⟨hg.1, hg.stp (s := ⟨rc, if rb = true then L.length else s.pc + 1, s.done + 1, s.told⟩) HAE.out hn5 HBE.out hb0 rfl (by cases rb <;> simp) (by simp) rfl⟩); obtain ⟨e0, _⟩ := bx13 HHE.out; clear hQ hA5 hn5 hbc hWD; go_upto_region 17 with fail
        rw [← HWD.out]; go_wp2_with fail; refine HGI.out.mono ?_; rintro e w6 ⟨⟨v, rfl⟩, hr6⟩; have HR6 := hid hr6; clear hr6; simp only; go_wp2; go_end0; exact ⟨⟨_, rfl⟩, by rw [HRU.out]; exact HR6.out.1, HR6.out.2⟩
theorem jlk {w : World} {P b : Nat} {u0 u1 u2 u3 v6 v7 v8 v9 v11 : Value} (h : b ≠ P) (m6 : w.cell? ⟨b, 6, none⟩ = some v6) (m7 : w.cell? ⟨b, 7, none⟩ = some v7) (m8 : w.cell? ⟨b, 8, none⟩ = some v8) (m9 : w.cell? ⟨b, 9, none⟩ = some v9) (m11 : w.cell? ⟨b, 11, none⟩ = some v11) :
    ((((w.setCell ⟨P, 0, none⟩ u0).setCell ⟨P, 1, none⟩ u1).setCell ⟨P, 2, none⟩ u2).setCell ⟨P, 3, none⟩ u3).cell? ⟨b, 6, none⟩ = some v6 ∧ ((((w.setCell ⟨P, 0, none⟩ u0).setCell ⟨P, 1, none⟩ u1).setCell ⟨P, 2, none⟩ u2).setCell ⟨P, 3, none⟩ u3).cell? ⟨b, 7, none⟩ = some v7 ∧ ((((w.setCell ⟨P, 0, none⟩ u0).setCell ⟨P, 1, none⟩ u1).setCell ⟨P, 2, none⟩ u2).setCell ⟨P, 3, none⟩ u3).cell? ⟨b, 8, none⟩ = some v8 ∧ ((((w.setCell ⟨P, 0, none⟩ u0).setCell ⟨P, 1, none⟩ u1).setCell ⟨P, 2, none⟩ u2).setCell ⟨P, 3, none⟩ u3).cell? ⟨b, 9, none⟩ = some v9 ∧ ((((w.setCell ⟨P, 0, none⟩ u0).setCell ⟨P, 1, none⟩ u1).setCell ⟨P, 2, none⟩ u2).setCell ⟨P, 3, none⟩ u3).cell? ⟨b, 11, none⟩ = some v11 := by
  refine ⟨?_, ?_, ?_, ?_, ?_⟩ <;> exact jh (jh (jh (jh (by assumption) h) h) h) h
theorem jj3 {o : Opn} {L : List Opr} {j : Nat} {s s0 : Rn} {x : Opr} (hs : s = runN o L j s0) (hx : L[s.pc]? = some x) : ze o L.length s x = runN o L (j + 1) s0 := by
  rw [jaQ, ← hs]
  show _ = zm o L s
  unfold zm; rw [hx]
def pcW (b : Nat) (w : World) : Nat := match w.cell? ⟨b, 10, none⟩ with
  | some (.int _ n) => n.toNat
  | _ => 0
set_option maxHeartbeats 2000000 in
set_option maxRecDepth 100000 in
theorem jl5 (o : Opn) (L : List Opr) (bb oo cap : Nat) (w : World) (hw : Tabs w) (hm : maxLenCell w) (hj : vU o) (hl : L.length ≤ 400) (hO : OpsM anyB w (.slice (some ⟨bb, oo, none⟩) L.length cap) L) (hG : AllGood RT RC 0 L.length L) :
    Calls Tryz.prog 8 #[.slice (some ⟨bb, oo, none⟩) L.length cap, .agg #[.string (S o.fl), .string (S o.fd), .string (S o.tl), .string (S o.td), .string (S o.tx)]] w (RunP o L w) := by
  obtain ⟨W0, hW0⟩ : ∃ W0, W0 = (w.alloc (.cells #[.string (S o.fl), .string (S o.fd), .string (S o.tl), .string (S o.td), .string (S o.tx)] 31)).alloc (.cells #[.slice none 0 0, .int .i64 0, .bool false, .int .i64 0] 42) := ⟨_, rfl⟩; have HWE := hid hW0; have HB0 := hid (show Below w.heap.size w W0 by rw [hW0]; exact ((Below.refl _ _).alloc (Nat.le_refl _) _).alloc (by simp) _); have HL0 := hid (show W0.heap[w.heap.size]? = some (.cells #[.string (S o.fl), .string (S o.fd), .string (S o.tl), .string (S o.td), .string (S o.tx)] 31) by rw [hW0]; exact qf _ (jV _ rfl)); have HR0 := hid (show W0.heap[w.heap.size + 1]? = some (.cells #[.slice none 0 0, .int .i64 0, .bool false, .int .i64 0] 42) by rw [hW0]; exact jV _ (by simp)); have HCK := hid (jfM L bb oo cap W0 hl (RowM.imp hO (fun _ h => h) (Keeps.of_below HB0.out) fun _ _ h => qD _ _ _ _ _ _ (fun _ h => h) (Keeps.of_below HB0.out) h) (jlx L W0 (hw.next HB0.out) hG.fine)); have HW := hid hw; have HM := hid hm; have HJ := hid hj; have HO := hid hO; have HG := hid hG; clear hw hm hj hO hG hW0; go_enter Tryz.func8, Tryz.ntmps8; go_wp2_with fail; rw [← HWE.out]; refine HCK.out.mono ?_; rintro e w1 ⟨rfl, hb1⟩; simp only; have HB1 := hid (HB0.out.trans (hb1.mono HB0.out.size)); have hL1 := jx hb1 HL0.out; have HR1 := hid (jx hb1 HR0.out); obtain ⟨l0, l1, l2, l3, l4⟩ := bx5 hL1; have HL1 := hid hL1; have HC := hid (show Calls Tryz.prog 24 #[.agg #[.string (S o.fl), .string (S o.fd), .string (S o.tl), .string (S o.td), .string (S o.tx)]] w1 (MsgN w1 (o.fs, o.body, 0)) by
    obtain ⟨⟨⟨s1, s2, s3, s4⟩, _⟩, s5, _⟩ := jbO HJ.out; have := jcr (S o.fl) (S o.fd) (S o.tl) (S o.td) (S o.tx) w1 (by rw [jt]; omega) (by rw [jt]; omega) (by rw [jt]; omega) (by rw [jt]; omega) (by rw [jt]; unfold maxLen; omega) (maxLenCell_below HM.out HB1.out); rw [jp, jp, jp, jp, jp, show jaW o.fl o.fd o.tl o.td o.tx = (o.fs, o.body, 0) from HJ.out] at this; exact this)
  clear hb1 hL1 HWE HCK; go_wp2_with fail; refine HC.out.mono ?_; rintro e w2 ⟨fa, fc, he, _, _, hb2⟩; rw [show e = .returned (.tuple #[.agg #[.slice fa o.fs.length fc, .string (S o.body)], .int .i64 0]) from he]; simp only; obtain ⟨W3, hW3⟩ : ∃ W3, W3 = w2.alloc (.cells #[.slice fa o.fs.length fc, .string (S o.body)] 65) := ⟨_, rfl⟩; have HB2 := hid (HB1.out.trans (hb2.mono HB1.out.size)); have HA3 := hid (show Below w2.heap.size w2 W3 by rw [hW3]; exact (Below.refl _ _).alloc (Nat.le_refl _) _); have HWE3 := hid hW3; have HR2 := hid (jx hb2 HR1.out); have HR3 := hid (jx HA3.out HR2.out); have HL3 := hid (jx HA3.out (jx hb2 HL1.out)); clear l0 l1 l2 l3 l4; obtain ⟨l0, l1, l2, l3, l4⟩ := bx5 HL3.out; obtain ⟨W4, hW4⟩ : ∃ W4, W4 = W3.alloc (.cells (rnL o (.slice (some ⟨bb, oo, none⟩) L.length cap) none 0 newC 0 0 false) 80) := ⟨_, rfl⟩; have hW4' : W4 = W3.alloc (.cells #[.slice (some ⟨bb, oo, none⟩) L.length cap, .string (S o.fl), .string (S o.fd), .string (S o.tl), .string (S o.td), .string (S o.tx), .slice none 0 0, .int .i64 0, .bool false, .int .i64 0, .int .i64 0, .int .i64 0, .bool false] 80) := hW4; have HWE4 := hid hW4'; have HA4 := hid (show Below w2.heap.size w2 W4 by rw [hW4]; exact HA3.out.alloc HA3.out.size _); obtain ⟨b, hb⟩ : ∃ b, b = W3.heap.size := ⟨_, rfl⟩; have hbw : w2.heap.size ≤ b := by rw [hb]; exact HA3.out.size
  have HRn := hid (show RnB W4 b o (.slice (some ⟨bb, oo, none⟩) L.length cap) ⟨newC, 0, 0, false⟩ from ⟨none, 0, by rw [hW4, hb]; exact jV _ rfl, jj _ _ _ _ _ _, fun _ => ⟨rfl, rfl⟩⟩); have HO2 := hid (show OpsM anyB w2 (.slice (some ⟨bb, oo, none⟩) L.length cap) L from RowM.imp HO.out (fun _ h => h) (Keeps.of_below HB2.out) fun _ _ h => qD _ _ _ _ _ _ (fun _ h => h) (Keeps.of_below HB2.out) h); have HST := hid (fun (s : Rn) (x : Opr) (u : World) (h1 : Below w2.heap.size w2 u) (h2 : RnB u b o (.slice (some ⟨bb, oo, none⟩) L.length cap) s) (h3 : RnOk L s) (h4 : L[s.pc]? = some x) => jik o L bb oo cap w2 b s x u (HW.out.next HB2.out) (maxLenCell_below HM.out HB2.out) HJ.out hl HO2.out hbw h1 h2 h3 h4 (by have := HG.out s.pc x h4; rwa [Nat.zero_add] at this)); have HBE := hid hb; have hrb : w.heap.size + 1 < w2.heap.size := (Array.getElem?_eq_some_iff.1 HR2.out).1; clear he hb2 hW3 hW4 hW4' HC hb; go_upto_region 7 with fail
  rw [← HWE3.out]; go_wp2_with fail; rw [← HWE4.out, ← HBE.out]
  go_loopw [] (fun wr => ∃ (j : Nat) (s : Rn), Hid (s = runN o L j ⟨newC, 0, 0, false⟩) ∧ Hid (RnOk L s) ∧ Hid (RnB wr b o (.slice (some ⟨bb, oo, none⟩) L.length cap) s) ∧ Hid (Below w2.heap.size w2 wr)) (fun wr => L.length - pcW b wr)
  case atStart => exact ⟨0, _, hid rfl, hid (jmK L), HRn, HA4⟩
  case round =>
    obtain ⟨j, s, HS, HK, HR, HI⟩ := hrel; obtain ⟨a, k, hb, hA, hn⟩ := HR.out; obtain ⟨q0, q1, q2, q3, q4, q5, q6, q7, q8, q9, q10, q11, q12⟩ := bx13 hb; have HPW := hid (show pcW b wr = s.pc by unfold pcW; rw [q10]; simp)
    by_cases hlt : s.pc < L.length
    · have i1 : (s.pc : Int) < (L.length : Int) := by omega
      obtain ⟨x, hx⟩ : ∃ x, L[s.pc]? = some x := ⟨_, List.getElem?_eq_getElem hlt⟩; have HSTP := hid (HST.out s x wr HI.out HR.out HK.out hx); obtain ⟨hk2, hp2⟩ := HK.out.next (o := o) HG.out hx; have HK2 := hid hk2; have HRU := hid (jj3 HS.out hx); obtain ⟨s2, hs2⟩ : ∃ s2, s2 = ze o L.length s x := ⟨_, rfl⟩; rw [← hs2] at HSTP HK2 hp2 HRU; have HP2 := hid hp2; have HL := hid hlt; clear hb hA hn hx hk2 hp2 hs2 hlt; go_wp2_with fail; refine HSTP.out.mono ?_; rintro e wr2 ⟨⟨v, rfl⟩, hR2, hI2⟩; have HR2 := hid hR2; have HI2 := hid hI2; have HPW2 := hid (show pcW b wr2 = s2.pc by
        obtain ⟨a, k, hb, _, _⟩ := hR2; unfold pcW; rw [(bx13 hb).2.2.2.2.2.2.2.2.2.2.1]; simp)
      clear hR2 hI2; go_wp2
      go_roundw
      case rel => exact ⟨j + 1, s2, HRU, HK2, HR2, HI2⟩
      case measure => rw [HPW.out, HPW2.out]; have := HP2.out; have := HL.out; omega
    · have i1 : ¬ (s.pc : Int) < (L.length : Int) := by omega
      have HRc := hid (jx HI.out HR2.out); have hRc := HRc.out; obtain ⟨z0, z1, z2, z3⟩ := bx4 hRc; have y0 := jz hRc 0; have y1 := jz hRc 1; have y2 := jz hRc 2; have y3 := jz hRc 3; obtain ⟨WE, hWE⟩ : ∃ WE, WE = ((((wr.setCell ⟨w.heap.size + 1, 0, none⟩ (.slice a s.c.acts.length k)).setCell ⟨w.heap.size + 1, 1, none⟩ (.int .i64 s.c.flags)).setCell ⟨w.heap.size + 1, 2, none⟩ (.bool s.c.asked)).setCell ⟨w.heap.size + 1, 3, none⟩ (.int .i64 s.c.fault)) := ⟨_, rfl⟩; have HAY := hid (show AtnsM anyB WE (.slice a s.c.acts.length k) s.c.acts by rw [hWE]; exact jbB (vZ hRc (RowM.imp hA (fun _ _ => trivial) (Keeps.refl _ _) fun _ _ h => h))); have HBY := hid (show Below w.heap.size w WE by rw [hWE]; exact (((((HB2.out.trans (HI.out.mono HB2.out.size))).setCell (show w.heap.size ≤ w.heap.size + 1 by omega) _).setCell (show w.heap.size ≤ w.heap.size + 1 by omega) _).setCell (show w.heap.size ≤ w.heap.size + 1 by omega) _).setCell (show w.heap.size ≤ w.heap.size + 1 by omega) _); have HRY := hid (show WE.heap[w.heap.size + 1]? = some (.cells #[.slice a s.c.acts.length k, .int .i64 s.c.flags, .bool s.c.asked, .int .i64 s.c.fault] 42) by rw [hWE]; exact jlc hRc); have HEND := hid (show RunP o L w (.returned (.tuple #[.agg #[.slice a s.c.acts.length k, .int .i64 s.c.flags, .bool s.c.asked, .int .i64 s.c.fault], .int .i64 s.done, .int .i64 0])) WE from ⟨j, s, a, k, HS.out, by omega, HK.out, rfl, HAY.out, hn, HBY.out⟩); have HENE := hid (show RunP o L w (.returned (.tuple #[.agg #[.slice a s.c.acts.length k, .int .i64 s.c.flags, .bool s.c.asked, .int .i64 s.c.fault], .int .i64 s.done, .int .i64 0])) WE.drew from ⟨j, s, a, k, HS.out, by omega, HK.out, rfl, RowM.imp HAY.out (fun _ h => h) ⟨Nat.le_refl _, fun _ _ _ => rfl⟩ fun _ _ h => h, hn, HBY.out.drew⟩); obtain ⟨k0, k1, k2, k3⟩ := bx4 HRY.out; have k4 : WE.drew.cell? ⟨w.heap.size + 1, 0, none⟩ = some (.slice a s.c.acts.length k) := k0; have k5 : WE.drew.cell? ⟨w.heap.size + 1, 1, none⟩ = some (.int .i64 s.c.flags) := k1; have k6 : WE.drew.cell? ⟨w.heap.size + 1, 2, none⟩ = some (.bool s.c.asked) := k2; have k7 : WE.drew.cell? ⟨w.heap.size + 1, 3, none⟩ = some (.int .i64 s.c.fault) := k3; have HA := hid hA; have HWY := hid hWE; have HKP := hid (show WE.cell? ⟨b, 6, none⟩ = some (.slice a s.c.acts.length k) ∧ WE.cell? ⟨b, 7, none⟩ = some (.int .i64 s.c.flags) ∧ WE.cell? ⟨b, 8, none⟩ = some (.bool s.c.asked) ∧ WE.cell? ⟨b, 9, none⟩ = some (.int .i64 s.c.fault) ∧ WE.cell? ⟨b, 11, none⟩ = some (.int .i64 s.done) by rw [hWE]; exact jlk (by omega) q6 q7 q8 q9 q11); clear hb hA hn hRc hWE; go_wp2_with fail
      go_region_held3 (fun w' => w'.cell? ⟨b, 6, none⟩ = some (.slice a s.c.acts.length k) ∧ w'.cell? ⟨b, 7, none⟩ = some (.int .i64 s.c.flags) ∧ w'.cell? ⟨b, 8, none⟩ = some (.bool s.c.asked) ∧ w'.cell? ⟨b, 9, none⟩ = some (.int .i64 s.c.fault) ∧ w'.cell? ⟨b, 11, none⟩ = some (.int .i64 s.done)) (first | (rw [← HWY.out]; exact HKP.out) | go_keep) (fail)
      all_goals
        go_wp2; rw [← HWY.out]; refine bodyPost_ret (v := .tuple #[.agg #[.slice a s.c.acts.length k, .int .i64 s.c.flags, .bool s.c.asked, .int .i64 s.c.fault], .int .i64 s.done, .int .i64 0]) (by simp [results, Tryz.results8, go_sem, *]) rfl ?_
        first | exact HEND.out | exact HENE.out
end Go.Proofs.YtaapmpchcfcniaaGreatDoor
namespace Go.Proofs.YtaapmpchcfcniaaGreatDoor
open Go.RowKit
def valC (n i : Nat) (c : UInt8) : UInt8 := if c = 13 ∨ c = 10 ∨ ((c = 32 ∨ c = 9) ∧ (i = 0 ∨ i + 1 = n ∨ i = 39)) then 121 else c
def valK (l : List UInt8) : Nat → List UInt8
  | 0 => []
  | k + 1 => valK l k ++ [valC l.length k (l[k]?.getD 0)]
def valL (l : List UInt8) : List UInt8 := valK l (min l.length 40)
theorem jfp (l : List UInt8) (k : Nat) : (valK l k).length = k := by
  induction k with
  | zero => rfl
  | succ k ih => simp [valK, ih]
theorem jkr (l : List UInt8) : (valL l).length ≤ 40 := by unfold valL; rw [jfp]; omega
theorem ji4 (c : UInt8) (n : Nat) (hn : n < 256) : ((c.toNat : Int) == (n : Int)) = decide (c = UInt8.ofNat n) := by
  rw [Bool.eq_iff_iff, beq_iff_eq, decide_eq_true_iff]
  constructor
  · intro h; exact UInt8.toNat_inj.1 (by rw [UInt8.toNat_ofNat_of_lt' (by simpa using hn)]; omega)
  · rintro rfl; rw [UInt8.toNat_ofNat_of_lt' (by simpa using hn)]
theorem jgI (c : UInt8) (n k : Nat) :
    (((c.toNat : Int) == 13) = true ∧ Hid (valC n k c = 121)) ∨
    (((c.toNat : Int) == 13) = false ∧ ((c.toNat : Int) == 10) = true ∧ Hid (valC n k c = 121)) ∨
    (((c.toNat : Int) == 13) = false ∧ ((c.toNat : Int) == 10) = false ∧ ((c.toNat : Int) == 32) = false ∧ ((c.toNat : Int) == 9) = false ∧ Hid (valC n k c = c)) ∨
    (((c.toNat : Int) == 13) = false ∧ ((c.toNat : Int) == 10) = false ∧ (((c.toNat : Int) == 32) = true ∨ (((c.toNat : Int) == 32) = false ∧ ((c.toNat : Int) == 9) = true)) ∧
      ((((k : Int) == 0) = true ∧ Hid (valC n k c = 121)) ∨ (((k : Int) == 0) = false ∧ ((k : Int) == (n : Int) - 1) = true ∧ Hid (valC n k c = 121)) ∨
       (((k : Int) == 0) = false ∧ ((k : Int) == (n : Int) - 1) = false ∧ ((k : Int) == 39) = true ∧ Hid (valC n k c = 121)) ∨
       (((k : Int) == 0) = false ∧ ((k : Int) == (n : Int) - 1) = false ∧ ((k : Int) == 39) = false ∧ Hid (valC n k c = c)))) := by
  have b13 := ji4 c 13 (by omega); have b10 := ji4 c 10 (by omega); have b32 := ji4 c 32 (by omega); have b9 := ji4 c 9 (by omega); simp only [Int.cast_ofNat_Int] at b13 b10 b32 b9; rw [b13, b10, b32, b9]; have e0 : ((k : Int) == 0) = decide (k = 0) := by rw [Bool.eq_iff_iff]; simp
  have e1 : ((k : Int) == (n : Int) - 1) = decide (k + 1 = n) := by rw [Bool.eq_iff_iff]; simp; omega
  have e2 : ((k : Int) == 39) = decide (k = 39) := by rw [Bool.eq_iff_iff]; simp; omega
  rw [e0, e1, e2]; unfold Hid valC; have f13 : (UInt8.ofNat 13) = 13 := rfl; have f10 : (UInt8.ofNat 10) = 10 := rfl; have f32 : (UInt8.ofNat 32) = 32 := rfl; have f9 : (UInt8.ofNat 9) = 9 := rfl; rw [f13, f10, f32, f9]
  by_cases g1 : c = 13
  · left; simp [g1]
  · by_cases g2 : c = 10
    · right; left; simp [g2]
    · by_cases g3 : c = 32
      · right; right; right
        by_cases g5 : k = 0
        · simp [g3, g5]
        · by_cases g6 : k + 1 = n
          · simp [g3, g5, g6]
          · by_cases g7 : k = 39
            · simp [g3, g7]; omega
            · simp [g3, g5, g6, g7]
      · by_cases g4 : c = 9
        · right; right; right
          by_cases g5 : k = 0
          · simp [g4, g5]
          · by_cases g6 : k + 1 = n
            · simp [g4, g5, g6]
            · by_cases g7 : k = 39
              · simp [g4, g7]; omega
              · simp [g4, g5, g6, g7]
        · right; right; left; simp [g1, g2, g3, g4]
theorem jfq (s : ByteArray) (k : Nat) (hk : k < s.size) (x : Int) (hx : ((valC s.size k s[k]).toNat : Int) = x) : vc (valK s.data.toList (k + 1)) = vc (valK s.data.toList k) ++ [.int .u8 x] := by
  have e : valK s.data.toList (k + 1) = valK s.data.toList k ++ [valC s.size k s[k]] := by
    show _ ++ [valC _ k (s.data.toList[k]?.getD 0)] = _
    rw [qA s k hk, size_list]; rfl
  rw [e]; exact jbu _ _ _ hx
set_option maxHeartbeats 4000000 in
set_option maxRecDepth 100000 in
theorem jiO (s : ByteArray) (w : World) (hs : s.size ≤ maxLen) :
    Calls Tryz.prog 33 #[.string s] w fun e w' => e = .returned (.string (S (valL s.data.toList))) ∧ Below w.heap.size w w' := by
  unfold maxLen at hs; obtain ⟨i0, hi, hz0, hz1, hz2⟩ := info_parts jkE; go_enter Tryz.func33, Tryz.ntmps33; go_wp2
  go_loopw [3, 4] (fun v i wr => ∃ k : Nat, k ≤ s.size ∧ k ≤ 40 ∧ i = .int .i64 k ∧ wr.ownsRow w.heap.size 5 1 v k (vc (valK s.data.toList k)) ∧ Below w.heap.size w wr) (fun _ i _ => 40 - (intOf i).toNat)
  case atStart => exact ⟨0, Nat.zero_le _, Nat.zero_le _, rfl, World.ownsRow_nil _ _ _ _, Below.refl _ _⟩
  case round =>
    obtain ⟨k, hk, hk8, rfl, hown, hB⟩ := hrel
    by_cases hlt : k < s.size ∧ k < 40
    · obtain ⟨hl1, hl2⟩ := hlt; have hcs := jgI s[k] s.size k
      rcases hcs with ⟨h1, HV⟩ | ⟨h1, h2, HV⟩ | ⟨h1, h2, h3, h4, HV⟩ | ⟨h1, h2, h3 | ⟨h3, h3'⟩, ⟨h4, HV⟩ | ⟨h4, h5, HV⟩ | ⟨h4, h5, h6, HV⟩ | ⟨h4, h5, h6, HV⟩⟩
      all_goals
        first
          | (have HS : Hid _ := jfq s k hl1 121 (by rw [HV.out]; rfl)
             go_wp2_with (at_builtin; refine wpList_append_own _ rfl _ _ 95 rfl w.heap.size 5 i0 (.int .u8 0) 1 1 Tryz.underlying95 hi hz0 hz1 hz2 rfl (by decide) _ _ _ rfl (hown.alloc _) ⟨wr.heap.size, 0, none⟩ 1 1 [.int .u8 121] rfl rfl (zc _ _ _) ?c2 ?c3 ?c4 ?c5 ?_)
             case c2 => intro u hu; simp at hu; subst hu; rfl
             case c3 => unfold maxLen; omega
             case c4 => omega
             case c5 => have := hB.size; simp; omega
             intro v' w2 hown' hgrow _; have hsz := hB.size; have hB2 : Below w.heap.size w w2 := (hB.alloc hsz _).grown hgrow (by simp; omega) (fun j hj => (hown.lt j hj).1); rw [← HS.out] at hown'; clear hgrow hown; go_wp2
             go_roundw
             case rel => first | exact ⟨k + 1, by omega, by omega, by go_num, hown', hB2⟩ | ((repeat apply Exists.intro); exact ⟨⟨k + 1, by omega, by omega, by go_num, hown', hB2⟩, rfl⟩) | (refine ⟨trivial, ?_⟩; (repeat apply Exists.intro); exact ⟨⟨k + 1, by omega, by omega, by go_num, hown', hB2⟩, rfl⟩)
             case measure => simp [intOf]; omega)
          | (have HS : Hid _ := jfq s k hl1 (s[k].toNat : Int) (by rw [HV.out])
             go_wp2_with (at_builtin; refine wpList_append_own _ rfl _ _ 95 rfl w.heap.size 5 i0 (.int .u8 0) 1 1 Tryz.underlying95 hi hz0 hz1 hz2 rfl (by decide) _ _ _ rfl (hown.alloc _) ⟨wr.heap.size, 0, none⟩ 1 1 [.int .u8 (s[k].toNat : Int)] rfl rfl (zc _ _ _) ?c2 ?c3 ?c4 ?c5 ?_)
             case c2 => intro u hu; simp at hu; subst hu; rfl
             case c3 => unfold maxLen; omega
             case c4 => omega
             case c5 => have := hB.size; simp; omega
             intro v' w2 hown' hgrow _; have hsz := hB.size; have hB2 : Below w.heap.size w w2 := (hB.alloc hsz _).grown hgrow (by simp; omega) (fun j hj => (hown.lt j hj).1); rw [← HS.out] at hown'; clear hgrow hown; go_wp2
             go_roundw
             case rel => first | exact ⟨k + 1, by omega, by omega, by go_num, hown', hB2⟩ | ((repeat apply Exists.intro); exact ⟨⟨k + 1, by omega, by omega, by go_num, hown', hB2⟩, rfl⟩) | (refine ⟨trivial, ?_⟩; (repeat apply Exists.intro); exact ⟨⟨k + 1, by omega, by omega, by go_num, hown', hB2⟩, rfl⟩)
             case measure => simp [intOf]; omega)
    · have HT : Hid (valL s.data.toList = valK s.data.toList k) := by
        unfold Hid valL; rw [size_list]; congr 1; omega
      have hrun := jbt hown; obtain ⟨a0, c0, rfl⟩ := jcZ hown
      by_cases h8 : k < s.size
      · have hk8' : ¬ k < 40 := fun h => hlt ⟨h8, h⟩
        go_wp2; go_ret; exact ⟨by rw [HT.out]; rfl, hB⟩
      · go_wp2; go_ret; exact ⟨by rw [HT.out]; rfl, hB⟩
set_option maxRecDepth 100000 in
theorem jkp {l : List UInt8} {k : Nat} {x : UInt8} (h : x ∈ valK l k) : ∃ i c, i < k ∧ x = valC l.length i c := by
  induction k with
  | zero => cases h
  | succ k ih =>
    rcases List.mem_append.1 h with h | h
    · obtain ⟨i, c, hi, e⟩ := ih h; exact ⟨i, c, by omega, e⟩
    · simp only [List.mem_singleton] at h; exact ⟨k, _, by omega, h⟩
set_option maxRecDepth 100000 in
theorem jgJ (n i : Nat) (c : UInt8) : valC n i c ≠ 13 := by
  unfold valC; split
  · decide
  · rename_i h; intro e; exact h (.inl e)
set_option maxRecDepth 100000 in
theorem jkq (l : List UInt8) : jF (valL l) = false := by
  refine jdo fun h => ?_
  obtain ⟨i, c, _, e⟩ := jkp h; exact jgJ _ _ _ e.symm
end Go.Proofs.YtaapmpchcfcniaaGreatDoor
