/-
  What the laws of the whole share: the users' room is opened, acts are run, states are held against fresh ones. The walks.
  What the laws' ran does: the walk.
  The acts of the law of large letters, and what a room makes of them.
-/
import Derived.Test.YtlfgemnmfhknfaaGreatDoorYQPoOu4
import Derived.Test.YtlfgemnmfhknfaaGreatDoorYQScrCard11
import Derived.Test.YtlfgemnmfhknfaaGreatDoorYQPure5
import Derived.Test.YtlfgemnmfhknfaaGreatDoorYQTokMark6
import Derived.Test.YtlfgemnmfhknfaaGreatDoorYQPoDo7
namespace Go.Proofs.YtlfgemnmfhknfaaGreatDoor
open Go.RowKit Go.Proofs
def usK : List (List UInt8) := [nmA, nmB, nmC]
def usCs : List (List Cmd) := [[], cmdB, cmdC]
theorem chA : j7 nmA [120] = 0 := by kernel_rfl
theorem chB : j7 nmB [120] = 0 := by kernel_rfl
theorem chC : j7 nmC [120] = 0 := by kernel_rfl
theorem jl0 (p : Nat) (v : World) (hm : TabsM v) (hp : v.heap[p]? = some (jgf nmA [] nmB scrB nmC scrC)) : Calls Tryz.prog 17 #[.slice (some ⟨p, 0, none⟩) 3 3] v (OpO usK usCs v) := by
  refine (jkV p nmA [] nmB scrB nmC scrC usCs 3 (by omega) 1 (by decide) v hp fun k u W1 b v5 v6 v36 hk hkf hu hb hI => ?_).mono fun e v' h => ?_
  · have hq : ∀ {e : Ending} {v' : World}, e = .returned (.int .i64 0) ∧ RoI W1 v.heap.size b v5 v6 v36 ([nmA, nmB, nmC].take (k + 1)) (usCs.take (k + 1)) v' → AdQ 3 1 W1 v.heap.size b v5 v6 v36 [nmA, nmB, nmC] usCs k u e v' := fun h => by
      unfold AdQ; rw [if_pos hk]; exact h
    obtain rfl | rfl | rfl : k = 0 ∨ k = 1 ∨ k = 2 := by omega
    · exact (hI.take hb (by decide) (by decide) nmA [] [] chA (by decide) rfl fun x hx => jmu x ((hm.next hu).next hx)).mono fun e w' h => hq h
    · exact (hI.take hb (by decide) (by decide) nmB scrB cmdB chB (by decide) rfl fun x hx => jms x ((hm.next hu).next hx)).mono fun e w' h => hq h
    · exact (hI.take hb (by decide) (by decide) nmC scrC cmdC chC (by decide) rfl fun x hx => jmP x ((hm.next hu).next hx)).mono fun e w' h => hq h
  · unfold OpnQ at h; rw [if_neg (by omega)] at h; obtain ⟨W1, b, v5, v6, v36, he, hRB, hb, hBW, hL, hO, hI⟩ := h; obtain ⟨G, hG⟩ := RoomM.of_open hRB hb hL hO hI hBW.size (by decide) (by decide); exact ⟨b, G, he, hG, hBW.trans (hI.low hb hBW.size)⟩
def FrP (w : World) (e : Ending) (w' : World) : Prop := ∃ a c, e = .returned (.slice a 3 c) ∧ RowM anyB 2 (SttV anyB w') w' (.slice a 3 c) [inbS, inbS, inbS] ∧ Below w.heap.size w w'
set_option maxHeartbeats 1000000 in
set_option maxRecDepth 100000 in
theorem jis (w : World) : Calls Tryz.prog 9 #[] w (FrP w) := by
  have HF := hid (jfF 0 (by decide) w); go_enter Tryz.func9, Tryz.ntmps9; go_wp2_with fail; refine HF.out.mono ?_; rintro e w2 ⟨b, rfl, hbx, hbw, hb2⟩; have HX := hid hbx; have HB := hid hb2; have HBL := hid (show b < w2.heap.size from (Array.getElem?_eq_some_iff.1 hbx).1); clear hbx hb2; have HF := hid (show FrP w (.returned (.slice (some ⟨w2.heap.size + 1, 0, none⟩) 3 3)) ((w2.alloc (.cells #[.slice (some ⟨b, 0, none⟩) 1 1, .slice none 0 0] 55)).alloc (.cells #[.slice (some ⟨b, 0, none⟩) 1 1, .slice none 0 0, .slice (some ⟨b, 0, none⟩) 1 1, .slice none 0 0, .slice (some ⟨b, 0, none⟩) 1 1, .slice none 0 0] 55)) from by
    have hb1 : ∀ o, Below w2.heap.size w2 (w2.alloc o) := fun o => (Below.refl _ _).alloc (Nat.le_refl _) o
    have hb2 : ∀ o p, Below w2.heap.size w2 ((w2.alloc o).alloc p) := fun o p => (hb1 o).alloc (by simp) p
    have hs := fun o p => ji0 (Q := anyB) (((hb2 o p).block b HBL.out).trans HX.out) trivial
    refine ⟨_, _, rfl, jdi (B := 0) (css := [[.slice (some ⟨b, 0, none⟩) 1 1, .slice none 0 0], [.slice (some ⟨b, 0, none⟩) 1 1, .slice none 0 0], [.slice (some ⟨b, 0, none⟩) 1 1, .slice none 0 0]]) ⟨rfl, .inr ⟨w2.heap.size + 1, 3, _, rfl, Nat.zero_le _, jdg _ (by simp), by decide, by unfold maxLen; decide, rfl, rfl⟩⟩ rfl (by unfold maxLen; decide) rfl (fun cs h => by simp at h; rw [h]; rfl) (fun i s cs h1 h2 => ?_) fun _ _ => trivial, HB.out.trans ((hb2 _ _).mono HB.out.size)⟩; have e1 : s = inbS := by simpa using List.mem_of_getElem? h1
    have e2 : cs = [.slice (some ⟨b, 0, none⟩) 1 1, .slice none 0 0] := by simpa using List.mem_of_getElem? h2
    subst e1; subst e2; exact ⟨_, _, rfl, hs _ _⟩)
  go_wp2; go_ret; exact HF.out
set_option maxHeartbeats 1000000 in
set_option maxRecDepth 100000 in
theorem jcu (s : Stt) (a1 a2 a3 a4 : Option Addr) (c1 c2 c3 c4 : Nat) (w : World) (Q Q' : Nat → Prop) (hS : SttM Q w (.slice a1 s.boxes.length c1) (.slice a2 s.spool.length c2) s) (hS' : SttM Q' w (.slice a3 s.boxes.length c3) (.slice a4 s.spool.length c4) s) :
    Calls Tryz.prog 14 #[.agg #[.slice a1 s.boxes.length c1, .slice a2 s.spool.length c2], .agg #[.slice a3 s.boxes.length c3, .slice a4 s.spool.length c4]] w fun e w' => e = .returned (.bool true) ∧ Below w.heap.size w w' := by
  have HS := hid (fun (u : World) (hu : Below w.heap.size w u) => jdy s (.slice a1 s.boxes.length c1) (.slice a2 s.spool.length c2) (.slice a3 s.boxes.length c3) (.slice a4 s.spool.length c4) u Q Q' (hS.next hu) (hS'.next hu)); clear hS hS'; have HB := hid (show ∀ a b : Obj, Below w.heap.size w ((w.alloc a).alloc b) from fun a b => ((Below.refl _ _).alloc (Nat.le_refl _) a).alloc (by simp) b); go_enter Tryz.func14, Tryz.ntmps14; go_wp2_with fail; refine (HS.out _ (HB.out _ _)).mono ?_; rintro e w2 ⟨rfl, hb2⟩; have HB2 := hid ((HB.out _ _).trans (hb2.mono (HB.out _ _).size)); clear hb2; go_wp2; go_ret; exact ⟨rfl, HB2.out⟩
set_option maxHeartbeats 2000000 in
set_option maxRecDepth 100000 in
theorem jiV (Q Q' : Nat → Prop) (a a' : Option Addr) (c c' : Nat) (l : List Stt) (w : World) (h : RowM Q 2 (SttV Q w) w (.slice a l.length c) l) (h' : RowM Q' 2 (SttV Q' w) w (.slice a' l.length c') l) :
    Calls Tryz.prog 8 #[.slice a l.length c, .slice a' l.length c'] w fun e w' => e = .returned (.bool true) ∧ Below w.heap.size w w' := by
  have hsm := RowM.small h; unfold maxLen at hsm; have HA := hid (show ∀ (i : Nat) s, l[i]? = some s → ∃ b o b' o' vb vs vb' vs', a = some ⟨b, o, none⟩ ∧ a' = some ⟨b', o', none⟩ ∧ w.cell? ⟨b, o + i * 2, none⟩ = some vb ∧ w.cell? ⟨b, o + i * 2 + 1, none⟩ = some vs ∧ w.cell? ⟨b', o' + i * 2, none⟩ = some vb' ∧ w.cell? ⟨b', o' + i * 2 + 1, none⟩ = some vs' ∧ SttM Q w vb vs s ∧ SttM Q' w vb' vs' s from fun i s hi => by
    obtain ⟨_, _, e, _, hr⟩ := h; obtain ⟨_, _, e', _, hr'⟩ := h'; simp only [Value.slice.injEq, true_and] at e e'; obtain ⟨rfl, rfl⟩ := e; obtain ⟨rfl, rfl⟩ := e'; obtain ⟨b, o, cs, h1, _, _, _, h5, vb, vs, rfl, h6⟩ := hr i s hi; obtain ⟨b', o', cs', g1, _, _, _, g5, vb', vs', rfl, g6⟩ := hr' i s hi; exact ⟨b, o, b', o', vb, vs, vb', vs', h1, g1, h5 0 _ rfl, h5 1 _ rfl, g5 0 _ rfl, g5 1 _ rfl, h6, g6⟩)
  clear h h'; go_enter Tryz.func8, Tryz.ntmps8; go_wp2
  go_loopw [5] (fun i wr => ∃ k : Nat, k ≤ l.length ∧ i = .int .i64 k ∧ Hid (Below w.heap.size w wr)) (fun i _ => l.length - (intOf i).toNat)
  case atStart => exact ⟨0, Nat.zero_le _, rfl, hid (Below.refl _ _)⟩
  case round =>
    obtain ⟨k, hk, rfl, HB⟩ := hrel
    by_cases hlt : k < l.length
    · have k1 : (k : Int) < (l.length : Int) := by omega
      have k0 : (0 : Int) ≤ (k : Int) := by omega
      have hx : l[k]? = some l[k] := List.getElem?_eq_getElem hlt; generalize l[k] = s at hx; obtain ⟨b, o, b', o', vb, vs, vb', vs', rfl, rfl, x0, x1, y0, y1, hS, hS'⟩ := HA.out k s hx; obtain ⟨ab, cb, rfl⟩ := RowM.slice hS.1; obtain ⟨aq, cq, rfl⟩ := RowM.slice hS.2.1; obtain ⟨ab', cb', rfl⟩ := RowM.slice hS'.1; obtain ⟨aq', cq', rfl⟩ := RowM.slice hS'.2.1; have HSS := hid (fun (u : World) (hu : Below w.heap.size w u) => jcu s ab aq ab' aq' cb cq cb' cq' u Q Q' (hS.next hu) (hS'.next hu)); have HC := hid (show ∀ u, Below w.heap.size w u → u.cell? ⟨b, o + k * 2, none⟩ = some (.slice ab s.boxes.length cb) ∧ u.cell? ⟨b, o + k * 2 + 1, none⟩ = some (.slice aq s.spool.length cq) ∧ u.cell? ⟨b', o' + k * 2, none⟩ = some (.slice ab' s.boxes.length cb') ∧ u.cell? ⟨b', o' + k * 2 + 1, none⟩ = some (.slice aq' s.spool.length cq') from fun u hu => ⟨ja x0 hu, ja x1 hu, ja y0 hu, ja y1 hu⟩); clear x0 x1 y0 y1 hS hS' hx; go_wp2
      go_region_held3 (fun u => u.cell? ⟨b, o + k * 2, none⟩ = some (.slice ab s.boxes.length cb) ∧ u.cell? ⟨b, o + k * 2 + 1, none⟩ = some (.slice aq s.spool.length cq) ∧ u.cell? ⟨b', o' + k * 2, none⟩ = some (.slice ab' s.boxes.length cb') ∧ u.cell? ⟨b', o' + k * 2 + 1, none⟩ = some (.slice aq' s.spool.length cq'))
        (first | exact HC.out _ HB2.out | exact HC.out _ HB.out.drew | exact HC.out _ HB.out | fail)
        (first
          | (go_at_call 14
             refine (HSS.out _ HB.out.drew).mono ?_; rintro e w2 ⟨rfl, hb2⟩; have HB2 := hid (HB.out.drew.trans (hb2.mono HB.out.drew.size)); clear hb2)
          | fail)
      all_goals
        go_wp2
        go_roundw
        case rel => first | exact ⟨k + 1, by omega, by go_num, HB2⟩ | ((repeat apply Exists.intro); exact ⟨⟨k + 1, by omega, by go_num, HB2⟩, rfl⟩)
        case measure => simp [intOf]; omega
    · have k1 : ¬ (k : Int) < (l.length : Int) := by omega
      go_wp2; go_ret; exact ⟨rfl, HB.out⟩
end Go.Proofs.YtlfgemnmfhknfaaGreatDoor
namespace Go.Proofs.YtlfgemnmfhknfaaGreatDoor
open Go.RowKit Go.Proofs
def RanP (w : World) (R : Rom) (e : Ending) (w' : World) : Prop := ∃ ac cc ao co as_ cs, e = .returned (.tuple #[.agg #[.bool R.up, .slice ac 3 cc, .slice ao 3 co, .slice as_ 3 cs, .int .i64 R.waits], .bool true]) ∧ OutM w.heap.size w' R (.slice ac 3 cc) (.slice ao 3 co) (.slice as_ 3 cs) ∧ Below w.heap.size w w'
set_option maxHeartbeats 4000000 in
set_option maxRecDepth 100000 in
theorem jlv (Q : Nat → Prop) (a : Option Addr) (c : Nat) (l : List Acu) (w : World) (hm : TabsM w) (hM : AcsM Q w (.slice a l.length c) l) (hl : l.length ≤ 10000)
    (hC : ∀ x ∈ l, ∀ u, Calls Tryz.prog 27 #[.agg (acuC x).toArray] u fun e u' => e = .returned (.int .i64 0) ∧ Below u.heap.size u u')
    (st : Nat → Rom) (h0 : st 0 = rom0) (hs3 : (st l.length).safe.length = 3) (ho3 : (st l.length).orders.length = 3)
    (hD : ∀ (k : Nat) (x : Acu), l[k]? = some x → ∀ (B b : Nat) (G : List Nat) (u : World), w.heap.size ≤ B → Below w.heap.size w u → RoomM usK usCs B b G (st k) u → Calls Tryz.prog 19 #[.pointer (some ⟨b, 0, none⟩), .agg (acuC x).toArray] u (RmQ usK usCs B b G u (st (k + 1)) (.tuple #[]))) :
    Calls Tryz.prog 7 #[.slice a l.length c] w (RanP w (st l.length)) := by
  obtain ⟨W1, hW1⟩ : ∃ W1, W1 = w.alloc (.cells #[.bool false, .slice none 0 0, .slice none 0 0, .slice none 0 0, .int .i64 0] 37) := ⟨_, rfl⟩; obtain ⟨W2, hW2⟩ : ∃ W2, W2 = W1.alloc (jgf nmA [] nmB scrB nmC scrC) := ⟨_, rfl⟩; have hb1 : Below w.heap.size w W1 := by rw [hW1]; exact (Below.refl _ _).alloc (Nat.le_refl _) _
  have hb2 : Below w.heap.size w W2 := by rw [hW2]; exact hb1.alloc hb1.size _
  have hz1 : W1.heap.size = w.heap.size + 1 := by rw [hW1]; simp
  have hz2 : W2.heap.size = w.heap.size + 2 := by rw [hW2]; simp [hz1]
  have hu : W2.heap[W1.heap.size]? = some (jgf nmA [] nmB scrB nmC scrC) := by rw [hW2]; exact heap_alloc_new W1 _
  have hr2 : W2.heap[w.heap.size]? = some (.cells #[.bool false, .slice none 0 0, .slice none 0 0, .slice none 0 0, .int .i64 0] 37) := by
    rw [hW2, hW1]; exact jbA _ (heap_alloc_new w _)
  have HRUN := hid (jmm usK usCs (.slice (some ⟨W1.heap.size, 0, none⟩) 3 3) Q a c l W2 (hM.next hb2) hl hC (fun v hv => jl0 W1.heap.size v ((hm.next hb2).next hv) ((hv.block _ (Array.getElem?_eq_some_iff.1 hu).1).trans hu)) st h0
    (fun k x hx B b G u hB hu' hR => hD k x hx B b G u (by omega) (hb2.trans (hu'.mono (by omega))) hR))
  rw [hz1] at HRUN; have HWE1 := hid hW1; have HWE2 := hid hW2; have HB2 := hid hb2; have HR2 := hid hr2; clear hM hC hD hm hb1 hb2 hu hr2 hW1 hW2; obtain ⟨R, hR⟩ : ∃ R, R = st l.length := ⟨_, rfl⟩; rw [← hR] at HRUN hs3 ho3 ⊢; clear hR; go_enter Tryz.func7, Tryz.ntmps7; go_wp2_with fail; rw [← HWE1.out]; refine (jjm W1).mono ?_; rintro e u ⟨rfl, hu⟩; rw [hz1]; rw [← HWE2.out] at hu; have hu' := hu.symm; subst hu'; clear hu; go_wp2_with fail; refine HRUN.out.mono ?_; rintro e w3 ⟨ac, cc, ao, co, as_, cs, rfl, hO3, hb3⟩; rw [ho3, hs3] at hO3; have hr3 := (hb3.block w.heap.size (by omega)).trans HR2.out; obtain ⟨W3, hW3⟩ : ∃ W3, W3 = w3.alloc (.cells #[.bool R.up, .slice ac 3 cc, .slice ao 3 co, .slice as_ 3 cs, .int .i64 R.waits] 37) := ⟨_, rfl⟩; have hb4 : Below w3.heap.size w3 W3 := by rw [hW3]; exact (Below.refl _ _).alloc (Nat.le_refl _) _
  have hr4 := (hb4.block w.heap.size (Array.getElem?_eq_some_iff.1 hr3).1).trans hr3; have hx4 : W3.heap[w3.heap.size]? = some (.cells #[.bool R.up, .slice ac 3 cc, .slice ao 3 co, .slice as_ 3 cs, .int .i64 R.waits] 37) := by rw [hW3]; exact heap_alloc_new w3 _
  have HW3 := hid hW3; have HX4 := hid hx4; have HR4 := hid hr4; have HO4 := hid (OutM.next hO3 (fun g hg _ => hb4.block g hg) hb4.size); have HB4 := hid (HB2.out.trans ((hb3.trans (hb4.mono hb3.size)).mono (by omega))); have HL := hid (show w.heap.size < w3.heap.size by have := hb3.size; omega); clear hr3 hb4 hr4 hx4 hW3 hO3 hb3; go_upto_region 2 with fail
  rw [← HW3.out]; have hx4 := HX4.out; have hr4 := HR4.out; obtain ⟨x0, x1, x2, x3, x4⟩ := bx5 hx4; obtain ⟨r0, r1, r2, r3, r4⟩ := bx5 hr4; have zf : ∀ o, W3.frozen? ⟨w.heap.size, o, none⟩ = false := fun o => by simp [World.frozen?, hr4]
  have hne : w.heap.size ≠ w3.heap.size := by have := HL.out; omega
  have hne' : w3.heap.size ≠ w.heap.size := by have := HL.out; omega
  clear hx4 hr4 hs3 ho3; refine wp_region_held_drew (S := fun u => u.cell? ⟨w3.heap.size, 0, none⟩ = some (.bool R.up) ∧ u.cell? ⟨w3.heap.size, 1, none⟩ = some (.slice ac 3 cc) ∧ u.cell? ⟨w3.heap.size, 2, none⟩ = some (.slice ao 3 co) ∧ u.cell? ⟨w3.heap.size, 3, none⟩ = some (.slice as_ 3 cs) ∧ u.cell? ⟨w3.heap.size, 4, none⟩ = some (.int .i64 R.waits)) (by kernel_rfl) ?_ (fun hHeld => ?_)
  · exact ⟨x0, x1, x2, x3, x4⟩
  refine wpAnyH_take (i := 0) (v := ?v1) rfl (by kernel_rfl) (by kernel_rfl) (by kernel_rfl) (fun _ _ _ h => h) (Or.inl ⟨by rfl, ?hy1⟩) (by assumption) ?_
  case hy1 =>
    intro w hSw
    (try dsimp only at hSw)
    go_simp
    all_goals with_reducible rfl
  change wpAnyH _ _ _ _ _ _ _ (Act.put _ (some 12) _) _
  try simp only [Act.put, List.setIfInBounds_toArray, List.set_cons_zero, List.set_cons_succ]
  refine wpAnyH_take (i := 1) (v := ?v2) rfl (by kernel_rfl) (by kernel_rfl) (by kernel_rfl) (fun _ _ _ h => h) (Or.inl ⟨by rfl, ?hy2⟩) (by assumption) ?_
  case hy2 =>
    intro w hSw
    (try dsimp only at hSw)
    go_simp
    all_goals with_reducible rfl
  change wpAnyH _ _ _ _ _ _ _ (Act.put _ (some 13) _) _
  try simp only [Act.put, List.setIfInBounds_toArray, List.set_cons_zero, List.set_cons_succ]
  refine wpAnyH_take (i := 2) (v := ?v3) rfl (by kernel_rfl) (by kernel_rfl) (by kernel_rfl) (fun _ _ _ h => h) (Or.inl ⟨by rfl, ?hy3⟩) (by assumption) ?_
  case hy3 =>
    intro w hSw
    (try dsimp only at hSw)
    go_simp
    all_goals with_reducible rfl
  change wpAnyH _ _ _ _ _ _ _ (Act.put _ (some 14) _) _
  try simp only [Act.put, List.setIfInBounds_toArray, List.set_cons_zero, List.set_cons_succ]
  refine wpAnyH_take (i := 3) (v := ?v4) rfl (by kernel_rfl) (by kernel_rfl) (by kernel_rfl) (fun _ _ _ h => h) (Or.inl ⟨by rfl, ?hy4⟩) (by assumption) ?_
  case hy4 =>
    intro w hSw
    (try dsimp only at hSw)
    go_simp
    all_goals with_reducible rfl
  change wpAnyH _ _ _ _ _ _ _ (Act.put _ (some 15) _) _
  try simp only [Act.put, List.setIfInBounds_toArray, List.set_cons_zero, List.set_cons_succ]
  refine wpAnyH_take (i := 4) (v := ?v5) rfl (by kernel_rfl) (by kernel_rfl) (by kernel_rfl) (fun _ _ _ h => h) (Or.inl ⟨by rfl, ?hy5⟩) (by assumption) ?_
  case hy5 =>
    intro w hSw
    (try dsimp only at hSw)
    go_simp
    all_goals with_reducible rfl
  change wpAnyH _ _ _ _ _ _ _ (Act.put _ (some 16) _) _
  try simp only [Act.put, List.setIfInBounds_toArray, List.set_cons_zero, List.set_cons_succ]
  refine wpAnyH_take (i := 5) (v := ?v6) rfl (by kernel_rfl) (by kernel_rfl) (by kernel_rfl) (fun _ _ _ h => h) (Or.inl ⟨by rfl, ?hy6⟩) (by assumption) ?_
  case hy6 =>
    intro w hSw
    (try dsimp only at hSw)
    go_simp
    all_goals with_reducible rfl
  change wpAnyH _ _ _ _ _ _ _ (Act.put _ (some 17) _) _
  try simp only [Act.put, List.setIfInBounds_toArray, List.set_cons_zero, List.set_cons_succ]
  refine wpAnyH_take (i := 6) (v := ?v7) rfl (by kernel_rfl) (by kernel_rfl) (by kernel_rfl) (fun _ _ _ h => h) (Or.inl ⟨by rfl, ?hy7⟩) (by assumption) ?_
  case hy7 =>
    intro w hSw
    (try dsimp only at hSw)
    go_simp
    all_goals with_reducible rfl
  change wpAnyH _ _ _ _ _ _ _ (Act.put _ (some 18) _) _
  try simp only [Act.put, List.setIfInBounds_toArray, List.set_cons_zero, List.set_cons_succ]
  refine wpAnyH_take (i := 7) (v := ?v8) rfl (by kernel_rfl) (by kernel_rfl) (by kernel_rfl) (fun _ _ _ h => h) (Or.inl ⟨by rfl, ?hy8⟩) (by assumption) ?_
  case hy8 =>
    intro w hSw
    (try dsimp only at hSw)
    go_simp
    all_goals with_reducible rfl
  change wpAnyH _ _ _ _ _ _ _ (Act.put _ (some 19) _) _
  try simp only [Act.put, List.setIfInBounds_toArray, List.set_cons_zero, List.set_cons_succ]
  refine wpAnyH_take (i := 8) (v := ?v9) rfl (by kernel_rfl) (by kernel_rfl) (by kernel_rfl) (fun _ _ _ h => h) (Or.inl ⟨by rfl, ?hy9⟩) (by assumption) ?_
  case hy9 =>
    intro w hSw
    (try dsimp only at hSw)
    go_simp
    all_goals with_reducible rfl
  change wpAnyH _ _ _ _ _ _ _ (Act.put _ (some 20) _) _
  try simp only [Act.put, List.setIfInBounds_toArray, List.set_cons_zero, List.set_cons_succ]
  refine wpAnyH_take (i := 9) (v := ?v10) rfl (by kernel_rfl) (by kernel_rfl) (by kernel_rfl) (fun _ _ _ h => h) (Or.inl ⟨by rfl, ?hy10⟩) (by assumption) ?_
  case hy10 =>
    intro w hSw
    (try dsimp only at hSw)
    go_simp
    all_goals with_reducible rfl
  change wpAnyH _ _ _ _ _ _ _ (Act.put _ (some 21) _) _
  try simp only [Act.put, List.setIfInBounds_toArray, List.set_cons_zero, List.set_cons_succ]
  refine wpAnyH_take (i := 10) (v := ?v11) rfl (by kernel_rfl) (by kernel_rfl) (by kernel_rfl) (fun _ _ _ h => h) (Or.inl ⟨by rfl, ?hy11⟩) (by assumption) ?_
  case hy11 =>
    intro w hSw
    (try dsimp only at hSw)
    go_simp
    all_goals with_reducible rfl
  change wpAnyH _ _ _ _ _ _ _ (Act.put _ (some 22) _) _
  try simp only [Act.put, List.setIfInBounds_toArray, List.set_cons_zero, List.set_cons_succ]
  refine wpAnyH_take (i := 11) (v := ?v12) rfl (by kernel_rfl) (by kernel_rfl) (by kernel_rfl) (fun _ _ _ h => h) (Or.inl ⟨by rfl, ?hy12⟩) (by assumption) ?_
  case hy12 =>
    intro w hSw
    (try dsimp only at hSw)
    go_simp
    all_goals with_reducible rfl
  change wpAnyH _ _ _ _ _ _ _ (Act.put _ (some 23) _) _
  try simp only [Act.put, List.setIfInBounds_toArray, List.set_cons_zero, List.set_cons_succ]
  refine wpAnyH_take (i := 12) (v := ?v13) rfl (by kernel_rfl) (by kernel_rfl) (by kernel_rfl) (fun _ _ _ h => h) (Or.inl ⟨by rfl, ?hy13⟩) (by assumption) ?_
  case hy13 =>
    intro w hSw
    (try dsimp only at hSw)
    go_simp
    all_goals with_reducible rfl
  change wpAnyH _ _ _ _ _ _ _ (Act.put _ (some 24) _) _
  try simp only [Act.put, List.setIfInBounds_toArray, List.set_cons_zero, List.set_cons_succ]
  refine wpAnyH_take (i := 13) (v := ?v14) rfl (by kernel_rfl) (by kernel_rfl) (by kernel_rfl) (fun _ _ _ h => h) (Or.inl ⟨by rfl, ?hy14⟩) (by assumption) ?_
  case hy14 =>
    intro w hSw
    (try dsimp only at hSw)
    go_simp
    all_goals with_reducible rfl
  change wpAnyH _ _ _ _ _ _ _ (Act.put _ (some 25) _) _
  try simp only [Act.put, List.setIfInBounds_toArray, List.set_cons_zero, List.set_cons_succ]
  refine wpAnyH_take (i := 14) (v := ?v15) rfl (by kernel_rfl) (by kernel_rfl) (by kernel_rfl) (fun _ _ _ h => h) (Or.inl ⟨by rfl, ?hy15⟩) (by assumption) ?_
  case hy15 =>
    intro w hSw
    (try dsimp only at hSw)
    go_simp
    all_goals with_reducible rfl
  change wpAnyH _ _ _ _ _ _ _ (Act.put _ (some 26) _) _
  try simp only [Act.put, List.setIfInBounds_toArray, List.set_cons_zero, List.set_cons_succ]
  refine wpAnyH_take (i := 15) (v := ?v16) rfl (by kernel_rfl) (by kernel_rfl) (by kernel_rfl) (fun _ _ _ h => h) (Or.inl ⟨by rfl, ?hy16⟩) (by assumption) ?_
  case hy16 =>
    intro w hSw
    (try dsimp only at hSw)
    go_simp
    all_goals with_reducible rfl
  change wpAnyH _ _ _ _ _ _ _ (Act.put _ (some 27) _) _
  try simp only [Act.put, List.setIfInBounds_toArray, List.set_cons_zero, List.set_cons_succ]
  refine wpAnyH_take (i := 16) (v := ?v17) rfl (by kernel_rfl) (by kernel_rfl) (by kernel_rfl) (fun _ _ _ h => h) (Or.inl ⟨by rfl, ?hy17⟩) (by assumption) ?_
  case hy17 =>
    intro w hSw
    (try dsimp only at hSw)
    go_simp
    all_goals with_reducible rfl
  change wpAnyH _ _ _ _ _ _ _ (Act.put _ (some 28) _) _
  try simp only [Act.put, List.setIfInBounds_toArray, List.set_cons_zero, List.set_cons_succ]
  refine wpAnyH_take (i := 17) (v := ?v18) rfl (by kernel_rfl) (by kernel_rfl) (by kernel_rfl) (fun _ _ _ h => h) (Or.inl ⟨by rfl, ?hy18⟩) (by assumption) ?_
  case hy18 =>
    intro w hSw
    (try dsimp only at hSw)
    go_simp
    all_goals with_reducible rfl
  change wpAnyH _ _ _ _ _ _ _ (Act.put _ (some 29) _) _
  try simp only [Act.put, List.setIfInBounds_toArray, List.set_cons_zero, List.set_cons_succ]
  refine wpAnyH_take (i := 18) (v := ?v19) rfl (by kernel_rfl) (by kernel_rfl) (by kernel_rfl) (fun _ _ _ h => h) (Or.inl ⟨by rfl, ?hy19⟩) (by assumption) ?_
  case hy19 =>
    intro w hSw
    (try dsimp only at hSw)
    go_simp
    all_goals with_reducible rfl
  change wpAnyH _ _ _ _ _ _ _ (Act.put _ (some 30) _) _
  try simp only [Act.put, List.setIfInBounds_toArray, List.set_cons_zero, List.set_cons_succ]
  refine wpAnyH_take (i := 19) (v := ?v20) rfl (by kernel_rfl) (by kernel_rfl) (by kernel_rfl) (fun _ _ _ h => h) (Or.inl ⟨by rfl, ?hy20⟩) (by assumption) ?_
  case hy20 =>
    intro w hSw
    (try dsimp only at hSw)
    go_simp
    all_goals with_reducible rfl
  change wpAnyH _ _ _ _ _ _ _ (Act.put _ (some 31) _) _
  try simp only [Act.put, List.setIfInBounds_toArray, List.set_cons_zero, List.set_cons_succ]
  refine wpAnyH_take (i := 20) (v := ?v21) rfl (by kernel_rfl) (by kernel_rfl) (by kernel_rfl) (fun _ _ _ h => h) (Or.inl ⟨by rfl, ?hy21⟩) (by assumption) ?_
  case hy21 =>
    intro w hSw
    (try dsimp only at hSw)
    go_simp
    all_goals with_reducible rfl
  change wpAnyH _ _ _ _ _ _ _ (Act.put _ (some 32) _) _
  try simp only [Act.put, List.setIfInBounds_toArray, List.set_cons_zero, List.set_cons_succ]
  refine wpAnyH_ready (rs := [21]) (by kernel_rfl) (by simp) ?_; refine AllReadyH.cons rfl (fun K hK => ?_) AllReadyH.nil
  go_simp
  refine hK.out _ _ ?_ (fun hHeld => ?_)
  · go_keep
  clear hK K
  try simp only [Act.put, List.setIfInBounds_toArray, List.set_cons_zero, List.set_cons_succ]
  refine wpAnyH_take (i := 22) (v := ?v22) rfl (by kernel_rfl) (by kernel_rfl) (by kernel_rfl) (fun _ _ _ h => h) (Or.inl ⟨by rfl, ?hy22⟩) (by assumption) ?_
  case hy22 =>
    intro w hSw
    (try dsimp only at hSw)
    go_simp
    all_goals with_reducible rfl
  change wpAnyH _ _ _ _ _ _ _ (Act.put _ (some 3) _) _
  try simp only [Act.put, List.setIfInBounds_toArray, List.set_cons_zero, List.set_cons_succ]
  refine wpAnyH_done (by kernel_rfl) ?_ _; go_wp2_with fail; obtain ⟨W6, hW6⟩ : ∃ W6, W6 = (((((W3.setCell ⟨w.heap.size, 0, none⟩ (.bool R.up)).setCell ⟨w.heap.size, 1, none⟩ (.slice ac 3 cc)).setCell ⟨w.heap.size, 2, none⟩ (.slice ao 3 co)).setCell ⟨w.heap.size, 3, none⟩ (.slice as_ 3 cs)).setCell ⟨w.heap.size, 4, none⟩ (.int .i64 R.waits)) := ⟨_, rfl⟩; have m := put5 (w := W3) (b := w.heap.size) (.bool R.up) (.slice ac 3 cc) (.slice ao 3 co) (.slice as_ 3 cs) (.int .i64 R.waits) HR4.out; rw [← hW6] at m; have md : W6.drew.heap[w.heap.size]? = some (.cells #[.bool R.up, .slice ac 3 cc, .slice ao 3 co, .slice as_ 3 cs, .int .i64 R.waits] 37) := m; obtain ⟨m0, m1, m2, m3, m4⟩ := bx5 md; have hB6 : Below w.heap.size w W6.drew := by
    rw [hW6]; exact ((((((HB4.out.setCell (Nat.le_refl _) _).setCell (Nat.le_refl _) _).setCell (Nat.le_refl _) _).setCell (Nat.le_refl _) _).setCell (Nat.le_refl _) _)).drew
  have hO6 : OutM w.heap.size W6.drew R (.slice ac 3 cc) (.slice ao 3 co) (.slice as_ 3 cs) := by
    refine OutM.mono (show w.heap.size ≤ W2.heap.size by omega) (OutM.next HO4.out (fun g hg hgN => ?_) ?_)
    · rw [hW6]; have hn : g ≠ w.heap.size := by omega
      exact (Below.heap_setCell _ _ _ _ hn).trans ((Below.heap_setCell _ _ _ _ hn).trans ((Below.heap_setCell _ _ _ _ hn).trans ((Below.heap_setCell _ _ _ _ hn).trans (Below.heap_setCell _ _ _ _ hn))))
    · rw [hW6]
      simp [World.setCell]
  have HF := hid (show RanP w R (.returned (.tuple #[.agg #[.bool R.up, .slice ac 3 cc, .slice ao 3 co, .slice as_ 3 cs, .int .i64 R.waits], .bool true])) W6.drew from ⟨ac, cc, ao, co, as_, cs, rfl, hO6, hB6⟩); rw [← hW6]; refine bodyPost_ret (v := .tuple #[.agg #[.bool R.up, .slice ac 3 cc, .slice ao 3 co, .slice as_ 3 cs, .int .i64 R.waits], .bool true]) (by simp only [results, Tryz.results7]; simp [go_sem, m0, m1, m2, m3, m4]) rfl HF.out
end Go.Proofs.YtlfgemnmfhknfaaGreatDoor
namespace Go.Proofs.YtlfgemnmfhknfaaGreatDoor
open Go.RowKit Go.Proofs
theorem jeC (a b : List (List UInt8)) : jC (a ++ b) = jC a ++ jC b := by simp [jC]
def lgTo (nm : List UInt8) : List UInt8 := [82, 67, 80, 84, 32, 84, 79, 58, 60] ++ nm ++ [64, 98, 62]
def lgB (m i : Nat) : Bool := i == 0 || m.testBit (i - 1)
def lgI (m k : Nat) : List Nat := (List.range k).filter (lgB m)
def lgH (m k : Nat) : List (List UInt8) := [[76, 72, 76, 79, 32, 97], [77, 65, 73, 76, 32, 70, 82, 79, 77, 58, 60, 97, 64, 98, 62]] ++ (lgI m k).map fun i => lgTo (annL i)
def lgD (m : Nat) : List (List UInt8) := lgH m 3 ++ [[68, 65, 84, 65]]
def xl : List UInt8 := [120, 58, 32] ++ (List.replicate 10 [48, 49, 50, 51, 52, 53, 54, 55, 56, 57]).flatten
theorem jfQ : xl.length = 103 := by kernel_rfl
theorem jmO : zK xl = false := by kernel_rfl
theorem jnd : xl ≠ [46] := by decide
theorem jkL : qm xl = xl := by kernel_rfl
def lgT (m : Nat) : List Adr := (lgI m 3).map fun i => (annL i, [98])
theorem jiK (m : Nat) (hm : m < 4) : jx usK (atS 0) (lgD m) = (⟨4, ([97], [98]), lgT m, [], false⟩, List.replicate (2 + (lgI m 3).length) 250 ++ [354]) ∧ jY usK (atS 0) (lgD m) = true ∧ (jC (lgD m)).length ≤ 3000 ∧ (lgD m).length ≤ 10 := by
  match m, hm with
  | 0, _ | 1, _ | 2, _ | 3, _ => exact ⟨by kernel_rfl, by kernel_rfl, by decide, by decide⟩
theorem jmL (K : List (List UInt8)) (s : Ses) (h4 : s.step = 4) : jI s K xl = (jak s xl, 0, []) := by
  unfold jI qK; rw [if_neg (by omega), if_pos h4, if_neg jnd]
theorem jhF (K : List (List UInt8)) (f : Adr) (tos : List Adr) : ∀ j, ∃ t lg, jx K ⟨4, f, tos, [], false⟩ (List.replicate j xl) = (⟨4, f, tos, t, lg⟩, []) ∧ jY K ⟨4, f, tos, [], false⟩ (List.replicate j xl) = true ∧ (lg = false → t.length = 105 * j) ∧ (20 ≤ j → lg = true)
  | 0 => ⟨[], false, rfl, rfl, fun _ => rfl, fun h => by omega⟩
  | j + 1 => by
    obtain ⟨t, lg, h1, h2, h3, h4⟩ := jhF K f tos j; rw [List.replicate_succ', qn, zR, h1, h2]; have hs := jmL K ⟨4, f, tos, t, lg⟩ rfl; have e1 : jx K ⟨4, f, tos, t, lg⟩ [xl] = (jak ⟨4, f, tos, t, lg⟩ xl, []) := by simp only [jx, hs]; rfl
    have hst : (jak ⟨4, f, tos, t, lg⟩ xl).step = 4 := by unfold jak; split <;> rfl
    have e2 : jY K ⟨4, f, tos, t, lg⟩ [xl] = true := by
      simp only [jY, hs, jmO, jfQ, hst]; rfl
    have hu : (qm xl).length = 103 := by rw [jkL]; exact jfQ
    by_cases hc : lg = true ∨ 2000 < t.length + (qm xl).length + 2
    · have er : jak ⟨4, f, tos, t, lg⟩ xl = ⟨4, f, tos, t, true⟩ := by unfold jak; rw [if_pos hc]
      rw [er] at e1; exact ⟨t, true, by rw [e1]; rfl, by rw [e2]; rfl, fun h => (by cases h), fun _ => rfl⟩
    · have er : jak ⟨4, f, tos, t, lg⟩ xl = ⟨4, f, tos, t ++ qm xl ++ [13, 10], lg⟩ := by unfold jak; rw [if_neg hc]
      rw [er] at e1; refine ⟨_, lg, by rw [e1]; rfl, by rw [e2]; rfl, fun h => ?_, fun h => ?_⟩
      · have := h3 h; simp only [List.length_append, hu]
        simp
        omega
      · cases lg with
        | true => rfl
        | false =>
          have := h3 rfl; have : ¬ 2000 < t.length + 103 + 2 := fun h => hc (.inr (by rw [hu]; exact h))
          omega
theorem jng (K : List (List UInt8)) (f : Adr) (tos : List Adr) (t : List UInt8) : jx K ⟨4, f, tos, t, true⟩ [[], [46]] = (atS 1, List.replicate tos.length 552) ∧ jY K ⟨4, f, tos, t, true⟩ [[], [46]] = true := by
  have h1 : jI ⟨4, f, tos, t, true⟩ K [] = (⟨4, f, tos, t, true⟩, 0, []) := by
    unfold jI qK jak; rw [if_neg (show ¬ (4 : Int) = 5 by decide), if_pos rfl, if_neg (by simp), if_pos (.inl rfl)]
  have h2 : jI ⟨4, f, tos, t, true⟩ K [46] = (atS 1, 0, tos.map fun a => (f, a, t)) := by
    unfold jI qK; rw [if_neg (show ¬ (4 : Int) = 5 by decide), if_pos rfl, if_pos rfl]; rfl
  constructor
  · simp only [jx, h1, h2, lnCo]
    simp
    exact List.map_const'
  · have q : zK [46] = false := by decide
    simp [jY, h1, h2, jcU, q, atS]
def lgF (m k j : Nat) : List (List UInt8) := if j = 0 then [] else if j ≤ k + 1 then lgD m ++ List.replicate (j - 1) xl else lgD m ++ List.replicate k xl ++ [[], [46]]
def lgW (m k j : Nat) : Rom := rom0.put 0 (lnsC (jx usK (atS 0) (lgF m k j)).1 [] (jx usK (atS 0) (lgF m k j)).2)
def lgA (m k : Nat) : List Acu := linA 0 (lgD m) :: (List.replicate k (linA 0 [xl]) ++ [linA 0 [[], [46]], jdp])
theorem jkU : mayS (atS 0) = true := jd2 (by decide) (.inl (by decide)) (by decide)
theorem jjk (m k : Nat) (hm : m < 4) (hk : 20 ≤ k) : jY usK (atS 0) (lgD m ++ List.replicate k xl ++ [[], [46]]) = true ∧ jx usK (atS 0) (lgD m ++ List.replicate k xl ++ [[], [46]]) = (atS 1, List.replicate (2 + (lgI m 3).length) 250 ++ [354] ++ List.replicate (lgI m 3).length 552) := by
  obtain ⟨h1, h2, _, _⟩ := jiK m hm; obtain ⟨t, lg, h3, h4, _, h6⟩ := jhF usK ([97], [98]) (lgT m) k; rw [h6 hk] at h3; obtain ⟨h7, h8⟩ := jng usK ([97], [98]) (lgT m) t; have e : jx usK (atS 0) (lgD m ++ List.replicate k xl) = (⟨4, ([97], [98]), lgT m, t, true⟩, List.replicate (2 + (lgI m 3).length) 250 ++ [354]) := by
    rw [qn, h1, h3]
    simp
  rw [zR, e, h8, zR, h1, h2, h4, qn, e, h7]; refine ⟨rfl, ?_⟩
  simp [lgT]
theorem jlX {m k : Nat} (hm : m < 4) (hk : 20 ≤ k ∧ k ≤ 30) {j : Nat} {xs : List (List UInt8)} (hj : lgF m k (j + 1) = lgF m k j ++ xs) : jY usK (jx usK (atS 0) (lgF m k j)).1 xs = true ∧ (jx usK (atS 0) (lgF m k j)).1.step ≠ 5 ∧ mayS (jx usK (atS 0) (lgF m k j)).1 = true := by
  have hall := (jjk m k hm hk.1).1; obtain ⟨ys, hy⟩ : ∃ ys, lgD m ++ List.replicate k xl ++ [[], [46]] = lgF m k (j + 1) ++ ys := by
    unfold lgF; rw [if_neg (by omega)]; split
    · rename_i h; refine ⟨List.replicate (k - j) xl ++ [[], [46]], ?_⟩; have e : List.replicate k xl = List.replicate j xl ++ List.replicate (k - j) xl := by rw [List.replicate_append_replicate]; congr 1; omega
      rw [e]; simp only [List.append_assoc, Nat.add_sub_cancel]
    · exact ⟨[], by simp⟩
  rw [hy, hj, List.append_assoc, zR, zR] at hall; simp only [Bool.and_eq_true] at hall; exact ⟨hall.2.1, jbW (by decide) hall.1, jbc jkU⟩
theorem jj1 (m k j : Nat) : jaf (lgW m k j) = lgW m k j ∧ relR (lgW m k j) 1 = lgW m k j ∧ relR (lgW m k j) 2 = lgW m k j ∧ relR (lgW m k j) 3 = lgW m k j := by
  have h1 : relR (lgW m k j) 1 = lgW m k j := by
    simp only [relR]
    show (lgW m k j).put 0 (dueC (ja1 (lnsC (jx usK (atS 0) (lgF m k j)).1 [] (jx usK (atS 0) (lgF m k j)).2) []) []) = _
    rw [jf9]; rfl
  have h2 : relR (lgW m k j) 2 = lgW m k j := by
    show (relR (lgW m k j) 1).put 1 (jaI ((relR (lgW m k j) 1).con 1)) = _
    rw [h1]; rfl
  refine ⟨rfl, h1, h2, ?_⟩
  show (relR (lgW m k j) 2).put 2 (jaI ((relR (lgW m k j) 2).con 2)) = _
  rw [h2]; rfl
theorem jgs (m k : Nat) (hm : m < 4) (hk : 20 ≤ k ∧ k ≤ 30) (j : Nat) : (jx usK (atS 0) (lgF m k j)).2.length ≤ 1000 := by
  have hall := (jjk m k hm hk.1).2; obtain ⟨ys, hy⟩ : ∃ ys, lgD m ++ List.replicate k xl ++ [[], [46]] = lgF m k j ++ ys := by
    unfold lgF; split
    · exact ⟨_, rfl⟩
    · split
      · rename_i h0 h; refine ⟨List.replicate (k - (j - 1)) xl ++ [[], [46]], ?_⟩; have e : List.replicate k xl = List.replicate (j - 1) xl ++ List.replicate (k - (j - 1)) xl := by rw [List.replicate_append_replicate]; congr 1; omega
        rw [e]; simp only [List.append_assoc]
      · exact ⟨[], by simp⟩
  rw [hy, qn] at hall; have h := congrArg (fun x => x.2.length) hall; simp only [List.length_append, List.length_replicate, List.length_cons, List.length_nil] at h; have : (lgI m 3).length ≤ 3 := by unfold lgI; exact Nat.le_trans (List.length_filter_le _ _) (by simp)
  omega
theorem jgB (u : World) : Calls Tryz.prog 27 #[.agg (acuC jdp).toArray] u fun e u' => e = .returned (.int .i64 0) ∧ Below u.heap.size u u' := by
  refine (jkw 0 0 0 0 0 0 [] [] [] [] (by simp) u).mono ?_; rintro e u' ⟨⟨r, rfl, hA⟩, hb⟩; refine ⟨?_, hb⟩; have h0 : ActE 2 0 0 0 [] (entZ 0 0 0 [] [] []) 0 := by
    refine .inr ⟨by decide, .inr ⟨⟨fun h => by omega, fun h => by omega, fun h => by omega⟩, .inr ⟨fun h => by omega, .inr ⟨⟨.inr ⟨rfl, rfl⟩, .inr rfl, .inr ⟨rfl, rfl, rfl, rfl, rfl, rfl, rfl⟩⟩, rfl⟩⟩⟩⟩
  rw [jge hA h0]
theorem jlk {m k j : Nat} {x : Acu} (h : (lgA m k)[j]? = some x) : (j = 0 ∧ x = linA 0 (lgD m)) ∨ (1 ≤ j ∧ j ≤ k ∧ x = linA 0 [xl]) ∨ (j = k + 1 ∧ x = linA 0 [[], [46]]) ∨ (j = k + 2 ∧ x = jdp) := by
  unfold lgA at h; cases j with
  | zero => cases h; exact .inl ⟨rfl, rfl⟩
  | succ j =>
    rw [List.getElem?_cons_succ] at h
    rcases Nat.lt_or_ge j k with hj | hj
    · rw [List.getElem?_append_left (by simpa using hj), List.getElem?_replicate, if_pos hj] at h; cases h; exact .inr (.inl ⟨by omega, by omega, rfl⟩)
    · rw [List.getElem?_append_right (by simpa using hj), List.length_replicate] at h; obtain ⟨i, hi⟩ : ∃ i, j = k + i := ⟨j - k, by omega⟩; subst hi; rw [show k + i - k = i by omega] at h
      match i, h with
      | 0, h => cases h; exact .inr (.inr (.inl ⟨rfl, rfl⟩))
      | 1, h => cases h; exact .inr (.inr (.inr ⟨rfl, rfl⟩))
      | i + 2, h => simp at h
theorem jnh (m k : Nat) (hm : m < 4) (hk : 20 ≤ k ∧ k ≤ 30) (w : World) (hM : TabsM w) (j : Nat) (x : Acu) (hx : (lgA m k)[j]? = some x) (B b : Nat) (G : List Nat) (u : World) (hB : w.heap.size ≤ B) (hu : Below w.heap.size w u) (hR : RoomM usK usCs B b G (lgW m k j) u) :
    Calls Tryz.prog 19 #[.pointer (some ⟨b, 0, none⟩), .agg (acuC x).toArray] u (RmQ usK usCs B b G u (lgW m k (j + 1)) (.tuple #[])) := by
  have hml : ∀ w', Below B u w' → maxLenCell w' := fun w' hw' => (hM.next (hu.trans (hw'.mono hB))).2
  have htb := jgs m k hm hk j; have lin : ∀ xs, lgF m k (j + 1) = lgF m k j ++ xs → xs ≠ [] → xs.length ≤ 10 → (jC xs).length ≤ 1000000 → Calls Tryz.prog 19 #[.pointer (some ⟨b, 0, none⟩), .agg (acuC (linA 0 xs)).toArray] u (RmQ usK usCs B b G u (lgW m k (j + 1)) (.tuple #[])) := fun xs e hne hl hf => by
    obtain ⟨h1, h2, h3⟩ := jlX hm hk e; have h := jk0 usK usCs B b G rom0 u 0 (by omega) _ xs _ hR rfl h3 h2 h1 hne (by omega) hf hml; have e2 : jx usK (atS 0) (lgF m k (j + 1)) = ((jx usK (jx usK (atS 0) (lgF m k j)).1 xs).1, (jx usK (atS 0) (lgF m k j)).2 ++ (jx usK (jx usK (atS 0) (lgF m k j)).1 xs).2) := by rw [e, qn]
    unfold lgW; rw [e2]; exact h
  rcases jlk hx with ⟨rfl, rfl⟩ | ⟨h1, h2, rfl⟩ | ⟨rfl, rfl⟩ | ⟨rfl, rfl⟩
  · obtain ⟨_, _, h3, h4⟩ := jiK m hm; exact lin _ (by unfold lgF; simp) (by unfold lgD; simp) h4 (by omega)
  · refine lin _ ?_ (by simp) (by simp) (by rw [zP]; simp [jC, jfQ]); unfold lgF; rw [if_neg (by omega), if_pos (by omega), if_neg (by omega), if_pos (by omega), List.append_assoc, show j + 1 - 1 = (j - 1) + 1 by omega, List.replicate_succ']
  · refine lin _ ?_ (by simp) (by simp) (by decide); unfold lgF; rw [if_neg (by omega), if_neg (by omega), if_neg (by omega), if_pos (by omega)]; rfl
  · have e : lgW m k (k + 2 + 1) = lgW m k (k + 2) := by
      unfold lgW lgF; rw [if_neg (by omega), if_neg (by omega), if_neg (by omega), if_neg (by omega)]
    rw [e]; obtain ⟨s1, s2, s3, s4⟩ := jj1 m k (k + 2); refine jlQ usK usCs B b G (lgW m k (k + 2)) u hR rfl _ fun w' hb' => ?_
    refine jjs usK usCs B b G (lgW m k (k + 2)) w' (hR.next hb') rfl (show (0 : Int) ≤ 0 ∧ (0 : Int) ≤ 1000000 by decide) (show (0 : Int) ≤ 0 ∧ (0 : Int) ≤ 1000000 by decide) (show 0 < 3 ∧ 3 ≤ 1000 by decide) rfl ?_ (fun _ => lgW m k (k + 2)) (by rw [s1, s4]) ?_
    · intro q hq; rw [s1]
      match q, hq with
      | 0, _ => show (jx usK (atS 0) (lgF m k (k + 2))).2.length + 0 ≤ _; omega
      | 1, _ => rw [s2]; show 0 + 0 ≤ _; omega
      | 2, _ => rw [s3]; show 0 + 0 ≤ _; omega
    · intro q G' w2 hq hb2 hR2; have hml2 : ∀ w3, Below B w2 w3 → maxLenCell w3 := fun w3 h3 => hml w3 (((hb'.mono (by have := hR.lt; omega)).trans hb2).trans h3)
      match q, hq with
      | 0, _ => exact jb2 usK usCs B b G' _ w2 hR2 0 7 (by omega) rfl _ _ rfl (jbc jkU) (by omega) hml2
      | 1, _ => exact jb2 usK usCs B b G' _ w2 hR2 1 16 (by omega) rfl (atS 0) [] rfl jkU (by simp) hml2
      | 2, _ => exact jb2 usK usCs B b G' _ w2 hR2 2 25 (by omega) rfl (atS 0) [] rfl jkU (by simp) hml2
theorem jcb (m k : Nat) : (lgA m k).length = k + 3 := by unfold lgA; simp
theorem jmE (Q : Nat → Prop) (a : Option Addr) (c m k : Nat) (hm : m < 4) (hk : 20 ≤ k ∧ k ≤ 30) (w : World) (hM : TabsM w) (hA : AcsM Q w (.slice a (lgA m k).length c) (lgA m k)) :
    Calls Tryz.prog 7 #[.slice a (lgA m k).length c] w (RanP w (lgW m k (lgA m k).length)) :=
  jlv Q a c (lgA m k) w hM hA (by rw [jcb]; omega) (fun x hx u => by
    obtain ⟨j, hj⟩ := List.getElem?_of_mem hx
    rcases jlk hj with ⟨_, rfl⟩ | ⟨_, _, rfl⟩ | ⟨_, rfl⟩ | ⟨_, rfl⟩
    · exact jb5 0 (by omega) _ (jiK m hm).2.2.1 u
    · exact jb5 0 (by omega) _ (by rw [zP]; simp [jC, jfQ]) u
    · exact jb5 0 (by omega) _ (by decide) u
    · exact jgB u) (lgW m k) rfl rfl rfl fun j x hx B b G u hB hu hR => jnh m k hm hk w hM j x hx B b G u hB hu hR
theorem jlW (m k : Nat) (hm : m < 4) (hk : 20 ≤ k) : (lgW m k (lgA m k).length).c0.told = List.replicate (2 + (lgI m 3).length) 250 ++ [354] ++ List.replicate (lgI m 3).length 552 ∧ (lgW m k (lgA m k).length).safe = [inbS, inbS, inbS] := by
  refine ⟨?_, rfl⟩; rw [jcb]; unfold lgW lgF; rw [if_neg (by omega), if_neg (by omega)]
  show (jx usK (atS 0) _).2 = _
  rw [(jjk m k hm hk).2]
end Go.Proofs.YtlfgemnmfhknfaaGreatDoor
