/-
  A letter that is no message is refused, and is nowhere: walked.
-/
import Derived.Test.YtmgdnhjemhhleaaGreatDoorOQPoRn6
import Derived.Laws.OwnMore
namespace Go.Proofs.YtmgdnhjemhhleaaGreatDoor
open Go.RowKit Go.Proofs
theorem jne {q : Nat} (h : q < 5) : ∀ h, ([.string { data := #[] }, .string { data := #[110, 111, 32, 99, 111, 108, 111, 110, 13, 10, 13, 10] }, .string { data := #[97, 58, 32, 98, 13, 10] }, .string { data := #[32, 97, 58, 32, 98, 13, 10, 13, 10] }, .string { data := #[58, 32, 120, 13, 10, 13, 10] }] : List Value)[q]'h = .string (S (jO (odX q))) := by
 match q, h with
 | 0, _ | 1, _ | 2, _ | 3, _ | 4, _ => intro _; rfl
theorem jnd {p : Nat} (h : p < 3) : ∀ h, ([.string { data := #[97, 110, 110] }, .string { data := #[98, 111, 98] }, .string { data := #[99, 97, 116] }] : List Value)[p]'h = .string (S (odN p)) := by
 match p, h with
 | 0, _ | 1, _ | 2, _ => intro _; rfl
theorem jkA {p q : Nat} (hp : p < 3) (hq : q < 5) : (S (odN p)).size ≤ 4 ∧ (S (jO (odX q))).size ≤ 20 := by
 rw [jd, jd]
 match p, hp with
 | 0, _ | 1, _ | 2, _ =>
   match q, hq with
   | 0, _ | 1, _ | 2, _ | 3, _ | 4, _ => decide
theorem jmt {p q : Nat} (hp : p < 3) (hq : q < 5) : (⟨#[76, 72, 76, 79, 32, 97, 13, 10, 77, 65, 73, 76, 32, 70, 82, 79, 77, 58, 60, 97, 64, 98, 62, 13, 10, 82, 67, 80, 84, 32, 84, 79, 58, 60]⟩ : ByteArray) ++ S (odN p) ++ ⟨#[64, 98, 62, 13, 10, 68, 65, 84, 65, 13, 10]⟩ ++ S (jO (odX q)) ++ ⟨#[46, 13, 10]⟩ = S (jO (odL p q)) := by
 show S [76, 72, 76, 79, 32, 97, 13, 10, 77, 65, 73, 76, 32, 70, 82, 79, 77, 58, 60, 97, 64, 98, 62, 13, 10, 82, 67, 80, 84, 32, 84, 79, 58, 60] ++ S (odN p) ++ S [64, 98, 62, 13, 10, 68, 65, 84, 65, 13, 10] ++ S (jO (odX q)) ++ S [46, 13, 10] = _
 rw [jgr, jgr, jgr, jgr]
 congr 1
 match p, hp with
 | 0, _ | 1, _ | 2, _ =>
   match q, hq with
   | 0, _ | 1, _ | 2, _ | 3, _ | 4, _ => rfl
theorem IntsM.at {Q : Nat → Prop} {w : World} {v : Value} {l : List Int} (h : IntsM Q w v l) (hl : 0 < l.length) : ∃ b o c, v = .slice (some ⟨b, o, none⟩) l.length c ∧ ∀ (i : Nat) x, l[i]? = some x → w.cell? ⟨b, o + i, none⟩ = some (.int .i64 x) := by
 obtain ⟨a, c, hv, _, hr⟩ := h; obtain ⟨b, o, cs, ha, _⟩ := hr 0 _ (List.getElem?_eq_getElem hl); refine ⟨b, o, c, by rw [hv, ha], fun i x hx => ?_⟩; obtain ⟨b', o', cs', ha', _, _, _, hc, hP⟩ := hr i x hx; rw [ha] at ha'; cases ha'; have hP : cs' = [.int .i64 x] := hP; have := hc 0 _ (by rw [hP]; rfl)
 simpa using this
set_option linter.unusedSimpArgs false in
set_option maxHeartbeats 8000000 in
set_option maxRecDepth 100000 in
theorem topOdd_walk (w : World) (hm : TabsM w) (which : Int) (hn : (Lit.int .i64 which).wf = true) (user : Int) (hw : (Lit.int .i64 user).wf = true) :
 Calls Tryz.prog 3 #[.int .i64 which, .int .i64 user] w fun e w' => e = .returned (.bool true) ∧ Below w.heap.size w w' := by
 have HM := hid hm; have h5 := jgd which 5 (by decide); have h3 := jgd user 3 (by decide); have HP5 := hid (fun u => jcG which 5 u hn (by decide) (by decide)); have HP3 := hid (fun u => jcG user 3 u hw (by decide) (by decide)); generalize jcy which 5 = q at *; generalize jcy user 3 = p at *; obtain ⟨hsn, hst⟩ := jkA h3 h5; have HD := hid (jmt h3 h5); have HRN := hid (fun (v : World) (hv : Below w.heap.size w v) (a : Option Addr) (c : Nat) (hA : AcsM (fun _ => True) v (.slice a 2 c) (odA p q)) => jnc (fun _ => True) a c p q h3 h5 v (hm.next hv) hA); have hgt := jne h5; have hgn := jnd h3; have q0 : (0 : Int) ≤ (q : Int) := by omega
 have q5 : (q : Int) < 5 := by omega
 have p0 : (0 : Int) ≤ (p : Int) := by omega
 have p3 : (p : Int) < 3 := by omega
 clear hm hn hw; go_enter Tryz.func3, Tryz.ntmps3; go_wp2_with fail; refine (HP5.out _).mono ?_; rintro e u ⟨rfl, hu⟩; have hu' := hu.symm; subst hu'; clear hu; go_wp2_with fail; refine (HP3.out _).mono ?_; rintro e u ⟨rfl, hu⟩; have hu' := hu.symm; subst hu'; clear hu; obtain ⟨W2, hW2⟩ : ∃ W2, W2 = (w.alloc (.cells #[.string { data := #[] }, .string { data := #[110, 111, 32, 99, 111, 108, 111, 110, 13, 10, 13, 10] }, .string { data := #[97, 58, 32, 98, 13, 10] }, .string { data := #[32, 97, 58, 32, 98, 13, 10, 13, 10] }, .string { data := #[58, 32, 120, 13, 10, 13, 10] }] 9)).alloc (.cells #[.string { data := #[97, 110, 110] }, .string { data := #[98, 111, 98] }, .string { data := #[99, 97, 116] }] 9) := ⟨_, rfl⟩; have HB2 := hid (show Below w.heap.size w W2 by rw [hW2]; exact (nb0 _ _).alloc (by simp) _); go_wp2_with fail; rw [HD.out, ← hW2]; obtain ⟨w4, hw4⟩ : ∃ w4, w4 = W2.alloc (.cells (acuC (linA 0 (odL p q)) ++ acuC jcC).toArray 34) := ⟨_, rfl⟩; have HWE := hid (show w4 = W2.alloc (.cells #[.int .i64 1, .int .i64 0, .int .i64 0, .int .i64 0, .string (S (jO (odL p q))), .int .i64 0, .string ⟨#[]⟩, .int .i64 0, .int .i64 0, .string ⟨#[]⟩, .string ⟨#[]⟩, .int .i64 2, .int .i64 0, .int .i64 0, .int .i64 0, .string ⟨#[]⟩, .int .i64 0, .string ⟨#[]⟩, .int .i64 0, .int .i64 0, .string ⟨#[]⟩, .string ⟨#[]⟩] 34) from hw4); have HB4 := hid (show Below w.heap.size w w4 from by rw [hw4]; exact HB2.out.alloc HB2.out.size _); have ho := (show w4.ownsRow w.heap.size 34 11 (.slice (some ⟨W2.heap.size, 0, none⟩) 2 2) 2 ((odA p q).map acuC).flatten from by
  rw [hw4]; exact World.ownsRow_lit W2 (acuC (linA 0 (odL p q)) ++ acuC jcC).toArray 2 HB2.out.size (by unfold maxLen; decide) rfl)
 have hA4 : AcsM (fun _ => True) w4 (.slice (some ⟨W2.heap.size, 0, none⟩) 2 2) (odA p q) :=
  jdC (css := (odA p q).map acuC) ho rfl (show 2 ≤ _ by unfold maxLen; omega) (by simp) (fun cs h => by
   obtain ⟨x, _, rfl⟩ := List.mem_map.1 h; rfl) (fun i x cs h1 h2 => by
   rw [List.getElem?_map, h1] at h2; cases h2; rfl) fun _ _ => trivial
 have HRAN := hid (HRN.out w4 HB4.out _ _ hA4); rw [show W2.heap.size = w.heap.size + 1 + 1 by rw [hW2]; simp] at HRAN; obtain ⟨tl0, hsf⟩ := jmu; obtain ⟨R, hR⟩ : ∃ R, R = odW 2 := ⟨_, rfl⟩; rw [← hR] at HRAN tl0 hsf; clear hw4 hW2 ho hA4 hR hgt hgn; rw [← HWE.out]; refine HRAN.out.mono ?_; rintro e w2 ⟨ac, cc, ao, co, as_, cs, rfl, hO2, hb2⟩; obtain ⟨g0, o1, z0, rfl, _, _, _, hz0', v0, rfl, hv0⟩ : ∃ b o cs, ac = some ⟨b, o, none⟩ ∧ b < w2.heap.size ∧ w4.heap.size ≤ b ∧ cs.length = 1 ∧ (∀ (j : Nat) u, cs[j]? = some u → w2.cell? ⟨b, o + 0 * 1 + j, none⟩ = some u) ∧ ∃ v, cs = [v] ∧ IntsM (w4.heap.size ≤ ·) w2 v R.c0.told := by
  obtain ⟨_, _, e, _, hr⟩ := hO2.co; cases e; exact hr 0 _ rfl
 have y0 := hz0' 0 _ rfl; simp only [Nat.zero_mul, Nat.add_zero] at y0; have hlen : R.c0.told.length = 5 := by rw [tl0]; rfl
 obtain ⟨b0, o0, d0, rfl, hat0⟩ := hv0.at (by omega); rw [hlen] at y0; have y4 := hat0 4 554 (by rw [tl0]; rfl); have hs2 := hO2.sf; rw [hsf] at hs2; have HS2 := hid hs2; have HB2 := hid (HB4.out.trans (hb2.mono HB4.out.size)); clear hO2 hb2 hz0' hv0 hs2 tl0 hsf hat0 hlen; obtain ⟨W3, hW3⟩ : ∃ W3, W3 = w2.alloc (.cells #[.bool R.up, .slice (some ⟨g0, o1, none⟩) 3 cc, .slice ao 3 co, .slice as_ 3 cs, .int .i64 R.waits] 28) := ⟨_, rfl⟩; have hb3 : Below w2.heap.size w2 W3 := by rw [hW3]; exact nb0 _ _
 have hx3 : W3.heap[w2.heap.size]? = some (.cells #[.bool R.up, .slice (some ⟨g0, o1, none⟩) 3 cc, .slice ao 3 co, .slice as_ 3 cs, .int .i64 R.waits] 28) := by rw [hW3]; exact heap_alloc_new w2 _
 have x1 : W3.cell? ⟨w2.heap.size, 1, none⟩ = some (.slice (some ⟨g0, o1, none⟩) 3 cc) := by simp [World.cell?, hx3]
 have x3 : W3.cell? ⟨w2.heap.size, 3, none⟩ = some (.slice as_ 3 cs) := by simp [World.cell?, hx3]
 have w0' := ja y0 hb3; have w4' := ja y4 hb3; have HC3 := hid (show ∀ u, Below W3.heap.size W3 u → u.cell? ⟨w2.heap.size, 1, none⟩ = some (.slice (some ⟨g0, o1, none⟩) 3 cc) ∧ u.cell? ⟨w2.heap.size, 3, none⟩ = some (.slice as_ 3 cs) ∧ u.cell? ⟨g0, o1, none⟩ = some (.slice (some ⟨b0, o0, none⟩) 5 d0) ∧ u.cell? ⟨b0, o0 + 4, none⟩ = some (.int .i64 554) from fun u hu => ⟨ja x1 hu, ja x3 hu, ja w0' hu, ja w4' hu⟩); have HS3 := hid (show ∀ u, Below W3.heap.size W3 u → RowM (w4.heap.size ≤ ·) 2 (SttV (w4.heap.size ≤ ·) u) u (.slice as_ 3 cs) [inbS, inbS, inbS] from fun u hu => RowM.imp HS2.out (fun _ h => h) (Keeps.of_below (hb3.trans (hu.mono hb3.size))) fun s cs h => by
  obtain ⟨vb, vs, e, h⟩ := h; exact ⟨vb, vs, e, h.next (hb3.trans (hu.mono hb3.size))⟩)
 have HB3 := hid (HB2.out.trans (hb3.mono HB2.out.size)); have HW3 := hid hW3; have HFR := hid (fun u => jir u); clear hb3 hx3 hW3 x1 x3 w0' w4' y0 y4 HS2; go_upto_region 4 with fail
 rw [← HW3.out]; refine wp_region_held_drew (S := fun u => u.cell? ⟨w2.heap.size, 1, none⟩ = some (.slice (some ⟨g0, o1, none⟩) 3 cc) ∧ u.cell? ⟨w2.heap.size, 3, none⟩ = some (.slice as_ 3 cs) ∧ u.cell? ⟨g0, o1, none⟩ = some (.slice (some ⟨b0, o0, none⟩) 5 d0) ∧ u.cell? ⟨b0, o0 + 4, none⟩ = some (.int .i64 554)) (by kernel_rfl) ?_ (fun hHeld => ?_)
 · exact HC3.out _ (Below.refl _ _).drew
 refine wpAnyH_take (i := 0) (v := ?v1) rfl (by kernel_rfl) (by kernel_rfl) (by kernel_rfl) (fun _ _ _ h => h) (Or.inl ⟨by rfl, ?hy1⟩) (by assumption) ?_
 case hy1 =>
  intro w hSw
  (try dsimp only at hSw)
  go_simp
  all_goals with_reducible rfl
 change wpAnyH _ _ _ _ _ _ _ (Act.put _ (some 32) _) _
 try simp only [Act.put, List.setIfInBounds_toArray, List.set_cons_zero, List.set_cons_succ]
 refine wpAnyH_take (i := 1) (v := ?v2) rfl (by kernel_rfl) (by kernel_rfl) (by kernel_rfl) (fun _ _ _ h => h) (Or.inl ⟨by rfl, ?hy2⟩) (by assumption) ?_
 case hy2 =>
  intro w hSw
  (try dsimp only at hSw)
  go_simp
  all_goals with_reducible rfl
 change wpAnyH _ _ _ _ _ _ _ (Act.put _ (some 33) _) _
 try simp only [Act.put, List.setIfInBounds_toArray, List.set_cons_zero, List.set_cons_succ]
 refine wpAnyH_take (i := 2) (v := ?v3) rfl (by kernel_rfl) (by kernel_rfl) (by kernel_rfl) (fun _ _ _ h => h) (Or.inl ⟨by rfl, ?hy3⟩) (by assumption) ?_
 case hy3 =>
  intro w hSw
  (try dsimp only at hSw)
  go_simp
  all_goals with_reducible rfl
 change wpAnyH _ _ _ _ _ _ _ (Act.put _ (some 34) _) _
 try simp only [Act.put, List.setIfInBounds_toArray, List.set_cons_zero, List.set_cons_succ]
 refine wpAnyH_take (i := 3) (v := ?v4) rfl (by kernel_rfl) (by kernel_rfl) (by kernel_rfl) (fun _ _ _ h => h) (Or.inl ⟨by rfl, ?hy4⟩) (by assumption) ?_
 case hy4 =>
  intro w hSw
  (try dsimp only at hSw)
  go_simp
  all_goals with_reducible rfl
 change wpAnyH _ _ _ _ _ _ _ (Act.put _ (some 35) _) _
 try simp only [Act.put, List.setIfInBounds_toArray, List.set_cons_zero, List.set_cons_succ]
 refine wpAnyH_take (i := 4) (v := ?v5) rfl (by kernel_rfl) (by kernel_rfl) (by kernel_rfl) (fun _ _ _ h => h) (Or.inl ⟨by rfl, ?hy5⟩) (by assumption) ?_
 case hy5 =>
  intro w hSw
  (try dsimp only at hSw)
  go_simp
  all_goals with_reducible rfl
 change wpAnyH _ _ _ _ _ _ _ (Act.put _ (some 36) _) _
 try simp only [Act.put, List.setIfInBounds_toArray, List.set_cons_zero, List.set_cons_succ]
 refine wpAnyH_take (i := 5) (v := ?v6) rfl (by kernel_rfl) (by kernel_rfl) (by kernel_rfl) (fun _ _ _ h => h) (Or.inl ⟨by rfl, ?hy6⟩) (by assumption) ?_
 case hy6 =>
  intro w hSw
  (try dsimp only at hSw)
  go_simp
  all_goals with_reducible rfl
 change wpAnyH _ _ _ _ _ _ _ (Act.put _ (some 37) _) _
 try simp only [Act.put, List.setIfInBounds_toArray, List.set_cons_zero, List.set_cons_succ]
 refine wpAnyH_take (i := 6) (v := ?v7) rfl (by kernel_rfl) (by kernel_rfl) (by kernel_rfl) (fun _ _ _ h => h) (Or.inl ⟨by rfl, ?hy7⟩) (by assumption) ?_
 case hy7 =>
  intro w hSw
  (try dsimp only at hSw)
  go_simp
  all_goals with_reducible rfl
 change wpAnyH _ _ _ _ _ _ _ (Act.put _ (some 38) _) _
 try simp only [Act.put, List.setIfInBounds_toArray, List.set_cons_zero, List.set_cons_succ]
 refine wpAnyH_take (i := 7) (v := ?v8) rfl (by kernel_rfl) (by kernel_rfl) (by kernel_rfl) (fun _ _ _ h => h) (Or.inl ⟨by rfl, ?hy8⟩) (by assumption) ?_
 case hy8 =>
  intro w hSw
  (try dsimp only at hSw)
  go_simp
  all_goals with_reducible rfl
 change wpAnyH _ _ _ _ _ _ _ (Act.put _ (some 39) _) _
 try simp only [Act.put, List.setIfInBounds_toArray, List.set_cons_zero, List.set_cons_succ]
 refine wpAnyH_take (i := 8) (v := ?v9) rfl (by kernel_rfl) (by kernel_rfl) (by kernel_rfl) (fun _ _ _ h => h) (Or.inl ⟨by rfl, ?hy9⟩) (by assumption) ?_
 case hy9 =>
  intro w hSw
  (try dsimp only at hSw)
  go_simp
  all_goals with_reducible rfl
 change wpAnyH _ _ _ _ _ _ _ (Act.put _ (some 40) _) _
 try simp only [Act.put, List.setIfInBounds_toArray, List.set_cons_zero, List.set_cons_succ]
 refine wpAnyH_take (i := 9) (v := ?v10) rfl (by kernel_rfl) (by kernel_rfl) (by kernel_rfl) (fun _ _ _ h => h) (Or.inl ⟨by rfl, ?hy10⟩) (by assumption) ?_
 case hy10 =>
  intro w hSw
  (try dsimp only at hSw)
  go_simp
  all_goals with_reducible rfl
 change wpAnyH _ _ _ _ _ _ _ (Act.put _ (some 41) _) _
 try simp only [Act.put, List.setIfInBounds_toArray, List.set_cons_zero, List.set_cons_succ]
 refine wpAnyH_take (i := 10) (v := ?v11) rfl (by kernel_rfl) (by kernel_rfl) (by kernel_rfl) (fun _ _ _ h => h) (Or.inl ⟨by rfl, ?hy11⟩) (by assumption) ?_
 case hy11 =>
  intro w hSw
  (try dsimp only at hSw)
  go_simp
  all_goals with_reducible rfl
 change wpAnyH _ _ _ _ _ _ _ (Act.put _ (some 42) _) _
 try simp only [Act.put, List.setIfInBounds_toArray, List.set_cons_zero, List.set_cons_succ]
 refine wpAnyH_take (i := 11) (v := ?v12) rfl (by kernel_rfl) (by kernel_rfl) (by kernel_rfl) (fun _ _ _ h => h) (Or.inl ⟨by rfl, ?hy12⟩) (by assumption) ?_
 case hy12 =>
  intro w hSw
  (try dsimp only at hSw)
  go_simp
  all_goals with_reducible rfl
 change wpAnyH _ _ _ _ _ _ _ (Act.put _ (some 43) _) _
 try simp only [Act.put, List.setIfInBounds_toArray, List.set_cons_zero, List.set_cons_succ]
 refine wpAnyH_take (i := 12) (v := ?v13) rfl (by kernel_rfl) (by kernel_rfl) (by kernel_rfl) (fun _ _ _ h => h) (Or.inl ⟨by rfl, ?hy13⟩) (by assumption) ?_
 case hy13 =>
  intro w hSw
  (try dsimp only at hSw)
  go_simp
  all_goals with_reducible rfl
 change wpAnyH _ _ _ _ _ _ _ (Act.put _ (some 44) _) _
 try simp only [Act.put, List.setIfInBounds_toArray, List.set_cons_zero, List.set_cons_succ]
 refine wpAnyH_take (i := 13) (v := ?v14) rfl (by kernel_rfl) (by kernel_rfl) (by kernel_rfl) (fun _ _ _ h => h) (Or.inl ⟨by rfl, ?hy14⟩) (by assumption) ?_
 case hy14 =>
  intro w hSw
  (try dsimp only at hSw)
  go_simp
  all_goals with_reducible rfl
 change wpAnyH _ _ _ _ _ _ _ (Act.put _ (some 45) _) _
 try simp only [Act.put, List.setIfInBounds_toArray, List.set_cons_zero, List.set_cons_succ]
 refine wpAnyH_take (i := 14) (v := ?v15) rfl (by kernel_rfl) (by kernel_rfl) (by kernel_rfl) (fun _ _ _ h => h) (Or.inl ⟨by rfl, ?hy15⟩) (by assumption) ?_
 case hy15 =>
  intro w hSw
  (try dsimp only at hSw)
  go_simp
  all_goals with_reducible rfl
 change wpAnyH _ _ _ _ _ _ _ (Act.put _ (some 46) _) _
 try simp only [Act.put, List.setIfInBounds_toArray, List.set_cons_zero, List.set_cons_succ]
 refine wpAnyH_take (i := 15) (v := ?v16) rfl (by kernel_rfl) (by kernel_rfl) (by kernel_rfl) (fun _ _ _ h => h) (Or.inl ⟨by rfl, ?hy16⟩) (by assumption) ?_
 case hy16 =>
  intro w hSw
  (try dsimp only at hSw)
  go_simp
  all_goals with_reducible rfl
 change wpAnyH _ _ _ _ _ _ _ (Act.put _ (some 47) _) _
 try simp only [Act.put, List.setIfInBounds_toArray, List.set_cons_zero, List.set_cons_succ]
 refine wpAnyH_take (i := 16) (v := ?v17) rfl (by kernel_rfl) (by kernel_rfl) (by kernel_rfl) (fun _ _ _ h => h) (Or.inl ⟨by rfl, ?hy17⟩) (by assumption) ?_
 case hy17 =>
  intro w hSw
  (try dsimp only at hSw)
  go_simp
  all_goals with_reducible rfl
 change wpAnyH _ _ _ _ _ _ _ (Act.put _ (some 48) _) _
 try simp only [Act.put, List.setIfInBounds_toArray, List.set_cons_zero, List.set_cons_succ]
 refine wpAnyH_take (i := 17) (v := ?v18) rfl (by kernel_rfl) (by kernel_rfl) (by kernel_rfl) (fun _ _ _ h => h) (Or.inl ⟨by rfl, ?hy18⟩) (by assumption) ?_
 case hy18 =>
  intro w hSw
  (try dsimp only at hSw)
  go_simp
  all_goals with_reducible rfl
 change wpAnyH _ _ _ _ _ _ _ (Act.put _ (some 49) _) _
 try simp only [Act.put, List.setIfInBounds_toArray, List.set_cons_zero, List.set_cons_succ]
 refine wpAnyH_take (i := 18) (v := ?v19) rfl (by kernel_rfl) (by kernel_rfl) (by kernel_rfl) (fun _ _ _ h => h) (Or.inl ⟨by rfl, ?hy19⟩) (by assumption) ?_
 case hy19 =>
  intro w hSw
  (try dsimp only at hSw)
  go_simp
  all_goals with_reducible rfl
 change wpAnyH _ _ _ _ _ _ _ (Act.put _ (some 50) _) _
 try simp only [Act.put, List.setIfInBounds_toArray, List.set_cons_zero, List.set_cons_succ]
 refine wpAnyH_take (i := 19) (v := ?v20) rfl (by kernel_rfl) (by kernel_rfl) (by kernel_rfl) (fun _ _ _ h => h) (Or.inl ⟨by rfl, ?hy20⟩) (by assumption) ?_
 case hy20 =>
  intro w hSw
  (try dsimp only at hSw)
  go_simp
  all_goals with_reducible rfl
 change wpAnyH _ _ _ _ _ _ _ (Act.put _ (some 51) _) _
 try simp only [Act.put, List.setIfInBounds_toArray, List.set_cons_zero, List.set_cons_succ]
 refine wpAnyH_take (i := 20) (v := ?v21) rfl (by kernel_rfl) (by kernel_rfl) (by kernel_rfl) (fun _ _ _ h => h) (Or.inl ⟨by rfl, ?hy21⟩) (by assumption) ?_
 case hy21 =>
  intro w hSw
  (try dsimp only at hSw)
  go_simp
  all_goals with_reducible rfl
 change wpAnyH _ _ _ _ _ _ _ (Act.put _ (some 52) _) _
 try simp only [Act.put, List.setIfInBounds_toArray, List.set_cons_zero, List.set_cons_succ]
 refine wpAnyH_ready (rs := [21]) (by kernel_rfl) (by simp) ?_; refine AllReadyH.cons rfl (fun K hK => ?_) AllReadyH.nil
 go_simp
 refine (HFR.out _).mono ?_; rintro e u ⟨fa, fc, rfl, hF, hu⟩; have HBF := hid (show Below W3.heap.size W3 u from ((Below.refl _ W3).drew).trans hu); have HSA := hid (jjo _ _ as_ fa cs fc [inbS, inbS, inbS] u (HS3.out u HBF.out) hF); clear hF hu; go_wp2_with fail; refine hK.out _ _ ?_ (fun hHeld => ?_)
 · exact HC3.out _ HBF.out
 clear hK K
 try simp only [Act.put, List.setIfInBounds_toArray, List.set_cons_zero, List.set_cons_succ]
 refine wpAnyH_ready (rs := [22]) (by kernel_rfl) (by simp) ?_; refine AllReadyH.cons rfl (fun K hK => ?_) AllReadyH.nil
 go_simp
 refine HSA.out.mono ?_; rintro e u2 ⟨rfl, hu2⟩; have HBG := hid (HBF.out.trans (hu2.mono HBF.out.size)); clear hu2; go_wp2_with fail; refine hK.out _ _ ?_ (fun hHeld => ?_)
 · exact HC3.out _ HBG.out
 clear hK K
 try simp only [Act.put, List.setIfInBounds_toArray, List.set_cons_zero, List.set_cons_succ]
 refine wpAnyH_take (i := 23) (v := ?v22) rfl (by kernel_rfl) (by kernel_rfl) (by kernel_rfl) (fun _ _ _ h => h) (Or.inl ⟨by rfl, ?hy22⟩) (by assumption) ?_
 case hy22 =>
  intro w hSw
  (try dsimp only at hSw)
  go_simp
  all_goals with_reducible rfl
 change wpAnyH _ _ _ _ _ _ _ (Act.put _ (some 55) _) _
 try simp only [Act.put, List.setIfInBounds_toArray, List.set_cons_zero, List.set_cons_succ]
 refine wpAnyH_take (i := 24) (v := ?v23) rfl (by kernel_rfl) (by kernel_rfl) (by kernel_rfl) (fun _ _ _ h => h) (Or.inl ⟨by rfl, ?hy23⟩) (by assumption) ?_
 case hy23 =>
  intro w hSw
  (try dsimp only at hSw)
  go_simp
  all_goals with_reducible rfl
 change wpAnyH _ _ _ _ _ _ _ (Act.put _ (some 4) _) _
 try simp only [Act.put, List.setIfInBounds_toArray, List.set_cons_zero, List.set_cons_succ]
 refine wpAnyH_done (by kernel_rfl) ?_ _; go_wp2_with fail; go_ret; exact ⟨rfl, HB3.out.trans (HBG.out.mono HB3.out.size)⟩
end Go.Proofs.YtmgdnhjemhhleaaGreatDoor
