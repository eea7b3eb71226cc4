/-
  Behind a crash one goes on: what is written then is recovered, too: walked.
-/
import Derived.Test.YtneikogloopodaaDoorBkLz
import Derived.Test.YtneikogloopodaaDoorBkTw
namespace Go.Proofs.YtneikogloopodaaDoor
open Go.RowKit Go.Proofs

set_option maxHeartbeats 2000000 in
set_option maxRecDepth 100000 in
theorem bookOn_walk (w : World) (_hm : maxLenCell w) (a : Option Addr) (c : Nat) (ls : List Chr) (hF : ChsM (fun _ => True) w (.slice a ls.length c) ls) (hB : ∀ x ∈ ls, chrW x) (hC : ls.length ≤ c) (keep : Int) (hkp : (Lit.int .i64 keep).wf = true) (ax : Option Addr) (cx : Nat) (ms : List Chr) (hF' : ChsM (fun _ => True) w (.slice ax ms.length cx) ms) (hB' : ∀ x ∈ ms, chrW x) :
    Calls Tryd.prog 4 #[.slice a ls.length c, .int .i64 keep, .slice ax ms.length cx] w fun e w' => e = .returned (.bool true) ∧ Below w.heap.size w w' := by
  have HBO := hid (batchesOf_any ls a c w _ hF hB hC)
  have hmany := batsP_many ls
  have htape := batsP_tape ls
  have HOK := hid (batsP_ok ls)
  generalize batsP ls = bs at *
  have HPK2 := hid (show ∀ v : World, Calls Tryd.prog 6 #[.int .i64 keep, .int .i64 600] v fun e w' => e = .returned (.int .i64 (pickN keep 600 : Nat)) ∧ w' = v from fun v => picked_any keep 600 v hkp (by decide) (by decide))
  generalize pickN keep 600 = kp at *
  have HBX := hid (fun u (hu : Below w.heap.size w u) => batchOf_any ms ax cx 1 u _ (hF'.next hu) hB' (by decide))
  have HXO := hid (batP_ok ms 1)
  have hXl : (frB (batP ms 1)).length ≤ 3215 := by
    rw [frB_len]
    have h1 := batP_len ms 1
    have h2 := (batP_ok ms 1).many.2
    have : 321 * (batP ms 1).ents.length ≤ 321 * 10 := Nat.mul_le_mul_left _ h2
    omega
  generalize batP ms 1 = X at *
  obtain ⟨D, hD⟩ : ∃ D, D = tapeB bs := ⟨_, rfl⟩
  have HD := hid hD
  rw [← hD] at htape
  obtain ⟨lf, hlf⟩ : ∃ lf, lf = leftN D.length 0 (kp : Nat) := ⟨_, rfl⟩
  have hlf1 : lf ≤ D.length := by rw [hlf]; exact leftN_le
  obtain ⟨j, t, hj, hcut, hto, _, _, _⟩ := tape_cut bs (fun b hb => ⟨(HOK.out b hb).fit, by have := (HOK.out b hb).len; omega⟩) lf
  rw [← hD] at hcut
  obtain ⟨G, hG⟩ : ∃ G, G = bs.take j := ⟨_, rfl⟩
  obtain ⟨U, hU⟩ : ∃ U, U = tapeB G := ⟨_, rfl⟩
  rw [← hG, ← hU] at hcut
  have hGl : G.length ≤ 24 := by rw [hG, List.length_take]; omega
  have hUlf : U.length ≤ lf := by
    have := congrArg List.length hcut
    rw [List.length_take, List.length_append] at this
    omega
  obtain ⟨Z, hZ⟩ : ∃ Z, Z = U ++ frB X := ⟨_, rfl⟩
  have hZl : Z.length = U.length + (frB X).length := by rw [hZ, List.length_append]
  obtain ⟨A, hA⟩ : ∃ A, A = G ++ [X] := ⟨_, rfl⟩
  have hAl : A.length = G.length + 1 := by rw [hA]; simp
  have HZA := hid (show Z = tapeB A by rw [hZ, hU, hA, tapeB_app]; simp [tapeB])
  have HZ := hid hZ
  have HA := hid hA
  have HAL := hid hAl
  have HU := hid hU
  have HCUT := hid hcut
  have HTO := hid hto
  have HLF := hid hlf
  have HGO := hid (show ∀ b ∈ G, BatOk b from fun b hb => HOK.out b (by rw [hG] at hb; exact List.mem_of_mem_take hb))
  have HAO := hid (show ∀ b ∈ A, BatOk b from fun b hb => by
    rw [hA, List.mem_append, List.mem_singleton] at hb
    rcases hb with hb | hb
    · exact HGO.out b hb
    · rw [hb]; exact HXO.out)
  have hZ2 : Z.length ≤ 30000 := by omega
  have HZL := hid hZl
  clear hF hB hC hkp hF' hB' hD hG hU hcut hto hj hlf hZ hA hAl hZl
  go_enter Tryd.func4, Tryd.ntmps4
  go_wp2_with fail
  refine HBO.out.mono ?_
  rintro e w1 ⟨a1, c1, rfl, _, hB1, hb1⟩
  have HB1 := hid hb1
  have HTD := hid (taped_any bs a1 c1 _ w1 hB1 HOK.out (by rw [← HD.out]; omega) (by omega))
  rw [← HD.out] at HTD
  clear hB1 hb1 HBO
  go_wp2_with fail
  refine HTD.out.mono ?_
  rintro e w2 ⟨a2, c2, rfl, hD2, hb2⟩
  obtain ⟨W3, hW3⟩ : ∃ W3, W3 = w2.alloc (.cells #[.slice a2 D.length c2, .int .i64 0] 40) := ⟨_, rfl⟩
  have HWE3 := hid hW3
  have hB23 : Below w2.heap.size w2 W3 := by rw [hW3]; exact one_box _ _
  have hp3 : W3.heap[w2.heap.size]? = some (.cells #[.slice a2 D.length c2, .int .i64 0] 40) := by rw [hW3]; exact heap_alloc_new w2 _
  have HP3 := hid hp3
  have HB3 := hid (show Below w.heap.size w W3 from HB1.out.trans ((hb2.trans (hB23.mono hb2.size)).mono HB1.out.size))
  have HD3 := hid (hD2.next hB23)
  have HQ := hid (show w.heap.size ≤ w2.heap.size from Nat.le_trans HB1.out.size hb2.size)
  obtain ⟨K, hK⟩ : ∃ K, K = D.take lf := ⟨_, rfl⟩
  have hKl : K.length = lf := by rw [hK, List.length_take]; omega
  have HK := hid hK
  have HKL := hid hKl
  have HCR := hid (fun u (hu : Below W3.heap.size W3 u) => show Calls Tryd.prog 11 #[.agg #[.slice a2 D.length c2, .int .i64 0], .int .i64 (kp : Nat)] u (TpP u K lf 0) by
    have h := crash_any a2 c2 D 0 (kp : Nat) _ u (HD3.out.next hu)
    unfold crashP at h
    rw [may_zero (by omega), if_pos rfl, if_neg (by omega), ← HLF.out, ← HK.out] at h
    exact h)
  obtain ⟨x0, x1, xf0, xf1⟩ := bk_box2 hp3
  have hw3 : w2.heap.size < W3.heap.size := (Array.getElem?_eq_some_iff.1 hp3).1
  obtain ⟨q, hq⟩ : ∃ q, q = w2.heap.size := ⟨_, rfl⟩
  have HQE := hid hq
  rw [← hq] at HP3 HQ x0 x1 xf0 xf1 hw3
  clear hW3 hB23 hp3 hD2 hb2 HTD hK hKl hq
  go_upto_region 2 with fail
  rw [← HWE3.out, ← HQE.out]
  go_cut [9] (fun v wx => v = .int .i64 0 ∧ TwI q lf wx K ∧ Below w.heap.size w wx)
  case first =>
    go_region_law
      (first
        | (go_simp
           go_at_call 6
           refine (HPK2.out _).mono ?_
           rintro e u ⟨rfl, hu⟩
           subst hu)
        | (go_simp
           go_at_call 11
           refine (HCR.out W3.drew ((Below.refl _ _).drew)).mono ?_
           rintro e w6 ⟨a6, c6, rfl, hO6, hb6⟩
           have hb := (Below.refl W3.heap.size W3).drew.trans hb6
           obtain ⟨d0, d1, df0, df1⟩ := bk_box2 (bk_low hb HP3.out)
           have HT2 := hid (show TwI q lf ((w6.setCell ⟨q, 0, none⟩ (.slice a6 K.length c6)).setCell ⟨q, 1, none⟩ (.int .i64 lf)) K by
             refine ⟨a6, c6, bk_put (bk_low hb HP3.out), ?_⟩
             have hv : BysM (fun k => W3.heap.size ≤ k) w6 (.slice a6 K.length c6) K := own_by hO6 rfl (by unfold maxLen; rw [HKL.out]; omega) fun g hg => (World.ownsRow.lt hO6 g hg).1
             exact hv.imp (fun k (hk : W3.heap.size ≤ k) => (by omega : q < k)) fun k _ hk => (bk_other (by omega)).trans (bk_other (by omega)))
           have HB2 := hid (show Below w.heap.size w ((w6.setCell ⟨q, 0, none⟩ (.slice a6 K.length c6)).setCell ⟨q, 1, none⟩ (.int .i64 lf)) from ((HB3.out.trans (hb.mono HB3.out.size)).setCell (by have := HQ.out; simpa using this) _).setCell (by have := HQ.out; simpa using this) _)
           clear hO6 hb6 hb)
        | fail)
    all_goals
      go_wp2_with fail
      go_meet
      exact ⟨rfl, HT2.out, HB2.out⟩
  case rest =>
    obtain ⟨rfl, hT, hbc⟩ := hcut
    obtain ⟨a7, c7, hp7, hv7⟩ := hT
    obtain ⟨y0, y1, _, _⟩ := bk_box2 hp7
    have HBc := hid hbc
    have HRC := hid (show Calls Tryd.prog 12 #[.agg #[.slice a7 K.length c7, .int .i64 lf]] wc (RcP wc G U U.length) by
      have hb := hv7
      have el : K = tapeB G ++ t := by rw [HK.out, HCUT.out, HU.out]
      have hln : (tapeB G ++ t).length = lf := by rw [← el]; exact HKL.out
      have h := recover_ok G t a7 c7 lf _ wc (by rw [← el]; exact hb) (by rw [hln]; exact may_all (by omega)) HTO.out HGO.out (by omega)
      rw [← el, ← HU.out] at h
      have e : minI (lf : Int) U.length = (U.length : Int) := by unfold minI; omega
      rw [e] at h
      exact h)
    clear hp7 hv7 hbc
    go_wp2_with fail
    refine HRC.out.mono ?_
    rintro e w4 ⟨ab, cb, a4, c4, rfl, hB4, hO4, hb4⟩
    obtain ⟨W5, hW5⟩ : ∃ W5, W5 = w4.alloc (.cells #[.slice a4 U.length c4, .int .i64 U.length] 40) := ⟨_, rfl⟩
    have HWE5 := hid hW5
    have hB45 : Below w4.heap.size w4 W5 := by rw [hW5]; exact one_box _ _
    have hp5 : W5.heap[w4.heap.size]? = some (.cells #[.slice a4 U.length c4, .int .i64 U.length] 40) := by rw [hW5]; exact heap_alloc_new w4 _
    have HP5 := hid hp5
    have HB5 := hid (show Below w.heap.size w W5 from HBc.out.trans ((hb4.trans (hB45.mono hb4.size)).mono HBc.out.size))
    have HG5 := hid (hB4.next hB45)
    have HU5 := hid ((own_by (Q := fun _ => True) hO4 rfl (by unfold maxLen; omega) fun _ _ => trivial).next hB45)
    have HBX5 := hid (HBX.out W5 HB5.out)
    clear hW5 hB45 hp5 hB4 hO4 hb4 HRC HBX
    go_upto_region 4 with fail
    rw [← HWE5.out]
    go_wp2_with fail
    refine HBX5.out.mono ?_
    rintro e w6 ⟨a6, c6, rfl, hE6, hb6⟩
    obtain ⟨W7, hW7⟩ : ∃ W7, W7 = w6.alloc (.cells #[.int .i64 X.user, .slice a6 X.ents.length c6] 34) := ⟨_, rfl⟩
    have HWE7 := hid hW7
    have hB67 : Below w6.heap.size w6 W7 := by rw [hW7]; exact one_box _ _
    have hp7 : W7.heap[w6.heap.size]? = some (.cells #[.int .i64 X.user, .slice a6 X.ents.length c6] 34) := by rw [hW7]; exact heap_alloc_new w6 _
    have HP7 := hid hp7
    have HB57 := hid (show Below W5.heap.size W5 W7 from hb6.trans (hB67.mono hb6.size))
    have HE7 := hid (hE6.next hB67)
    have HAP := hid (append_ok a4 c4 U U.length X a6 c6 _ _ W7 (HU5.out.next HB57.out) (may_all (by omega)) HXO.out HE7.out (by have := HZL.out; omega))
    rw [← HZ.out] at HAP
    obtain ⟨p0, p1, _, _⟩ := bk_box2 (bk_low HB57.out HP5.out)
    obtain ⟨q0, q1, _, _⟩ := bk_box2 hp7
    clear hW7 hB67 hp7 hE6 hb6 HBX5
    go_upto_region 5 with fail
    rw [← HWE7.out]
    go_wp2_with fail
    refine HAP.out.mono ?_
    rintro e w8 ⟨a8, c8, rfl, hO8, hb8⟩
    obtain ⟨W9, hW9⟩ : ∃ W9, W9 = w8.alloc (.cells #[.slice a8 Z.length c8, .int .i64 U.length] 40) := ⟨_, rfl⟩
    have HWE9 := hid hW9
    have hB89 : Below w8.heap.size w8 W9 := by rw [hW9]; exact one_box _ _
    have hp9 : W9.heap[w8.heap.size]? = some (.cells #[.slice a8 Z.length c8, .int .i64 U.length] 40) := by rw [hW9]; exact heap_alloc_new w8 _
    have HB79 := hid (show Below W7.heap.size W7 W9 from hb8.trans (hB89.mono hb8.size))
    have HZ9 := hid ((own_by (Q := fun _ => True) hO8 rfl (by unfold maxLen; omega) fun _ _ => trivial).next hB89)
    have HRC2 := hid (show Calls Tryd.prog 12 #[.agg #[.slice a8 Z.length c8, .int .i64 U.length]] W9 (RcP W9 A Z U.length) by
      have hb := HZ9.out
      have hmy : mayN Z.length (U.length : Int) = true := by have := HZL.out; unfold mayN; simp; omega
      have h := recover_ok A [] a8 c8 U.length _ W9 (by rw [List.append_nil, ← HZA.out]; exact hb) (by rw [List.append_nil, ← HZA.out]; exact hmy) (.inl rfl) HAO.out (by have := HAL.out; omega)
      rw [List.append_nil, ← HZA.out] at h
      have e : minI (U.length : Int) Z.length = (U.length : Int) := by have := HZL.out; unfold minI; omega
      rw [e] at h
      exact h)
    obtain ⟨r0, r1, _, _⟩ := bk_box2 hp9
    clear hW9 hB89 hp9 hO8 hb8 HAP
    go_upto_region 6 with fail
    rw [← HWE9.out]
    go_wp2_with fail
    refine HRC2.out.mono ?_
    rintro e w10 ⟨ab10, cb10, a10, c10, rfl, hB10, hO10, hb10⟩
    obtain ⟨W11, hW11⟩ : ∃ W11, W11 = w10.alloc (.cells #[.slice a10 Z.length c10, .int .i64 U.length] 40) := ⟨_, rfl⟩
    have HWE11 := hid hW11
    have hB1011 : Below w10.heap.size w10 W11 := by rw [hW11]; exact one_box _ _
    have HB911 := hid (show Below W9.heap.size W9 W11 from hb10.trans (hB1011.mono hb10.size))
    have HB711 := hid (show Below W7.heap.size W7 W11 from HB79.out.trans (HB911.out.mono HB79.out.size))
    have HB511 := hid (show Below W5.heap.size W5 W11 from HB57.out.trans (HB711.out.mono HB57.out.size))
    have HA11 := hid (hB10.next hB1011)
    have hAx : A[G.length]? = some X := by rw [HA.out]; simp
    obtain ⟨b, o, ae, ce, rfl, e0, e1, hE⟩ := HA11.out.at hAx
    obtain ⟨s0, s1, _, _⟩ := bk_box2 (bk_low HB711.out HP7.out)
    have HSB := hid (fun u (hu : Below W11.heap.size W11 u) => sameBatch_any X ae a6 ce c6 _ _ u (hE.next hu) ((HE7.out.next HB711.out).next hu))
    have HBG := hid (fun u (hu : Below W11.heap.size W11 u) => begins_any G A ab (some ⟨b, o, none⟩) cb cb10 _ _ u ((HG5.out.next HB511.out).next hu) (HA11.out.next hu) (by rw [HA.out]; simp))
    have HAL1 := hid HAL.out
    have g0 : (0 : Int) ≤ (G.length : Int) := by omega
    have g1 : (G.length : Int) < (A.length : Int) := by have := HAL.out; omega
    have g3 : IntKind.i64.wrap ((G.length : Int) + 1) = (A.length : Int) := by have := HAL.out; rw [IntKind.wrap_i64]; omega
    have HE11 := hid (show Below w.heap.size w W11 from HB5.out.trans (HB511.out.mono HB5.out.size))
    clear hW11 hB1011 hB10 hO10 hb10 hAx hE HRC2
    go_upto_region 7 with fail
    rw [← HWE11.out]
    go_cut [6] (fun v wx => v = .bool true ∧ Below w.heap.size w wx)
    case first =>
      go_region_held3 (fun w' => w'.cell? ⟨b, o + G.length * 2, none⟩ = some (.int .i64 X.user) ∧ w'.cell? ⟨b, o + G.length * 2 + 1, none⟩ = some (.slice ae X.ents.length ce) ∧ w'.cell? ⟨w6.heap.size, 0, none⟩ = some (.int .i64 X.user) ∧ w'.cell? ⟨w6.heap.size, 1, none⟩ = some (.slice a6 X.ents.length c6)) (go_keep)
        (first
          | (go_at_call 16
             with_reducible refine (HSB.out w12 HB12.out).mono ?_
             rintro e w13 ⟨rfl, hb13⟩
             have hb := HB12.out.trans (hb13.mono HB12.out.size)
             have HB13 := hid hb
             have v0 := wcell_next e0 hb
             have v1 := wcell_next e1 hb
             have v2 := wcell_next s0 hb
             have v3 := wcell_next s1 hb
             clear hb13 hb)
          | (go_at_call 15
             with_reducible refine (HBG.out W11.drew ((Below.refl _ _).drew)).mono ?_
             rintro e w12 ⟨rfl, hb12⟩
             have hb := (Below.refl W11.heap.size W11).drew.trans hb12
             have HB12 := hid hb
             have u0 := wcell_next e0 hb
             have u1 := wcell_next e1 hb
             have u2 := wcell_next s0 hb
             have u3 := wcell_next s1 hb
             clear hb12 hb)
          | fail)
      all_goals
        go_wp2_with fail
        go_meet
        exact ⟨by first | rfl | simp, HE11.out.trans (HB13.out.mono HE11.out.size)⟩
    case rest =>
      obtain ⟨rfl, hbx⟩ := hcut
      have HE := hid hbx
      clear hbx
      go_wp2
      go_ret
      exact ⟨rfl, HE.out⟩
end Go.Proofs.YtneikogloopodaaDoor
