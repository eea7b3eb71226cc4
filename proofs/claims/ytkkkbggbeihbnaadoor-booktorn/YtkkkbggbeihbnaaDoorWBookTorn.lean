/-
  Of a torn tape just the whole batches count: walked.
-/
import Derived.Test.YtkkkbggbeihbnaaDoorBkLz
namespace Go.Proofs.YtkkkbggbeihbnaaDoor
open Go.RowKit Go.Proofs

theorem BysM.cut {Q : Nat → Prop} {w : World} {a : Option Addr} {n c : Nat} {l : List UInt8} (h : BysM Q w (.slice a n c) l) {k : Nat} (hk : k ≤ l.length) : BysM Q w (.slice a k k) (l.take k) := by
  obtain ⟨a', c', h1, h2, h3, h4⟩ := h.take hk
  simp only [Value.slice.injEq] at h1
  obtain ⟨rfl, h5, rfl⟩ := h1
  exact ⟨a, k, by rw [← h5], by omega, h3, h4⟩
theorem Torn.nil : Torn [] := .inl rfl
set_option maxHeartbeats 2000000 in
set_option maxRecDepth 100000 in
theorem bookTorn_walk (w : World) (_hm : maxLenCell w) (a : Option Addr) (c : Nat) (ls : List Chr) (hF : ChsM (fun _ => True) w (.slice a ls.length c) ls) (hB : ∀ x ∈ ls, chrW x) (hC : ls.length ≤ c) (at' : Int) (hat : (Lit.int .i64 at').wf = true) :
    Calls Tryd.prog 8 #[.slice a ls.length c, .int .i64 at'] w fun e w' => e = .returned (.bool true) ∧ Below w.heap.size w w' := by
  have HBO := hid (batchesOf_any ls a c w _ hF hB hC)
  have hmany := batsP_many ls
  have htape := batsP_tape ls
  have HOK := hid (batsP_ok ls)
  generalize batsP ls = bs at *
  obtain ⟨D, hD⟩ : ∃ D, D = tapeB bs := ⟨_, rfl⟩
  have HD := hid hD
  rw [← hD] at htape
  have HPK := hid (fun v => picked_any at' (D.length + 1) v hat (by omega) (by omega))
  have hkl := pickN_lt at' (D.length + 1) (by omega)
  generalize pickN at' (D.length + 1) = k at *
  obtain ⟨j, t, hj, hcut, hto, hj1, hj2, _⟩ := tape_cut bs (fun b hb => ⟨(HOK.out b hb).fit, by have := (HOK.out b hb).len; omega⟩) k
  rw [← hD] at hcut hj1 hj2
  obtain ⟨G, hG⟩ : ∃ G, G = bs.take j := ⟨_, rfl⟩
  obtain ⟨U, hU⟩ : ∃ U, U = tapeB G := ⟨_, rfl⟩
  rw [← hG, ← hU] at hcut
  have hGl : G.length = j := by rw [hG, List.length_take]; omega
  have hUk : U.length ≤ k := by
    have := congrArg List.length hcut
    rw [List.length_take, List.length_append] at this
    omega
  have HG := hid hG
  have HU := hid hU
  have HCUT := hid hcut
  have HTO := hid hto
  have HGO := hid (show ∀ b ∈ G, BatOk b from fun b hb => HOK.out b (by rw [hG] at hb; exact List.mem_of_mem_take hb))
  have HGL := hid hGl
  have HGB := hid (show G.length ≤ 24 by omega)
  obtain ⟨bo, hb1, hb2⟩ : ∃ bo : Bool, ((G.length : Int) == (bs.length : Int)) = bo ∧ ((k : Int) == (D.length : Int)) = bo := by
    by_cases hjj : j = bs.length
    · refine ⟨true, ?_, ?_⟩
      · rw [beq_iff_eq]; omega
      · rw [beq_iff_eq]; have := hj2 hjj; omega
    · refine ⟨false, ?_, ?_⟩
      · rw [beq_eq_false_iff_ne]; omega
      · rw [beq_eq_false_iff_ne]; intro e; exact hjj (hj1 (by omega))
  have hUd : U.length ≤ 23232 := by omega
  clear hF hB hC hat hD hG hU hcut hto hj1 hj2 hj hGl
  go_enter Tryd.func8, Tryd.ntmps8
  go_wp2_with fail
  refine HBO.out.mono ?_
  rintro e w1 ⟨a1, c1, rfl, _, hB1, hb1'⟩
  have HB1 := hid hb1'
  have HBS := hid hB1
  have HTD := hid (taped_any bs a1 c1 _ w1 hB1 HOK.out (by rw [← HD.out]; omega) (by omega))
  rw [← HD.out] at HTD
  clear hB1 hb1' HBO
  go_wp2_with fail
  refine HTD.out.mono ?_
  rintro e w2 ⟨a2, c2, rfl, hD2, hb2'⟩
  obtain ⟨W3, hW3⟩ : ∃ W3, W3 = w2.alloc (.cells #[.slice a2 D.length c2, .int .i64 0] 49) := ⟨_, rfl⟩
  have HWE3 := hid hW3
  have hB23 : Below w2.heap.size w2 W3 := by rw [hW3]; exact one_box _ _
  have hp3 : W3.heap[w2.heap.size]? = some (.cells #[.slice a2 D.length c2, .int .i64 0] 49) := by rw [hW3]; exact heap_alloc_new w2 _
  have HP3 := hid hp3
  have HB13 := hid (show Below w1.heap.size w1 W3 from hb2'.trans (hB23.mono hb2'.size))
  have HD3 := hid (hD2.next hB23)
  have hcap : D.length ≤ c2 := by
    obtain ⟨a', c', e, h2, _⟩ := HD3.out.slice
    simp only [Value.slice.injEq] at e
    omega
  have k0 : (0 : Int) ≤ (k : Int) := by omega
  have k1 : (k : Int) ≤ (c2 : Int) := by omega
  have HRC := hid (show Calls Tryd.prog 23 #[.agg #[.slice a2 k k, .int .i64 0]] W3 (RcP W3 G U 0) by
    have hb := HD3.out.cut (k := k) (by omega)
    rw [HCUT.out, HU.out] at hb
    have el : (tapeB G ++ t).length = k := by rw [← HU.out, ← HCUT.out, List.length_take]; omega
    have h := recover_ok G t a2 k 0 _ W3 (by rw [el]; exact hb) (by rw [el]; exact may_zero (by omega)) HTO.out HGO.out (by have := HGB.out; omega)
    rw [el, ← HU.out] at h
    have e : minI 0 U.length = 0 := by unfold minI; omega
    rw [e] at h
    exact h)
  obtain ⟨x0, x1, _, _⟩ := bk_box2 hp3
  clear hW3 hB23 hp3 hD2 hb2' HTD
  go_upto_region 3 with fail
  rw [← HWE3.out]
  go_wp2_with fail
  refine (HPK.out _).mono ?_
  rintro e v ⟨rfl, hv⟩
  have hv' := hv.symm
  subst hv'
  clear hv
  go_wp2_with fail
  refine HRC.out.mono ?_
  rintro e w4 ⟨ab, cb, a4, c4, rfl, hB4, hO4, hb4⟩
  obtain ⟨W5, hW5⟩ : ∃ W5, W5 = w4.alloc (.cells #[.slice a4 U.length c4, .int .i64 0] 49) := ⟨_, rfl⟩
  have HWE5 := hid hW5
  have hB45 : Below w4.heap.size w4 W5 := by rw [hW5]; exact one_box _ _
  have hp5 : W5.heap[w4.heap.size]? = some (.cells #[.slice a4 U.length c4, .int .i64 0] 49) := by rw [hW5]; exact heap_alloc_new w4 _
  have HP5 := hid hp5
  have HB35 := hid (show Below W3.heap.size W3 W5 from hb4.trans (hB45.mono hb4.size))
  have HG5 := hid (hB4.next hB45)
  have HU5 := hid ((own_by (Q := fun _ => True) hO4 rfl (by unfold maxLen; omega) fun _ _ => trivial).next hB45)
  have HRC2 := hid (show Calls Tryd.prog 23 #[.agg #[.slice a4 U.length c4, .int .i64 0]] W5 (RcP W5 G U 0) by
    have hb := HU5.out
    have h := recover_ok G [] a4 c4 0 _ W5 (by rw [List.append_nil, ← HU.out]; exact hb) (by rw [List.append_nil, ← HU.out]; exact may_zero (by omega)) Torn.nil HGO.out (by have := HGB.out; omega)
    rw [List.append_nil, ← HU.out] at h
    have e : minI 0 U.length = 0 := by unfold minI; omega
    rw [e] at h
    exact h)
  obtain ⟨y0, y1, _, _⟩ := bk_box2 hp5
  clear hW5 hB45 hp5 hB4 hO4 hb4 HRC
  go_upto_region 5 with fail
  rw [← HWE5.out]
  go_wp2_with fail
  refine HRC2.out.mono ?_
  rintro e w6 ⟨ab6, cb6, a6, c6, rfl, hB6, hO6, hb6⟩
  obtain ⟨W7, hW7⟩ : ∃ W7, W7 = w6.alloc (.cells #[.slice a6 U.length c6, .int .i64 0] 49) := ⟨_, rfl⟩
  have HWE7 := hid hW7
  have hB67 : Below w6.heap.size w6 W7 := by rw [hW7]; exact one_box _ _
  have hp7 : W7.heap[w6.heap.size]? = some (.cells #[.slice a6 U.length c6, .int .i64 0] 49) := by rw [hW7]; exact heap_alloc_new w6 _
  have HP7 := hid hp7
  have HB57 := hid (show Below W5.heap.size W5 W7 from hb6.trans (hB67.mono hb6.size))
  have HG7 := hid (hB6.next hB67)
  have HU7 := hid ((own_by (Q := fun _ => True) hO6 rfl (by unfold maxLen; omega) fun _ _ => trivial).next hB67)
  have HRB := hid (recover_bad none 0 0 1 W7 (by decide))
  clear hW7 hB67 hp7 hB6 hO6 hb6 HRC2
  go_upto_region 6 with fail
  rw [← HWE7.out]
  go_wp2_with fail
  refine HRB.out.mono ?_
  rintro e w8 ⟨rfl, hb8⟩
  obtain ⟨W9, hW9⟩ : ∃ W9, W9 = w8.alloc (.cells #[.slice none 0 0, .int .i64 0] 49) := ⟨_, rfl⟩
  have HWE9 := hid hW9
  have hB89 : Below w8.heap.size w8 W9 := by rw [hW9]; exact one_box _ _
  have HB79 := hid (show Below W7.heap.size W7 W9 from hb8.trans (hB89.mono hb8.size))
  have HB59 := hid (show Below W5.heap.size W5 W9 from HB57.out.trans (HB79.out.mono HB57.out.size))
  have HB39 := hid (show Below W3.heap.size W3 W9 from HB35.out.trans (HB59.out.mono HB35.out.size))
  have HBG := hid (begins_any G bs ab a1 cb c1 _ _ W9 (HG5.out.next HB59.out) ((HBS.out.next HB13.out).next HB39.out) (by rw [HGL.out]; exact HG.out))
  clear hW9 hB89 hb8 HRB
  go_upto_region 7 with fail
  rw [← HWE9.out]
  go_wp2_with fail
  refine HBG.out.mono ?_
  rintro e w10 ⟨rfl, hb10⟩
  have HB710 := hid (show Below W7.heap.size W7 w10 from HB79.out.trans (hb10.mono HB79.out.size))
  have HB510 := hid (show Below W5.heap.size W5 w10 from HB59.out.trans (hb10.mono HB59.out.size))
  have HB310 := hid (show Below W3.heap.size W3 w10 from HB39.out.trans (hb10.mono HB39.out.size))
  have HBG2 := hid (begins_any G G ab6 ab cb6 cb _ _ w10 (HG7.out.next HB710.out) (HG5.out.next HB510.out) (by rw [List.take_of_length_le (Nat.le_refl _)]))
  clear hb10
  go_wp2_with fail
  refine HBG2.out.mono ?_
  rintro e w11 ⟨rfl, hb11⟩
  have HB711 := hid (show Below W7.heap.size W7 w11 from HB710.out.trans (hb11.mono HB710.out.size))
  have HB511 := hid (show Below W5.heap.size W5 w11 from HB510.out.trans (hb11.mono HB510.out.size))
  have HB311 := hid (show Below W3.heap.size W3 w11 from HB310.out.trans (hb11.mono HB310.out.size))
  obtain ⟨r0, r1, _, _⟩ := bk_box2 (bk_low HB711.out HP7.out)
  obtain ⟨s0, s1, _, _⟩ := bk_box2 (bk_low HB511.out HP5.out)
  obtain ⟨q0, q1, _, _⟩ := bk_box2 (bk_low HB311.out HP3.out)
  have t1 := by_text (HU7.out.next HB711.out)
  have t2 := by_text (HU5.out.next HB511.out)
  have n1 : ((U.length : Nat) : Int) ≤ (k : Int) := by omega
  have HE := hid (show Below w.heap.size w w11 from HB1.out.trans ((HB13.out.trans (HB311.out.mono HB13.out.size)).mono HB1.out.size))
  clear hb11
  go_wp2
  go_ret
  exact ⟨by first | rfl | simp, HE.out⟩
end Go.Proofs.YtkkkbggbeihbnaaDoor
