/-
  What is synced whole is recovered whole, whatever a crash keeps: walked.
-/
import Derived.Test.YtaaenhjhjclilabDoorBkLz
import Derived.Test.YtaaenhjhjclilabDoorBkSy
namespace Go.Proofs.YtaaenhjhjclilabDoor
open Go.RowKit Go.Proofs

set_option maxHeartbeats 2000000 in
set_option maxRecDepth 100000 in
theorem bookSynced_walk (w : World) (_hm : maxLenCell w) (a : Option Addr) (c : Nat) (ls : List Chr) (hF : ChsM (fun _ => True) w (.slice a ls.length c) ls) (hB : ∀ x ∈ ls, chrW x) (hC : ls.length ≤ c) (keep : Int) (hk : (Lit.int .i64 keep).wf = true) :
    Calls Tryd.prog 4 #[.slice a ls.length c, .int .i64 keep] w fun e w' => e = .returned (.bool true) ∧ Below w.heap.size w w' := by
  have HBO := hid (batchesOf_any ls a c w _ hF hB hC)
  have hmany := batsP_many ls
  have htape := batsP_tape ls
  have HOK := hid (batsP_ok ls)
  have HPK := hid (show ∀ v : World, Calls Tryd.prog 6 #[.int .i64 keep, .int .i64 1000] v fun e w' => e = .returned (.int .i64 (pickN keep 1000 : Nat)) ∧ w' = v from fun v => picked_any keep 1000 v hk (by decide) (by decide))
  obtain ⟨pk, hpk⟩ : ∃ pk, pk = pickN keep 1000 := ⟨_, rfl⟩
  rw [← hpk] at HPK
  generalize batsP ls = bs at *
  obtain ⟨D, hD⟩ : ∃ D, D = tapeB bs := ⟨_, rfl⟩
  have HD := hid hD
  rw [← hD] at htape
  clear hF hB hC hk hpk hD
  go_enter Tryd.func4, Tryd.ntmps4
  go_wp2_with fail
  refine HBO.out.mono ?_
  rintro e w1 ⟨a1, c1, rfl, _, hB1, hb1⟩
  have HB1 := hid hb1
  have HBS := hid hB1
  have HTD := hid (taped_any bs a1 c1 _ w1 hB1 HOK.out (by rw [← HD.out]; omega) (by omega))
  rw [← HD.out] at HTD
  clear hB1 hb1 HBO
  go_wp2_with fail
  refine HTD.out.mono ?_
  rintro e w2 ⟨a2, c2, rfl, hD2, hb2⟩
  obtain ⟨W3, hW3⟩ : ∃ W3, W3 = w2.alloc (.cells #[.slice a2 D.length c2, .int .i64 0] 40) := ⟨_, rfl⟩
  have HWE3 := hid hW3
  have hB23 : Below w2.heap.size w2 W3 := by rw [hW3]; exact one_box _ _
  have hp3 : W3.heap[w2.heap.size]? = some (.cells #[.slice a2 D.length c2, .int .i64 0] 40) := by rw [hW3]; exact heap_alloc_new w2 _
  have HP3 := hid hp3
  have HB13 := hid (show Below w1.heap.size w1 W3 from hb2.trans (hB23.mono hb2.size))
  have HD3 := hid (hD2.next hB23)
  have HSY := hid (sync_any a2 c2 D 0 _ W3 HD3.out)
  rw [may_zero (by omega), if_pos rfl] at HSY
  obtain ⟨x0, x1, _, _⟩ := bk_box2 hp3
  clear hW3 hB23 hp3 hD2 hb2 HTD
  go_upto_region 3 with fail
  rw [← HWE3.out]
  go_wp2_with fail
  refine HSY.out.mono ?_
  intro e w4 h4
  obtain ⟨a4, c4, rfl, hD4, hb4⟩ := h4.read (by omega)
  obtain ⟨W5, hW5⟩ : ∃ W5, W5 = w4.alloc (.cells #[.slice a4 D.length c4, .int .i64 D.length] 40) := ⟨_, rfl⟩
  have HWE5 := hid hW5
  have hB45 : Below w4.heap.size w4 W5 := by rw [hW5]; exact one_box _ _
  have hp5 : W5.heap[w4.heap.size]? = some (.cells #[.slice a4 D.length c4, .int .i64 D.length] 40) := by rw [hW5]; exact heap_alloc_new w4 _
  have HB35 := hid (show Below W3.heap.size W3 W5 from hb4.trans (hB45.mono hb4.size))
  have HD5 := hid (hD4.next hB45)
  have HCR := hid (fun u (hu : Below W5.heap.size W5 u) => show Calls Tryd.prog 12 #[.agg #[.slice a4 D.length c4, .int .i64 D.length], .int .i64 (pk : Nat)] u (TpP u D D.length 0) by
    have h := crash_any a4 c4 D D.length (pk : Nat) _ u (HD5.out.next hu)
    have e1 : leftN D.length (D.length : Int) (pk : Nat) = D.length := by unfold leftN; rw [if_neg (by omega)]
    unfold crashP at h
    rw [may_all (by omega), if_pos rfl, if_neg (by omega), e1, List.take_of_length_le (Nat.le_refl _)] at h
    exact h)
  obtain ⟨y0, y1, _, _⟩ := bk_box2 hp5
  have HBA := hid (show Below W5.heap.size W5 (W5.alloc (.cells #[.slice none 0 0, .int .i64 0] 40)).drew from ((Below.refl W5.heap.size W5).alloc (Nat.le_refl _) _).drew)
  have HNA := hid (show (W5.alloc (.cells #[.slice none 0 0, .int .i64 0] 40)).drew.heap[W5.heap.size]? = some (.cells #[.slice none 0 0, .int .i64 0] 40) from heap_alloc_new W5 _)
  have hne0 : w4.heap.size ≠ W5.heap.size := Nat.ne_of_lt (Array.getElem?_eq_some_iff.1 hp5).1
  have HL1 := hid (show D.length ≤ 1000000 by omega)
  clear hW5 hB45 hp5 hD4 hb4 h4 HSY
  go_upto_region 4 with fail
  rw [← HWE5.out]
  go_cut [10, 11] (fun p v wx => TpB W5 D D.length 0 p v wx)
  case first =>
    go_region_held3 (fun w' => w'.cell? ⟨w4.heap.size, 0, none⟩ = some (.slice a4 D.length c4) ∧ w'.cell? ⟨w4.heap.size, 1, none⟩ = some (.int .i64 D.length))
      (first | (go_keep; done) | exact ⟨far2 hne0 r0, far2 hne0 r1⟩ | fail)
      (first
        | (go_at_call 6
           with_reducible refine (HPK.out _).mono ?_
           rintro e u ⟨rfl, hu⟩
           subst hu)
        | (go_at_call 12
           with_reducible refine (HCR.out W5.drew ((Below.refl _ _).drew)).mono ?_
           rintro e w6 ⟨a6, c6, rfl, hO6, hb6⟩
           have hb := (Below.refl W5.heap.size W5).drew.trans hb6
           have HAR := hid (tpb_call (s := D.length) (er := 0) HL1.out ((Below.refl W5.heap.size W5).drew) hO6 hb6)
           have r0 := wcell_next y0 hb
           have r1 := wcell_next y1 hb
           clear hO6 hb6 hb)
        | (go_at_call 12
           with_reducible refine (HCR.out ((W5.alloc (.cells #[.slice none 0 0, .int .i64 0] 40)).drew) HBA.out).mono ?_
           rintro e w6 ⟨a6, c6, rfl, hO6, hb6⟩
           have hb := HBA.out.trans (hb6.mono HBA.out.size)
           have HPe := bk_low hb6 HNA.out
           have HAR := hid (tpb_set (s := D.length) (er := 0) HL1.out HBA.out (Array.getElem?_eq_some_iff.1 HNA.out).1 hO6 hb6 HPe)
           obtain ⟨t0', t1', f0', f1'⟩ := bk_box2 HPe
           have r0 := wcell_next y0 hb
           have r1 := wcell_next y1 hb
           clear hO6 hb6 hb HPe)
        | fail)
    all_goals
      go_wp2_with fail
      go_meet
      exact HAR.out
  case rest =>
    obtain ⟨pn, a6, c6, rfl, rfl, hp6, hpn, hD6, hb6⟩ := hcut
    obtain ⟨z0, z1, _, _⟩ := bk_box2 hp6
    have HB6 := hid hb6
    have HRC := hid (show Calls Tryd.prog 13 #[.agg #[.slice a6 D.length c6, .int .i64 D.length]] wc (RcP wc bs D D.length) by
      have h := recover_ok bs [] a6 c6 D.length _ wc (by rw [List.append_nil, ← HD.out]; exact hD6) (by rw [List.append_nil, ← HD.out]; exact may_all (by omega)) (.inl rfl) HOK.out (by omega)
      rw [List.append_nil, ← HD.out] at h
      have e : minI (D.length : Int) D.length = (D.length : Int) := by unfold minI; omega
      rw [e] at h
      exact h)
    clear hp6 hb6 hD6
    go_wp2_with fail
    refine HRC.out.mono ?_
    rintro e w7 ⟨ab, cb, a7, c7, rfl, hB7, hO7, hb7⟩
    obtain ⟨W8, hW8⟩ : ∃ W8, W8 = w7.alloc (.cells #[.slice a7 D.length c7, .int .i64 D.length] 40) := ⟨_, rfl⟩
    have HWE8 := hid hW8
    have hB78 : Below w7.heap.size w7 W8 := by rw [hW8]; exact one_box _ _
    have hp8 : W8.heap[w7.heap.size]? = some (.cells #[.slice a7 D.length c7, .int .i64 D.length] 40) := by rw [hW8]; exact heap_alloc_new w7 _
    have HP8 := hid hp8
    have HB38 := hid (show Below W3.heap.size W3 W8 from HB35.out.trans ((HB6.out.trans ((hb7.trans (hB78.mono hb7.size)).mono HB6.out.size)).mono HB35.out.size))
    have HG8 := hid (hB7.next hB78)
    have HD8 := hid ((own_by (Q := fun _ => True) hO7 rfl (by unfold maxLen; omega) fun _ _ => trivial).next hB78)
    obtain ⟨q0, q1, _, _⟩ := bk_box2 (bk_low HB38.out HP3.out)
    have HCT := hid (show Calls Tryd.prog 12 #[.agg #[.slice a2 D.length c2, .int .i64 0], .int .i64 (-1)] W8 (TpP W8 [] 0 6) by
      have h := crash_any a2 c2 D 0 (-1) _ W8 (HD3.out.next HB38.out)
      unfold crashP at h
      rw [may_zero (by omega), if_pos rfl, if_pos (by decide)] at h
      exact h)
    clear hW8 hB78 hp8 hB7 hO7 hb7 HRC
    go_upto_region 6 with fail
    rw [← HWE8.out]
    go_wp2_with fail
    refine HCT.out.mono ?_
    intro e w9 h9
    obtain ⟨a9, c9, rfl, _, hb9⟩ := h9.read (by simp)
    simp only [List.length_nil]
    obtain ⟨W10, hW10⟩ : ∃ W10, W10 = w9.alloc (.cells #[.slice a9 0 c9, .int .i64 0] 40) := ⟨_, rfl⟩
    have HWE10 := hid hW10
    have hB910 : Below w9.heap.size w9 W10 := by rw [hW10]; exact one_box _ _
    have HB810 := hid (show Below W8.heap.size W8 W10 from hb9.trans (hB910.mono hb9.size))
    have HB310 := hid (show Below W3.heap.size W3 W10 from HB38.out.trans (HB810.out.mono HB38.out.size))
    have HBG := hid (begins_any bs bs ab a1 cb c1 _ _ W10 (HG8.out.next HB810.out) ((HBS.out.next HB13.out).next HB310.out) (by rw [List.take_of_length_le (Nat.le_refl _)]))
    clear hW10 hB910 hb9 h9 HCT
    go_upto_region 7 with fail
    rw [← HWE10.out]
    go_wp2_with fail
    refine HBG.out.mono ?_
    rintro e w11 ⟨rfl, hb11⟩
    have HB811 := hid (show Below W8.heap.size W8 w11 from HB810.out.trans (hb11.mono HB810.out.size))
    have HB311 := hid (show Below W3.heap.size W3 w11 from HB310.out.trans (hb11.mono HB310.out.size))
    obtain ⟨r0, r1, _, _⟩ := bk_box2 (bk_low HB811.out HP8.out)
    obtain ⟨s0, s1, _, _⟩ := bk_box2 (bk_low HB311.out HP3.out)
    have t1 := by_text (HD8.out.next HB811.out)
    have t2 := by_text (HD3.out.next HB311.out)
    have HE := hid (show Below w.heap.size w w11 from HB1.out.trans ((HB13.out.trans (HB311.out.mono HB13.out.size)).mono HB1.out.size))
    clear hb11
    go_wp2
    go_ret
    exact ⟨by first | rfl | simp, HE.out⟩
end Go.Proofs.YtaaenhjhjclilabDoor
