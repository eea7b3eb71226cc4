/-
  What was synced is recovered behind every crash, and perhaps some more of what was written, in its order: walked.
-/
import Derived.Test.YtkkkbggbeihbnaaDoorBkLz
import Derived.Test.YtkkkbggbeihbnaaDoorBkSy
namespace Go.Proofs.YtkkkbggbeihbnaaDoor
open Go.RowKit Go.Proofs

/-- The tape so far, in the law's variable. -/
def TvI (q : Nat) (s : Int) (wr : World) (l : List UInt8) : Prop := ∃ a c, wr.heap[q]? = some (.cells #[.slice a l.length c, .int .i64 s] 49) ∧ BysM (fun k => q < k) wr (.slice a l.length c) l
theorem TvI.same {q : Nat} {s : Int} {wr wx : World} {l : List UInt8} (h : TvI q s wr l) (hb : Below wr.heap.size wr wx) : TvI q s wx l := by
  obtain ⟨a, c, h1, h2⟩ := h
  exact ⟨a, c, bk_low hb h1, h2.next hb⟩
theorem TvI.put {q : Nat} {s s' : Int} {wr wx : World} {l l' : List UInt8} {a : Option Addr} {c : Nat} (h : TvI q s wr l) (hb : Below wr.heap.size wr wx) (hv : BysM (fun k => wr.heap.size ≤ k) wx (.slice a l'.length c) l') : TvI q s' ((wx.setCell ⟨q, 0, none⟩ (.slice a l'.length c)).setCell ⟨q, 1, none⟩ (.int .i64 s')) l' := by
  obtain ⟨_, _, h1, _⟩ := h
  have hq : q < wr.heap.size := (Array.getElem?_eq_some_iff.1 h1).1
  exact ⟨a, c, bk_put (bk_low hb h1), hv.imp (fun k (hk : wr.heap.size ≤ k) => (by omega : q < k)) fun k _ hk => (bk_other (by omega)).trans (bk_other (by omega))⟩
theorem tapeT_mono (bs : List Bat) {i j : Nat} (h : i ≤ j) : (tapeT bs i).length ≤ (tapeT bs j).length := by
  have e : tapeT bs i = tapeT (bs.take j) i := by unfold tapeT; rw [List.take_take, Nat.min_eq_left h]
  rw [e]
  exact tapeT_len _ _
set_option maxHeartbeats 2000000 in
set_option maxRecDepth 100000 in
theorem bookKeeps_walk (w : World) (_hm : maxLenCell w) (a : Option Addr) (c : Nat) (ls : List Chr) (hF : ChsM (fun _ => True) w (.slice a ls.length c) ls) (hB : ∀ x ∈ ls, chrW x) (hC : ls.length ≤ c) (at' : Int) (hat : (Lit.int .i64 at').wf = true) (keep : Int) (hkp : (Lit.int .i64 keep).wf = true) :
    Calls Tryd.prog 7 #[.slice a ls.length c, .int .i64 at', .int .i64 keep] w fun e w' => e = .returned (.bool true) ∧ Below w.heap.size w w' := by
  have HBO := hid (batchesOf_any ls a c w _ hF hB hC)
  have hmany := batsP_many ls
  have htape := batsP_tape ls
  have HOK := hid (batsP_ok ls)
  generalize batsP ls = bs at *
  have HTL := hid (fun j => Nat.le_trans (tapeT_len bs j) htape)
  have HPK := hid (fun v => picked_any at' (bs.length + 1) v hat (by omega) (by omega))
  have hkl := pickN_lt at' (bs.length + 1) (by omega)
  generalize pickN at' (bs.length + 1) = k at *
  have HPK2 := hid (show ∀ v : World, Calls Tryd.prog 10 #[.int .i64 keep, .int .i64 600] v fun e w' => e = .returned (.int .i64 (pickN keep 600 : Nat)) ∧ w' = v from fun v => picked_any keep 600 v hkp (by decide) (by decide))
  generalize pickN keep 600 = kp at *
  -- the synced tape
  obtain ⟨N, hN⟩ : ∃ N, N = tapeT bs k := ⟨_, rfl⟩
  have hNl : N.length ≤ 23232 := by rw [hN]; exact HTL.out k
  have HN := hid hN
  -- what a crash leaves
  obtain ⟨D, hD⟩ : ∃ D, D = tapeB bs := ⟨_, rfl⟩
  have HD := hid hD
  rw [← hD] at htape
  have hND : N.length ≤ D.length := by rw [hN, hD]; exact tapeT_len _ _
  obtain ⟨lf, hlf⟩ : ∃ lf, lf = leftN D.length N.length (kp : Nat) := ⟨_, rfl⟩
  have hlf1 : lf ≤ D.length := by rw [hlf]; exact leftN_le
  have hlf2 : N.length ≤ lf := by
    have := leftN_ge (n := D.length) (s := (N.length : Int)) (keep := ((kp : Nat) : Int)) (by omega) (by omega) (by omega)
    rw [← hlf] at this
    omega
  obtain ⟨j, t, hj, hcut, hto, _, _, hj3⟩ := tape_cut bs (fun b hb => ⟨(HOK.out b hb).fit, by have := (HOK.out b hb).len; omega⟩) lf
  have hkj : k ≤ j := hj3 k (by omega) (by have h := hlf2; rw [hN] at h; exact h)
  rw [← hD] at hcut
  obtain ⟨G, hG⟩ : ∃ G, G = bs.take j := ⟨_, rfl⟩
  obtain ⟨U, hU⟩ : ∃ U, U = tapeB G := ⟨_, rfl⟩
  rw [← hG, ← hU] at hcut
  have hGl : G.length = j := by rw [hG, List.length_take]; omega
  have hUlf : U.length ≤ lf := by
    have := congrArg List.length hcut
    rw [List.length_take, List.length_append] at this
    omega
  have hNU : N.length ≤ U.length := by rw [hN, hU, hG]; exact tapeT_mono bs hkj
  have hNp : k = 0 ∨ 0 < N.length := by
    by_cases h0 : k = 0
    · exact .inl h0
    · right
      have h1 : tapeT bs 1 = frB bs[0] := by
        have hb0 : 0 < bs.length := by omega
        have := tapeT_step (List.getElem?_eq_getElem hb0)
        rw [this]
        simp [tapeT, tapeB]
      have h2 := tapeT_mono bs (i := 1) (j := k) (by omega)
      rw [h1, frB_len, ← hN] at h2
      omega
  have HG := hid hG
  have HU := hid hU
  have HCUT := hid hcut
  have HTO := hid hto
  have HLF := hid hlf
  have HGO := hid (show ∀ b ∈ G, BatOk b from fun b hb => HOK.out b (by rw [hG] at hb; exact List.mem_of_mem_take hb))
  have HGL := hid hGl
  have HGB := hid (show G.length ≤ 24 by omega)
  have hkG : (k : Int) ≤ (G.length : Int) := by omega
  have HTK := hid (show tapeB (bs.take k) = N by rw [hN]; rfl)
  have htk : (bs.take k).length = k := by rw [List.length_take]; omega
  have HTKL := hid htk
  clear hF hB hC hat hkp hD hG hU hcut hto hj hj3 hGl hN hlf hkj htk
  go_enter Tryd.func7, Tryd.ntmps7
  go_wp2_with fail
  refine HBO.out.mono ?_
  rintro e w1 ⟨a1, c1, rfl, hc1, hB1, hb1⟩
  have HB1 := hid hb1
  have HBS := hid hB1
  have HTD := hid (show Calls Tryd.prog 19 #[.slice a1 k k] w1 (TdP w1 N) by
    have hb := hB1.take (k := k) (by omega) k
    have h := taped_any (bs.take k) a1 k _ w1 (by rw [HTKL.out]; exact hb) (fun b hb => HOK.out b (List.mem_of_mem_take hb)) (by rw [HTK.out]; omega) (by rw [HTKL.out]; omega)
    rw [HTK.out, HTKL.out] at h
    exact h)
  have k0 : (0 : Int) ≤ (k : Int) := by omega
  have k1 : (k : Int) ≤ (c1 : Int) := by omega
  clear hB1 hb1 HBO hc1
  go_wp2_with fail
  refine (HPK.out _).mono ?_
  rintro e v ⟨rfl, hv⟩
  have hv' := hv.symm
  subst hv'
  clear hv
  go_wp2_with fail
  refine HTD.out.mono ?_
  rintro e w2 ⟨a2, c2, rfl, hD2, hb2⟩
  obtain ⟨W3, hW3⟩ : ∃ W3, W3 = w2.alloc (.cells #[.slice a2 N.length c2, .int .i64 0] 49) := ⟨_, rfl⟩
  have HWE3 := hid hW3
  have hB23 : Below w2.heap.size w2 W3 := by rw [hW3]; exact one_box _ _
  have hp3 : W3.heap[w2.heap.size]? = some (.cells #[.slice a2 N.length c2, .int .i64 0] 49) := by rw [hW3]; exact heap_alloc_new w2 _
  have HP3 := hid hp3
  have HB13 := hid (show Below w1.heap.size w1 W3 from hb2.trans (hB23.mono hb2.size))
  have HD3 := hid (hD2.next hB23)
  have HSY := hid (sync_any a2 c2 N 0 _ W3 HD3.out)
  rw [may_zero (by omega), if_pos rfl] at HSY
  have HQ := hid (show w1.heap.size ≤ w2.heap.size from hb2.size)
  obtain ⟨x0, x1, _, _⟩ := bk_box2 hp3
  clear hW3 hB23 hp3 hD2 hb2 HTD
  go_upto_region 4 with fail
  rw [← HWE3.out]
  go_wp2_with fail
  refine HSY.out.mono ?_
  rintro e w4 ⟨a4, c4, rfl, hO4, hb4⟩
  have hq3 := bk_low hb4 HP3.out
  obtain ⟨y0, y1, yf0, yf1⟩ := bk_box2 hq3
  have hw3 : w2.heap.size < W3.heap.size := (Array.getElem?_eq_some_iff.1 HP3.out).1
  obtain ⟨W5, hW5⟩ : ∃ W5, W5 = (w4.setCell ⟨w2.heap.size, 0, none⟩ (.slice a4 N.length c4)).setCell ⟨w2.heap.size, 1, none⟩ (.int .i64 N.length) := ⟨_, rfl⟩
  have HWE5 := hid hW5
  have HI5 := hid (show TvI w2.heap.size N.length W5 N by
    rw [hW5]
    refine ⟨a4, c4, bk_put hq3, ?_⟩
    have hv : BysM (fun k => W3.heap.size ≤ k) w4 (.slice a4 N.length c4) N := own_by hO4 rfl (by unfold maxLen; omega) fun g hg => (World.ownsRow.lt hO4 g hg).1
    exact hv.imp (fun k (hk : W3.heap.size ≤ k) => (by omega : w2.heap.size < k)) fun k _ hk => (bk_other (by omega)).trans (bk_other (by omega)))
  have HB5 := hid (show Below w1.heap.size w1 W5 by
    rw [hW5]
    have h := HB13.out.trans (hb4.mono HB13.out.size)
    exact (h.setCell (by have := HQ.out; simpa using this) _).setCell (by have := HQ.out; simpa using this) _)
  obtain ⟨q, hq⟩ : ∃ q, q = w2.heap.size := ⟨_, rfl⟩
  have HQE := hid hq
  rw [← hq] at HI5 HQ
  obtain ⟨aa, cc, hq5, _⟩ := HI5.out
  obtain ⟨z0, z1, _, _⟩ := bk_box2 hq5
  clear hO4 hb4 hq3 hw3 hW5 hq HSY hq5
  go_upto_region 5 with fail
  rw [← HWE5.out, ← HQE.out]
  go_wp2
  go_loopw [13] (fun v wr => ∃ (i : Nat), k ≤ i ∧ i ≤ bs.length ∧ v = .int .i64 (i : Int) ∧ Hid (TvI q N.length wr (tapeT bs i)) ∧ Hid (Below w1.heap.size w1 wr)) (fun v _ => bs.length - (intOf v).toNat)
  case atStart => exact ⟨k, Nat.le_refl _, by omega, rfl, by rw [← HN.out]; exact HI5, HB5⟩
  case round =>
    obtain ⟨i, hki, hil, rfl, HT, HB⟩ := hrel
    obtain ⟨ad, cd, h1, h2⟩ := HT.out
    have HQB := hid h1
    obtain ⟨x0, x1, xf0, xf1⟩ := bk_box2 h1
    have hqw : q < wr.heap.size := (Array.getElem?_eq_some_iff.1 h1).1
    by_cases hlt : i < bs.length
    · have i1 : (i : Int) < (bs.length : Int) := by omega
      have i0 : (0 : Int) ≤ (i : Int) := by omega
      obtain ⟨x, hx⟩ : ∃ x, bs[i]? = some x := ⟨_, List.getElem?_eq_getElem hlt⟩
      obtain ⟨b, o, ae, ce, rfl, e0, e1, hE⟩ := (HBS.out.next HB.out).at hx
      have hTk := HTL.out i
      have hTk1 := HTL.out (i + 1)
      have hNT := tapeT_mono bs hki
      rw [← HN.out] at hNT
      have HTS := hid (tapeT_step hx)
      rw [HTS.out] at hTk1
      have HAP := hid (fun u (hu : Below wr.heap.size wr u) => append_ok ad cd (tapeT bs i) N.length x ae ce _ _ u (h2.next hu) (by unfold mayN; simp; omega) (HOK.out x (List.mem_of_getElem? hx)) (hE.next hu) (by rw [List.length_append] at hTk1; omega))
      rw [← HTS.out] at HAP hTk1
      have HBA := hid (show Below wr.heap.size wr (wr.alloc (.cells #[.slice none 0 0, .int .i64 0] 49)).drew from ((Below.refl wr.heap.size wr).alloc (Nat.le_refl _) _).drew)
      have HNA := hid (show (wr.alloc (.cells #[.slice none 0 0, .int .i64 0] 49)).drew.heap[wr.heap.size]? = some (.cells #[.slice none 0 0, .int .i64 0] 49) from heap_alloc_new wr _)
      have hne0 : q ≠ wr.heap.size := by omega
      have hneb : b ≠ wr.heap.size := Nat.ne_of_lt (World.block_lt_of_cell? _ _ e0)
      have HL1 := hid (show (tapeT bs (i + 1)).length ≤ 1000000 by omega)
      clear hx h1 h2 hE hTk hNT
      go_upto_region 9 with fail
      go_cut [14, 15] (fun p v wx => TpB wr (tapeT bs (i + 1)) N.length 0 p v wx)
      case first =>
        go_region_held3 (fun w' => w'.cell? ⟨q, 0, none⟩ = some (.slice ad (tapeT bs i).length cd) ∧ w'.cell? ⟨q, 1, none⟩ = some (.int .i64 N.length) ∧ w'.cell? ⟨b, o + i * 2, none⟩ = some (.int .i64 x.user) ∧ w'.cell? ⟨b, o + i * 2 + 1, none⟩ = some (.slice ae x.ents.length ce))
          (first | (go_keep; done) | exact ⟨far2 hne0 r0, far2 hne0 r1, far2 hneb r2, far2 hneb r3⟩ | fail)
          (first
            | (go_at_call 21
               with_reducible refine (HAP.out wr.drew ((Below.refl _ _).drew)).mono ?_
               rintro e w6 ⟨a6, c6, rfl, hO6, hb6⟩
               have hb := (Below.refl wr.heap.size wr).drew.trans hb6
               have HAR := hid (tpb_call (s := N.length) (er := 0) HL1.out ((Below.refl wr.heap.size wr).drew) hO6 hb6)
               have r0 := wcell_next x0 hb
               have r1 := wcell_next x1 hb
               have r2 := wcell_next e0 hb
               have r3 := wcell_next e1 hb
               clear hO6 hb6 hb)
            | (go_at_call 21
               with_reducible refine (HAP.out ((wr.alloc (.cells #[.slice none 0 0, .int .i64 0] 49)).drew) HBA.out).mono ?_
               rintro e w6 ⟨a6, c6, rfl, hO6, hb6⟩
               have hb := HBA.out.trans (hb6.mono HBA.out.size)
               have HPe := bk_low hb6 HNA.out
               have HAR := hid (tpb_set (s := N.length) (er := 0) HL1.out HBA.out (Array.getElem?_eq_some_iff.1 HNA.out).1 hO6 hb6 HPe)
               obtain ⟨t0', t1', f0', f1'⟩ := bk_box2 HPe
               have r0 := wcell_next x0 hb
               have r1 := wcell_next x1 hb
               have r2 := wcell_next e0 hb
               have r3 := wcell_next e1 hb
               clear hO6 hb6 hb HPe)
            | fail)
        all_goals
          go_wp2_with fail
          go_meet
          exact HAR.out
      case rest =>
        obtain ⟨pn, a6, c6, rfl, rfl, hp, hpn, hv, hb⟩ := hcut
        obtain ⟨y0, y1, _, _⟩ := bk_box2 hp
        have HT2 := hid (show TvI q N.length ((wc.setCell ⟨q, 0, none⟩ (.slice a6 (tapeT bs (i + 1)).length c6)).setCell ⟨q, 1, none⟩ (.int .i64 N.length)) (tapeT bs (i + 1)) from HT.out.put hb (hv.imp (fun k hk => hk.1) fun _ _ _ => rfl))
        have HB2 := hid (show Below w1.heap.size w1 ((wc.setCell ⟨q, 0, none⟩ (.slice a6 (tapeT bs (i + 1)).length c6)).setCell ⟨q, 1, none⟩ (.int .i64 N.length)) from ((HB.out.trans (hb.mono HB.out.size)).setCell (by have := HQ.out; simpa using this) _).setCell (by have := HQ.out; simpa using this) _)
        obtain ⟨d0, d1, df0, df1⟩ := bk_box2 (bk_low hb HQB.out)
        clear hb hp hv x0 x1 xf0 xf1
        go_wp2
        go_roundw
        case rel => first | exact ⟨i + 1, by omega, by omega, by go_num, HT2, HB2⟩ | ((repeat apply Exists.intro); exact ⟨⟨i + 1, by omega, by omega, by go_num, HT2, HB2⟩, rfl⟩)
        case measure => simp [intOf]; omega
    · have i1 : ¬ (i : Int) < (bs.length : Int) := by omega
      have HTD2 := hid (show tapeT bs i = D by rw [HD.out]; unfold tapeT; rw [List.take_of_length_le (by omega)])
      rw [HTD2.out] at h2 x0
      have HQB2 := hid (show wr.heap[q]? = some (.cells #[.slice ad D.length cd, .int .i64 N.length] 49) by rw [← HTD2.out]; exact HQB.out)
      obtain ⟨K, hK⟩ : ∃ K, K = D.take lf := ⟨_, rfl⟩
      have hKl : K.length = lf := by rw [hK, List.length_take]; omega
      have HK := hid hK
      have HKL := hid hKl
      have HCR := hid (fun u (hu : Below wr.heap.size wr u) => show Calls Tryd.prog 22 #[.agg #[.slice ad D.length cd, .int .i64 N.length], .int .i64 (kp : Nat)] u (TpP u K lf 0) by
        have h := crash_any ad cd D N.length (kp : Nat) _ u (h2.next hu)
        unfold crashP at h
        have hmy : mayN D.length (N.length : Int) = true := by unfold mayN; simp; omega
        rw [hmy, if_pos rfl, if_neg (by omega), ← HLF.out, ← HK.out] at h
        exact h)
      clear hK hKl h1 h2 hlt
      have hnr := hqw
      go_upto_region 13 with fail
      go_cut [16] (fun v wx => v = .int .i64 0 ∧ TvI q lf wx K ∧ Below w1.heap.size w1 wx)
      case first =>
        go_region_law
          (first
            | (go_simp
               go_at_call 10
               refine (HPK2.out _).mono ?_
               rintro e u ⟨rfl, hu⟩
               subst hu)
            | (go_simp
               go_at_call 22
               refine (HCR.out wr.drew ((Below.refl _ _).drew)).mono ?_
               rintro e w6 ⟨a6, c6, rfl, hO6, hb6⟩
               have hb := (Below.refl wr.heap.size wr).drew.trans hb6
               obtain ⟨d0, d1, df0, df1⟩ := bk_box2 (bk_low hb HQB2.out)
               have HT2 := hid (show TvI q lf ((w6.setCell ⟨q, 0, none⟩ (.slice a6 K.length c6)).setCell ⟨q, 1, none⟩ (.int .i64 lf)) K from HT.out.put hb (own_by hO6 rfl (by unfold maxLen; rw [HKL.out]; omega) fun g hg => (World.ownsRow.lt hO6 g hg).1))
               have HB2 := hid (show Below w1.heap.size w1 ((w6.setCell ⟨q, 0, none⟩ (.slice a6 K.length c6)).setCell ⟨q, 1, none⟩ (.int .i64 lf)) from ((HB.out.trans (hb.mono HB.out.size)).setCell (by have := HQ.out; simpa using this) _).setCell (by have := HQ.out; simpa using this) _)
               clear hO6 hb6 hb)
            | fail)
        all_goals
          go_wp2_with fail
          go_meet
          exact ⟨rfl, HT2.out, HB2.out⟩
      case rest =>
        obtain ⟨rfl, hT, hbc⟩ := hcut
        obtain ⟨a7, c7, hp7, hv7⟩ := hT
        obtain ⟨y0, y1, _, _⟩ := bk_box2 hp7
        have HBc := hid hbc
        have HRC := hid (show Calls Tryd.prog 23 #[.agg #[.slice a7 K.length c7, .int .i64 lf]] wc (RcP wc G U U.length) by
          have hb := hv7
          have el : K = tapeB G ++ t := by rw [HK.out, HCUT.out, HU.out]
          have hln : (tapeB G ++ t).length = lf := by rw [← el]; exact HKL.out
          have h := recover_ok G t a7 c7 lf _ wc (by rw [← el]; exact hb) (by rw [hln]; exact may_all (by omega)) HTO.out HGO.out (by have := HGB.out; omega)
          rw [← el, ← HU.out] at h
          have e : minI (lf : Int) U.length = (U.length : Int) := by unfold minI; omega
          rw [e] at h
          exact h)
        clear hp7 hv7 hbc
        go_wp2_with fail
        refine HRC.out.mono ?_
        rintro e w8 ⟨ab, cb, a8, c8, rfl, hB8, hO8, hb8⟩
        obtain ⟨W9, hW9⟩ : ∃ W9, W9 = w8.alloc (.cells #[.slice a8 U.length c8, .int .i64 U.length] 49) := ⟨_, rfl⟩
        have HWE9 := hid hW9
        have hB89 : Below w8.heap.size w8 W9 := by rw [hW9]; exact one_box _ _
        have hp9 : W9.heap[w8.heap.size]? = some (.cells #[.slice a8 U.length c8, .int .i64 U.length] 49) := by rw [hW9]; exact heap_alloc_new w8 _
        have HP9 := hid hp9
        have HB9 := hid (show Below w1.heap.size w1 W9 from HBc.out.trans ((hb8.trans (hB89.mono hb8.size)).mono HBc.out.size))
        have HBG := hid (begins_any G bs ab a1 cb c1 _ _ W9 (hB8.next hB89) (HBS.out.next HB9.out) (by rw [HGL.out]; exact HG.out))
        clear hW9 hB89 hp9 hB8 hO8 hb8 HRC
        go_upto_region 15 with fail
        rw [← HWE9.out]
        go_wp2_with fail
        refine HBG.out.mono ?_
        rintro e w10 ⟨rfl, hb10⟩
        obtain ⟨r0, r1, _, _⟩ := bk_box2 (bk_low hb10 HP9.out)
        have n1 : ((N.length : Nat) : Int) ≤ ((U.length : Nat) : Int) := by omega
        have HE := hid (show Below w.heap.size w w10 from HB1.out.trans ((HB9.out.trans (hb10.mono HB9.out.size)).mono HB1.out.size))
        clear hb10
        rcases hNp with hk0 | hn0
        · have e1 : ((k : Int) == 0) = true := by rw [beq_iff_eq]; omega
          go_wp2
          go_ret
          exact ⟨by first | rfl | (simp; done) | (simp; omega), HE.out⟩
        · have e1 : (0 : Int) < ((N.length : Nat) : Int) := by omega
          go_wp2
          all_goals
            go_ret
            exact ⟨by first | rfl | (simp; done) | (simp; omega), HE.out⟩
end Go.Proofs.YtkkkbggbeihbnaaDoor
