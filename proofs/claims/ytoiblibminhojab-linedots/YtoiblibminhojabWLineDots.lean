/-
  Of the dots at a line's beginning one is taken away; a dot alone is the end: walked.
-/
import Derived.Test.YtoiblibminhojabLmRdy
import Derived.Test.YtoiblibminhojabLmLw2
import Derived.Test.YtoiblibminhojabLmLtr
import Derived.Test.YtoiblibminhojabKeepPick
namespace Go.Proofs.Ytoiblibminhojab
open Go.RowKit Go.Proofs

theorem dots_text (k : Nat) (t : List UInt8) : S (List.replicate k 46) ++ S t = S (dotsL k t) := by
  rw [← S_list (S (List.replicate k 46) ++ S t)]
  simp [list_S, dotsL]
theorem dots_more (k : Nat) : S (List.replicate k 46) ++ ⟨#[46]⟩ = S (List.replicate (k + 1) 46) := by
  rw [← S_list (S (List.replicate k 46) ++ ⟨#[46]⟩)]
  simp [list_S, List.replicate_succ']
theorem crlf_text (t : List UInt8) : S t ++ ⟨#[13, 10]⟩ = S (t ++ [13, 10]) := by
  rw [← S_list (S t ++ ⟨#[13, 10]⟩)]
  simp [list_S]
set_option maxHeartbeats 1000000 in
set_option maxRecDepth 100000 in
theorem lineDots_walk (fl fd fg tl td tg : ByteArray) (x y : Value) (s1 : fl.size ≤ maxLen) (s2 : fd.size ≤ maxLen) (s3 : tl.size ≤ maxLen) (s4 : td.size ≤ maxLen) (n : Int) (hn : (Lit.int .i64 n).wf = true) (q : ByteArray) (hq : q.size ≤ maxLen) (w : World) :
    Calls Try.prog 4 #[.agg #[.string fl, .string fd, .string fg, .string tl, .string td, .string tg, x, y], .int .i64 n, .string q] w fun e w' => e = .returned (.bool true) ∧ Below w.heap.size w w' := by
  obtain ⟨f, hf⟩ : ∃ f, f = adrOf fl.data.toList fd.data.toList := ⟨_, rfl⟩
  obtain ⟨t, ht⟩ : ∃ t, t = adrOf tl.data.toList td.data.toList := ⟨_, rfl⟩
  have HF := hid (show lawful f by rw [hf]; exact adrOf_lawful _ _)
  have HT := hid (show lawful t by rw [ht]; exact adrOf_lawful _ _)
  obtain ⟨W0, hW0⟩ : ∃ W0, W0 = w.alloc (.cells #[.string fl, .string fd, .string fg, .string tl, .string td, .string tg, x, y] 26) := ⟨_, rfl⟩
  have HWE := hid hW0
  have HB0 := hid (show Below w.heap.size w W0 by rw [hW0]; exact (Below.refl _ _).alloc (Nat.le_refl _) _)
  have hP0 : W0.heap[w.heap.size]? = some (.cells #[.string fl, .string fd, .string fg, .string tl, .string td, .string tg, x, y] 26) := by rw [hW0]; exact heap_alloc_new w _
  have HRD := hid (ready_any fl fd fg tl td tg x y W0 s1 s2 s3 s4)
  rw [← hf, ← ht] at HRD
  obtain ⟨p0, p1, p2, p3, p4, p5⟩ := post_box hP0
  have p6 : W0.cell? ⟨w.heap.size, 6, none⟩ = some x := by simp [World.cell?, hP0]
  have p7 : W0.cell? ⟨w.heap.size, 7, none⟩ = some y := by simp [World.cell?, hP0]
  obtain ⟨s, hs⟩ : ∃ s, s = rdS f t 4 := ⟨_, rfl⟩
  obtain ⟨k, hk⟩ : ∃ k, k = pickN n 20 := ⟨_, rfl⟩
  have hk20 : k < 20 := by rw [hk]; exact pickN_lt n 20 (by omega)
  have HPK := hid (fun u => picked_any n 20 u hn (by omega) (by omega))
  rw [← hk] at HPK
  rw [← hs] at HRD
  obtain ⟨wd, hwd⟩ : ∃ wd, wd = wordL q.data.toList := ⟨_, rfl⟩
  have HWD := hid (fun u => word_any q u hq)
  rw [← hwd] at HWD
  have HWY := hid (show wordy wd by rw [hwd]; exact word_wordy _)
  have hwl : wd.length ≤ 8 := HWY.out.2.1
  have hms : mayS s = true := by rw [hs]; exact rd_may HF.out HT.out 4 (by omega)
  have hun : undot (dotsL k wd) = wantD k wd := undot_dots HWY.out
  have hwn : (wantD k wd).length ≤ 27 := by unfold wantD dotsL; simp; omega
  obtain ⟨r, hr⟩ : ∃ r : Ses, r = ⟨4, s.frm, s.to, s.text ++ wantD k wd ++ [13, 10], false⟩ := ⟨_, rfl⟩
  have HL1 := hid (show lineM s [] (dotsL k wd) = (r, 0, []) by
    rw [hr, ← hun]
    exact body_reads (by rw [hs]; rfl) (by rw [hs]; rfl) (dots_not HWY.out) (by rw [hun, hs]; simp [rdS]; omega) [])
  have hmr : mayS r = true := by
    have := may_line hms [] (dotsL k wd)
    rw [HL1.out] at this
    exact this
  obtain ⟨z, hz⟩ : ∃ z, z = atS 1 := ⟨_, rfl⟩
  have ez : (z.step == 1) = true := by rw [hz]; rfl
  have HL2 := hid (show lineM r [] [46] = (z, 0, [(f, t, wantD k wd ++ [13, 10])]) by
    rw [hr, body_ends rfl, hs, hz]; rfl)
  have HRT := hid (show r.text = wantD k wd ++ [13, 10] by rw [hr, hs]; rfl)
  have HMS := hid hms
  have HMR := hid hmr
  have HDT := hid (dots_text k wd)
  have HDM := hid dots_more
  have HWW := hid (show wantD k wd = if 0 < k then (dotsL k wd).drop 1 else dotsL k wd by
    unfold wantD dotsL
    cases k with
    | zero => simp
    | succ k => simp [List.replicate_succ])
  have HDL := hid (show (dotsL k wd).length = k + wd.length by simp [dotsL])
  have HWL := hid hwl
  have HWN := hid hwn
  clear hW0 hP0 s1 s2 s3 s4 hf ht hs hk hn hq hwd hms hmr hr hun hwl hwn hz
  go_enter Try.func4, Try.ntmps4
  go_upto_region 1 with fail
  rw [← HWE.out]
  go_wp2_with fail
  refine HRD.out.mono ?_
  rintro e w1 ⟨sa, sk, rfl, hO, hb1⟩
  obtain ⟨b7, hb7⟩ : ∃ b, b = w1.heap.size := ⟨_, rfl⟩
  have HE7 := hid hb7
  obtain ⟨W1, hW1⟩ : ∃ W1, W1 = w1.alloc (.cells #[.int .i64 s.step, .string (S s.frm.1), .string (S s.frm.2), .slice sa s.to.length sk, .string (S s.text), .bool s.large] 32) := ⟨_, rfl⟩
  have HWE1 := hid hW1
  have hB1 : Below w1.heap.size w1 W1 := by rw [hW1]; exact (Below.refl _ _).alloc (Nat.le_refl _) _
  have HB1 := hid (show Below w.heap.size w W1 from (HB0.out.trans (hb1.mono HB0.out.size)).trans (hB1.mono (Nat.le_trans HB0.out.size hb1.size)))
  have HX1 := hid (show W1.heap[b7]? = some (.cells #[.int .i64 s.step, .string (S s.frm.1), .string (S s.frm.2), .slice sa s.to.length sk, .string (S s.text), .bool s.large] 32) by rw [hW1, hb7]; exact heap_alloc_new _ _)
  have HO1 := hid (own_next hO hB1)
  have HPW := hid (HPK.out W1)
  clear hb7 hW1 hB1 hO hb1
  go_upto_region 2 with fail
  rw [← HWE1.out, ← HE7.out]
  clear p0 p1 p2 p3 p4 p5 p6 p7
  go_wp2_with fail
  refine HPW.out.mono ?_
  rintro e w2 ⟨rfl, hw2⟩
  rw [hw2]
  clear hw2 w2
  go_wp2
  go_loopw [10, 11] (fun v i wr => ∃ j : Nat, j ≤ k ∧ i = .int .i64 j ∧ v = .string (S (List.replicate j 46)) ∧ wr = W1) (fun _ i _ => k - (intOf i).toNat)
  case atStart => exact ⟨0, Nat.zero_le _, rfl, rfl, rfl⟩
  case round =>
    obtain ⟨j, hj, rfl, rfl, rfl⟩ := hrel
    have hz : (S (List.replicate j 46)).size = j := by rw [size_S]; simp
    by_cases hlt : j < k
    · have k1 : (j : Int) < (k : Int) := by omega
      have k2 := HDM.out j
      have HK2 := hid k2
      clear k2
      go_wp2
      go_roundw
      case rel => exact ⟨j + 1, by omega, by simp, by rw [HK2.out], by trivial⟩
      case measure => simp [intOf]; omega
    · obtain rfl : j = k := by omega
      have k1 : ¬ (j : Int) < (j : Int) := by omega
      have HWW2 := hid (HWD.out wr)
      have hz2 : (S wd).size ≤ 8 := by rw [size_S]; exact HWL.out
      clear hlt
      go_wp2_with fail
      refine HWW2.out.mono ?_
      rintro e w3 ⟨rfl, hb3⟩
      have HB3 := hid hb3
      obtain ⟨x0, x1, x2, x3, x4, x5⟩ := ses_box (lm_next hb3 HX1.out)
      have HLN := hid (line_ok (W := w3) (u := w3) (kv := .slice none 0 0) HMS.out HL1.out (AdrsM.any ((own_next HO1.out hb3).row (by have := may_to HMS.out; unfold maxLen; omega))) (own_roomy HO1.out) (txt_none _) (by rw [HDL.out]; have := HWL.out; omega) (Below.refl _ _))
      clear hb3
      go_upto_region 9 with fail
      rw [HDT.out]
      clear hz hz2
      go_wp2_with fail
      refine HLN.out.mono ?_
      rintro e w4 ⟨ra, rk, la, lk, rfl, ho4, ht4, hb4, _, _⟩
      obtain ⟨b12, hb12⟩ : ∃ b, b = w4.heap.size := ⟨_, rfl⟩
      have HE12 := hid hb12
      obtain ⟨W4, hW4⟩ : ∃ W4, W4 = w4.alloc (.cells #[.int .i64 r.step, .string (S r.frm.1), .string (S r.frm.2), .slice ra r.to.length rk, .string (S r.text), .bool r.large] 32) := ⟨_, rfl⟩
      have HWE4 := hid hW4
      have hB4 : Below w4.heap.size w4 W4 := by rw [hW4]; exact (Below.refl _ _).alloc (Nat.le_refl _) _
      have hX4 : W4.heap[b12]? = some (.cells #[.int .i64 r.step, .string (S r.frm.1), .string (S r.frm.2), .slice ra r.to.length rk, .string (S r.text), .bool r.large] 32) := by rw [hW4, hb12]; exact heap_alloc_new _ _
      have HB4 := hid (show Below wr.heap.size wr W4 from HB3.out.trans ((hb4.trans (hB4.mono hb4.size)).mono HB3.out.size))
      have HO4 := hid (own_next ho4 hB4)
      obtain ⟨y0, y1, y2, y3, y4, y5⟩ := ses_box hX4
      have HX4 := hid hX4
      have HLN2 := hid (line_ok (W := W4) (u := W4) (kv := .slice none 0 0) HMR.out HL2.out (AdrsM.any (HO4.out.row (by have := may_to HMR.out; unfold maxLen; omega))) (own_roomy HO4.out) (txt_none _) (by simp) (Below.refl _ _))
      rw [show S [46] = (⟨#[46]⟩ : ByteArray) from rfl] at HLN2
      clear hb12 hW4 hB4 hX4 ho4 ht4 hb4 x0 x1 x2 x3 x4 x5
      go_upto_region 11 with fail
      rw [← HWE4.out, ← HE12.out]
      have hz : (S (dotsL j wd)).size = j + wd.length := by rw [size_S]; exact HDL.out
      by_cases h0 : 0 < j
      case' pos =>
        have k1 : (0 : Int) < (j : Int) := by omega
        have k2 : (1 : Int) ≤ ((j + wd.length : Nat) : Int) := by omega
        have k3 : 1 ≤ (S (dotsL j wd)).size := by omega
        have HWX := hid (show (S (dotsL j wd)).extract 1 (j + wd.length) = S (wantD j wd) by rw [← hz, S_drop, HWW.out, if_pos h0])
      case' neg =>
        have k1 : ¬ (0 : Int) < (j : Int) := by omega
        have HWX := hid (show S (dotsL j wd) = S (wantD j wd) by rw [HWW.out, if_neg h0])
      all_goals
        go_upto_region 13 with fail
        rw [HWX.out]
        clear hz h0 k1
        obtain ⟨tx, htx⟩ : ∃ tx, tx = wantD j wd ++ [13, 10] := ⟨_, rfl⟩
        have HRX := HRT
        rw [← htx] at HRX
        rw [HRX.out] at y4
        obtain ⟨wt, hwt⟩ : ∃ wt, wt = S (wantD j wd) := ⟨_, rfl⟩
        have e1 : ((S tx).toList == (wt ++ ⟨#[13, 10]⟩).toList) = true := by rw [hwt, crlf_text, ← htx]; simp
        have e2 : ¬ 9223372036854775807 < wt.size + 2 := by have := HWN.out; rw [hwt, size_S]; omega
        rw [← htx] at HLN2
        rw [← hwt]
        have HLN3 := HLN2
        rw [HRX.out] at HLN3
        clear HLN2 HRX HRT htx hwt
        go_wp2_with fail
        refine HLN3.out.mono ?_
        rintro e w5 ⟨qa, qk, la2, lk2, rfl, ho5, ht5, hb5, _, _⟩
        obtain ⟨b17, hb17⟩ : ∃ b, b = w5.heap.size := ⟨_, rfl⟩
        have HE17 := hid hb17
        obtain ⟨W5, hW5⟩ : ∃ W5, W5 = w5.alloc (.cells #[.int .i64 z.step, .string (S z.frm.1), .string (S z.frm.2), .slice qa z.to.length qk, .string (S z.text), .bool z.large] 32) := ⟨_, rfl⟩
        have HWE5 := hid hW5
        have hB5 : Below w5.heap.size w5 W5 := by rw [hW5]; exact (Below.refl _ _).alloc (Nat.le_refl _) _
        have hX5 : W5.heap[b17]? = some (.cells #[.int .i64 z.step, .string (S z.frm.1), .string (S z.frm.2), .slice qa z.to.length qk, .string (S z.text), .bool z.large] 32) := by rw [hW5, hb17]; exact heap_alloc_new _ _
        have hb45 := hb5.trans (hB5.mono hb5.size)
        have u4 : W5.cell? ⟨b12, 4, none⟩ = some (.string (S tx)) := wcell_next y4 hb45
        have v0 : W5.cell? ⟨b17, 0, none⟩ = some (.int .i64 z.step) := (ses_box hX5).1
        obtain ⟨g, rfl, _, hg, _, _, _, _, g4⟩ := ltr_get (ownT_next ht5 hB5) (i := 0) rfl
        simp only [Nat.zero_mul, Nat.zero_add] at g4
        have HBE := hid (show Below w.heap.size w W5 from HB1.out.trans ((HB4.out.trans (hb45.mono HB4.out.size)).mono HB1.out.size))
        clear hb17 hW5 hB5 hX5 hb45 hb5 ho5 ht5 y0 y1 y2 y3 y4 y5 hg
        go_upto_region 14 with fail
        rw [← HWE5.out, ← HE17.out]
        go_region_held3 (fun u => u.cell? ⟨b12, 4, none⟩ = some (.string (S tx)) ∧ u.cell? ⟨b17, 0, none⟩ = some (.int .i64 z.step) ∧ u.cell? ⟨g, 4, none⟩ = some (.string (S tx))) (go_keep) (fail)
        all_goals
          go_wp2
          go_ret
          exact ⟨by first | rfl | simp, HBE.out.drew⟩
end Go.Proofs.Ytoiblibminhojab
