/-
  A letter that is too long is marked, and cut off at a whole line: walked.
-/
import Derived.Test.YtoiblibminhojaaLmRdy
import Derived.Test.YtoiblibminhojaaLmLw2
import Derived.Test.YtoiblibminhojaaLmZer
import Derived.Test.YtoiblibminhojaaKeepPick
namespace Go.Proofs.Ytoiblibminhojaa
open Go.RowKit Go.Proofs

theorem lg_stop {f t : Adr} {k i : Nat} {s : Ses} (h : LgI f t k i s) : s.text.length = (if i * (k + 2) ≤ 2000 then i * (k + 2) else 2000 / (k + 2) * (k + 2)) ∧ s.large = decide (2000 < i * (k + 2)) := by
  obtain ⟨_, _, _, _, h5, h6⟩ := h
  by_cases hi : i * (k + 2) ≤ 2000
  · rw [if_pos hi]
    exact ⟨(h5 hi).2, by rw [(h5 hi).1]; simp; omega⟩
  · rw [if_neg hi]
    exact ⟨(h6 (by omega)).2, by rw [(h6 (by omega)).1]; simp; omega⟩
set_option maxHeartbeats 1000000 in
set_option maxRecDepth 100000 in
theorem lineLarge_walk (fl fd fg tl td tg : ByteArray) (x y : Value) (s1 : fl.size ≤ maxLen) (s2 : fd.size ≤ maxLen) (s3 : tl.size ≤ maxLen) (s4 : td.size ≤ maxLen) (n : Int) (hn : (Lit.int .i64 n).wf = true) (lo : Int) (hlo : (Lit.int .i64 lo).wf = true) (w : World) :
    Calls Try.prog 7 #[.agg #[.string fl, .string fd, .string fg, .string tl, .string td, .string tg, x, y], .int .i64 n, .int .i64 lo] w fun e w' => e = .returned (.bool true) ∧ Below w.heap.size w w' := by
  obtain ⟨f, hf⟩ : ∃ f, f = adrOf fl.data.toList fd.data.toList := ⟨_, rfl⟩
  obtain ⟨t, ht⟩ : ∃ t, t = adrOf tl.data.toList td.data.toList := ⟨_, rfl⟩
  have HF := hid (show lawful f by rw [hf]; exact adrOf_lawful _ _)
  have HT := hid (show lawful t by rw [ht]; exact adrOf_lawful _ _)
  obtain ⟨W0, hW0⟩ : ∃ W0, W0 = w.alloc (.cells #[.string fl, .string fd, .string fg, .string tl, .string td, .string tg, x, y] 43) := ⟨_, rfl⟩
  have HWE := hid hW0
  have HB0 := hid (show Below w.heap.size w W0 by rw [hW0]; exact (Below.refl _ _).alloc (Nat.le_refl _) _)
  have hP0 : W0.heap[w.heap.size]? = some (.cells #[.string fl, .string fd, .string fg, .string tl, .string td, .string tg, x, y] 43) := by rw [hW0]; exact heap_alloc_new w _
  have HRD := hid (ready_any fl fd fg tl td tg x y W0 s1 s2 s3 s4)
  rw [← hf, ← ht] at HRD
  obtain ⟨p0, p1, p2, p3, p4, p5⟩ := post_box hP0
  have p6 : W0.cell? ⟨w.heap.size, 6, none⟩ = some x := by simp [World.cell?, hP0]
  have p7 : W0.cell? ⟨w.heap.size, 7, none⟩ = some y := by simp [World.cell?, hP0]
  obtain ⟨s, hs⟩ : ∃ s, s = rdS f t 4 := ⟨_, rfl⟩
  obtain ⟨j, hj⟩ : ∃ j, j = pickN lo 200 := ⟨_, rfl⟩
  obtain ⟨m, hm⟩ : ∃ m, m = pickN n 60 := ⟨_, rfl⟩
  have hj200 : j < 200 := by rw [hj]; exact pickN_lt lo 200 (by omega)
  have hm60 : m < 60 := by rw [hm]; exact pickN_lt n 60 (by omega)
  have HPJ := hid (fun u => picked_any lo 200 u hlo (by omega) (by omega))
  have HPM := hid (fun u => picked_any n 60 u hn (by omega) (by omega))
  rw [← hj] at HPJ
  rw [← hm] at HPM
  rw [← hs] at HRD
  have HL0 := hid (show LgI f t (1 + j) 0 s by rw [hs]; exact lg_zero HF.out HT.out _)
  clear hW0 hP0 s1 s2 s3 s4 hf ht hs hj hm hn hlo
  go_enter Try.func7, Try.ntmps7
  go_upto_region 1 with fail
  rw [← HWE.out]
  go_wp2_with fail
  refine HRD.out.mono ?_
  rintro e w1 ⟨sa, sk, rfl, hO, hb1⟩
  obtain ⟨b7, hb7⟩ : ∃ b, b = w1.heap.size := ⟨_, rfl⟩
  have HE7 := hid hb7
  obtain ⟨W1, hW1⟩ : ∃ W1, W1 = w1.alloc (.cells #[.int .i64 s.step, .string (S s.frm.1), .string (S s.frm.2), .slice sa s.to.length sk, .string (S s.text), .bool s.large] 26) := ⟨_, rfl⟩
  have HWE1 := hid hW1
  have hB1 : Below w1.heap.size w1 W1 := by rw [hW1]; exact (Below.refl _ _).alloc (Nat.le_refl _) _
  have HB1 := hid (show Below w.heap.size w W1 from (HB0.out.trans (hb1.mono HB0.out.size)).trans (hB1.mono (Nat.le_trans HB0.out.size hb1.size)))
  have HX1 := hid (show W1.heap[b7]? = some (.cells #[.int .i64 s.step, .string (S s.frm.1), .string (S s.frm.2), .slice sa s.to.length sk, .string (S s.text), .bool s.large] 26) by rw [hW1, hb7]; exact heap_alloc_new _ _)
  have HO1 := hid (own_next hO hB1)
  have HW7 := hid (show W0.heap.size ≤ b7 by rw [hb7]; exact hb1.size)
  have HPW := hid (HPJ.out W1)
  clear hb7 hW1 hB1 hO hb1
  go_upto_region 2 with fail
  rw [← HWE1.out, ← HE7.out]
  clear p0 p1 p2 p3 p4 p5 p6 p7
  go_wp2_with fail
  refine HPW.out.mono ?_
  rintro e w2 ⟨rfl, hw2⟩
  rw [hw2]
  clear hw2 w2
  obtain ⟨k, hk⟩ : ∃ k, k = 1 + j := ⟨_, rfl⟩
  have hmk := make_zeros k (1 + (j : Int)) (by omega) (by omega) W1
  have htz := text_zeros k W1
  rw [← hk] at HL0
  obtain ⟨W3, hW3⟩ : ∃ W3, W3 = W1.alloc (.cells (madeCells #[.int .u8 0] k) 5) := ⟨_, rfl⟩
  have HWE3 := hid hW3
  have hB3 : Below W1.heap.size W1 W3 := by rw [hW3]; exact (Below.refl _ _).alloc (Nat.le_refl _) _
  have HS3 := hid (show SesB W3 b7 0 s from ⟨sa, sk, lm_next hB3 HX1.out, own_next (own_from HO1.out (Nat.zero_le _)) hB3⟩)
  have HN7 := hid (show w.heap.size ≤ b7 from Nat.le_trans HB0.out.size HW7.out)
  have HK := hid hk
  have hk201 : k ≤ 200 := by omega
  have HB3 := hid (HB1.out.trans (hB3.mono HB1.out.size))
  have HPW3 := hid (HPM.out W3)
  clear hW3 hB3 hk
  go_upto_region 4 with fail
  rw [← HWE3.out]
  clear hmk htz
  go_wp2_with fail
  refine HPW3.out.mono ?_
  rintro e w4 ⟨rfl, hw4⟩
  rw [hw4]
  clear hw4 w4
  go_wp2
  go_loopw [12] (fun i wr => ∃ (q : Nat) (sq : Ses), q ≤ m ∧ i = .int .i64 q ∧ Hid (SesB wr b7 0 sq) ∧ Hid (LgI f t k q sq) ∧ Hid (Below b7 W3 wr)) (fun i _ => m - (intOf i).toNat)
  case atStart => exact ⟨0, s, Nat.zero_le _, rfl, HS3, HL0, Below.refl _ _⟩
  case round =>
    obtain ⟨q, sq, hq, rfl, HS, HG, HB⟩ := hrel
    obtain ⟨qa, qk, hS, hO⟩ := HS.out
    have hlt : b7 < wr.heap.size := (Array.getElem?_eq_some_iff.1 hS).1
    obtain ⟨z0, z1, z2, z3, z4, z5⟩ := ses_box hS
    have HMQ := hid (show mayS sq = true from HG.out.2.2.2.1)
    have HSX := hid hS
    by_cases hqm : q < m
    · have k1 : (q : Int) < (m : Int) := by omega
      obtain ⟨r, hl, hg⟩ := lg_step HG.out []
      have HGR := hid hg
      have HLN := hid (line_ok (W := wr) (u := wr) (kv := .slice none 0 0) HMQ.out hl (AdrsM.any (hO.row (by have := may_to HMQ.out; unfold maxLen; omega))) (own_roomy hO) (txt_none _) (by simp; omega) (Below.refl _ _))
      have HHL := hid hlt
      clear hS hO hl hg hlt
      go_wp2_with fail
      refine HLN.out.mono ?_
      rintro e w5 ⟨ra, rk, la, lk, rfl, ho5, ht5, hb5, _, _⟩
      obtain ⟨b13, hb13⟩ : ∃ b, b = w5.heap.size := ⟨_, rfl⟩
      have HE13 := hid hb13
      obtain ⟨W5, hW5⟩ : ∃ W5, W5 = w5.alloc (.cells #[.int .i64 r.step, .string (S r.frm.1), .string (S r.frm.2), .slice ra r.to.length rk, .string (S r.text), .bool r.large] 26) := ⟨_, rfl⟩
      have HWE5 := hid hW5
      have hB5 : Below w5.heap.size w5 W5 := by rw [hW5]; exact (Below.refl _ _).alloc (Nat.le_refl _) _
      have hX5 : W5.heap[b13]? = some (.cells #[.int .i64 r.step, .string (S r.frm.1), .string (S r.frm.2), .slice ra r.to.length rk, .string (S r.text), .bool r.large] 26) := by rw [hW5, hb13]; exact heap_alloc_new _ _
      have hb35 := hb5.trans (hB5.mono hb5.size)
      obtain ⟨y0, y1, y2, y3, y4, y5⟩ := ses_box hX5
      have hX7 := lm_next hb35 HSX.out
      obtain ⟨v0, v1, v2, v3, v4, v5⟩ := ses_frz hX7
      obtain ⟨x0, x1, x2, x3, x4, x5⟩ := ses_box hX7
      have HNS := hid (SesB.copy (B := 0) hX7 (own_next ho5 hB5) HHL.out (Nat.zero_le _))
      have HNB := hid (show Below b7 W3 _ from (HB.out.trans (hb35.mono (Nat.le_of_lt HHL.out))).trans (low7 W5 (.int .i64 r.step) (.string (S r.frm.1)) (.string (S r.frm.2)) (.slice ra r.to.length rk) (.string (S r.text)) (.bool r.large) (Nat.le_refl _)))
      clear hb13 hW5 hB5 hX5 hb35 hX7 ho5 ht5 hb5 z0 z1 z2 z3 z4 z5
      go_upto_region 9 with fail
      rw [← HWE5.out, ← HE13.out]
      go_wp2
      go_roundw
      case rel => exact ⟨q + 1, r, by omega, by simp, HNS, HGR, HNB⟩
      case measure => simp [intOf]; omega
    · obtain rfl : q = m := by omega
      have k1 : ¬ (q : Int) < (q : Int) := by omega
      have HBF := hid (show Below w.heap.size w wr from HB3.out.trans (HB.out.mono HN7.out))
      obtain ⟨hT, hL⟩ := lg_stop HG.out
      have h4s : (sq.step == 4) = true := by rw [HG.out.1]; rfl
      have hqk : q * (k + 2) ≤ 60 * 202 := Nat.mul_le_mul (by omega) (by omega)
      obtain ⟨W, hW⟩ : ∃ W, W = q * (k + 2) := ⟨_, rfl⟩
      rw [← hW] at hT hL hqk
      have HSO := hid hO
      clear hO hS hlt hqm
      have HWW := hid (show wrap64 ((q : Int) * (1 + (j : Int) + 2)) = (W : Int) by
        have e : (1 + (j : Int) + 2) = ((k + 2 : Nat) : Int) := by rw [HK.out]; omega
        rw [e, ← Int.natCast_mul, ← hW]
        unfold wrap64
        omega)
      go_upto_region 13 with fail
      rw [HWW.out]
      by_cases hle : W ≤ 2000
      · rw [if_pos hle] at hT
        rw [show sq.large = false by rw [hL]; simp; omega] at z5
        have k2 : (W : Int) ≤ 2000 := by omega
        have hz : (S sq.text).size = W := by rw [size_S]; exact hT
        clear hL hT hW hqk
        go_wp2
        go_ret
        exact ⟨by first | rfl | simp, HBF.out⟩
      · rw [if_neg hle] at hT
        have hlt2 : sq.large = true := by rw [hL]; simp; omega
        have k2 : ¬ (W : Int) ≤ 2000 := by omega
        have HCK := hid (fun (u : World) (hu : Below wr.heap.size wr u) => lmCheck_any anyB sq (.slice qa sq.to.length qk) u (may_fit HMQ.out) (own_roomy HSO.out) (AdrsM.any ((own_next HSO.out hu).row (by have := may_to HMQ.out; unfold maxLen; omega))))
        rw [HMQ.out] at HCK
        simp only [if_true] at HCK
        unfold sesV at HCK
        rw [hlt2] at z5 HCK
        obtain ⟨D, hD⟩ : ∃ D, D = k + 2 := ⟨_, rfl⟩
        obtain ⟨E, hE⟩ : ∃ E, E = 2000 / D * D := ⟨_, rfl⟩
        have hD3 : D ≤ 202 ∧ 3 ≤ D := by have := HK.out; omega
        have hE2 : E ≤ 2000 := by rw [hE]; exact Nat.div_mul_le_self _ _
        have hz : (S sq.text).size = E := by rw [size_S, hE, hD]; exact hT
        have e1 : IntKind.i64.wrap (1 + (j : Int) + 2) = (D : Int) := by
          have h1 : (1 + (j : Int) + 2) = (D : Int) := by have := HK.out; omega
          rw [h1]; simp [IntKind.wrap, IntKind.signed, IntKind.bits]; omega
        have e2 : ((D : Int) == 0) = false := by simp; omega
        obtain ⟨V, hV⟩ : ∃ V, V = 2000 / D := ⟨_, rfl⟩
        have hV2 : V ≤ 2000 := by rw [hV]; exact Nat.div_le_self _ _
        have e3 : Int.tdiv 2000 (D : Int) = (V : Int) := by rw [hV]; rfl
        have e4 : IntKind.i64.wrap (V : Int) = (V : Int) := by simp [IntKind.wrap, IntKind.signed, IntKind.bits]; omega
        have e5 : IntKind.i64.wrap ((V : Int) * (D : Int)) = (E : Int) := by
          rw [← Int.natCast_mul, hV, ← hE]; simp [IntKind.wrap, IntKind.signed, IntKind.bits]; omega
        have e6 : ¬ D = 0 := by omega
        clear hL hT hW hqk hD hE hlt2 hle hV
        go_upto_region 15 with fail
        go_region_held3 (fun u => u.cell? ⟨b7, 0, none⟩ = some (.int .i64 sq.step) ∧ u.cell? ⟨b7, 1, none⟩ = some (.string (S sq.frm.1)) ∧ u.cell? ⟨b7, 2, none⟩ = some (.string (S sq.frm.2)) ∧ u.cell? ⟨b7, 3, none⟩ = some (.slice qa sq.to.length qk) ∧ u.cell? ⟨b7, 4, none⟩ = some (.string (S sq.text)) ∧ u.cell? ⟨b7, 5, none⟩ = some (.bool true)) (first | (go_keep; done) | exact ⟨r0, r1, r2, r3, r4, r5⟩ | fail)
          (first
            | (go_at_call 8
               with_reducible refine (HCK.out _ ((Below.refl _ _).drew)).mono ?_
               rintro e w6 ⟨rfl, hb6'⟩
               have hb6 := (Below.refl wr.heap.size wr).drew.trans hb6'
               have r0 := wcell_next z0 hb6
               have r1 := wcell_next z1 hb6
               have r2 := wcell_next z2 hb6
               have r3 := wcell_next z3 hb6
               have r4 := wcell_next z4 hb6
               have r5 := wcell_next z5 hb6
               have HB6 := hid (show Below w.heap.size w w6 from HBF.out.trans (hb6.mono HBF.out.size))
               clear hb6 hb6')
            | fail)
        all_goals
          go_wp2
          go_ret
          exact ⟨by first | rfl | simp, HB6.out⟩
end Go.Proofs.Ytoiblibminhojaa
