/-
  There is room for so many to whom a letter goes; one who is there already has room: walked.
-/
import Derived.Test.YtoiblibminhojabLmRdy
import Derived.Test.YtoiblibminhojabLmLw2
import Derived.Test.YtoiblibminhojabKeepPick
namespace Go.Proofs.Ytoiblibminhojab
open Go.RowKit Go.Proofs

theorem mn_text (i : Nat) : (⟨#[82, 67, 80, 84, 32, 84, 79, 58, 60, 117, 64, 100]⟩ : ByteArray) ++ S [UInt8.ofNat (97 + i)] ++ ⟨#[62]⟩ = S (mnL i) := by
  rw [← S_list ((⟨#[82, 67, 80, 84, 32, 84, 79, 58, 60, 117, 64, 100]⟩ : ByteArray) ++ S [UInt8.ofNat (97 + i)] ++ ⟨#[62]⟩)]
  simp [list_S, mnL, rcptU]
theorem mn_conv (i : Nat) (z : Int) (hi : i < 10) (hz : z = 97 + (i : Int)) (B : Nat) (u : World) (hB : B = u.heap.size) : (convert 39 9 (.slice (some ⟨B, 0, none⟩) 1 1)).run Try.prog (u.alloc (.cells #[.int .u8 z] 5)) = .ok (.string (S [UInt8.ofNat (97 + i)])) (u.alloc (.cells #[.int .u8 z] 5)) := by
  subst hB
  have h := run_convert_bytes_back (P := Try.prog) (u.alloc (.cells #[.int .u8 z] 5)) 39 9 5 ⟨u.heap.size, 0, none⟩ 1 [UInt8.ofNat (97 + i)] Try.underlying39 Try.underlying5 Try.underlying9 (fun j hj => by
    have hj0 : j = 0 := by simp at hj; exact hj
    subst hj0
    have hh := heap_alloc_new u (.cells #[.int .u8 z] 5)
    simp only [Addr.add_lit, Nat.add_zero, World.cell?, hh]
    rw [hz]
    simp
    omega)
  exact h
set_option maxHeartbeats 1000000 in
set_option maxRecDepth 100000 in
theorem lineMany_walk (fl fd fg tl td tg : ByteArray) (x y : Value) (s1 : fl.size ≤ maxLen) (s2 : fd.size ≤ maxLen) (_ : tl.size ≤ maxLen) (_ : td.size ≤ maxLen) (n : Int) (hn : (Lit.int .i64 n).wf = true) (w : World) :
    Calls Try.prog 3 #[.agg #[.string fl, .string fd, .string fg, .string tl, .string td, .string tg, x, y], .int .i64 n] w fun e w' => e = .returned (.bool true) ∧ Below w.heap.size w w' := by
  obtain ⟨f, hf⟩ : ∃ f, f = adrOf fl.data.toList fd.data.toList := ⟨_, rfl⟩
  have HF := hid (show lawful f by rw [hf]; exact adrOf_lawful _ _)
  obtain ⟨W0, hW0⟩ : ∃ W0, W0 = w.alloc (.cells #[.string fl, .string fd, .string fg, .string tl, .string td, .string tg, x, y] 26) := ⟨_, rfl⟩
  have HWE := hid hW0
  have HB0 := hid (show Below w.heap.size w W0 by rw [hW0]; exact (Below.refl _ _).alloc (Nat.le_refl _) _)
  have hP0 : W0.heap[w.heap.size]? = some (.cells #[.string fl, .string fd, .string fg, .string tl, .string td, .string tg, x, y] 26) := by rw [hW0]; exact heap_alloc_new w _
  have HA1 := hid (address_any fl fd fg W0 s1 s2)
  rw [← hf] at HA1
  obtain ⟨p0, p1, p2, p3, p4, p5⟩ := post_box hP0
  obtain ⟨m, hm⟩ : ∃ m, m = pickN n 10 := ⟨_, rfl⟩
  have hm10 : m < 10 := by rw [hm]; exact pickN_lt n 10 (by omega)
  have HPM := hid (fun u => picked_any n 10 u hn (by omega) (by omega))
  rw [← hm] at HPM
  clear hW0 hP0 s1 s2 hf hm hn p3 p4 p5
  go_enter Try.func3, Try.ntmps3
  go_upto_region 1 with fail
  rw [← HWE.out]
  go_wp2_with fail
  refine HA1.out.mono ?_
  rintro e w1 ⟨rfl, hb1⟩
  obtain ⟨b5, hb5⟩ : ∃ b, b = w1.heap.size := ⟨_, rfl⟩
  have HE5 := hid hb5
  obtain ⟨W1, hW1⟩ : ∃ W1, W1 = (w1.alloc (.cells #[.string (S f.1), .string (S f.2)] 28)).alloc (.cells #[.int .i64 2, .string (S f.1), .string (S f.2), .slice none 0 0, .string ⟨#[]⟩, .bool false] 32) := ⟨_, rfl⟩
  have HWE1 := hid hW1
  have hB1 : Below w1.heap.size w1 W1 := by rw [hW1]; exact ((Below.refl _ _).alloc (Nat.le_refl _) _).alloc (by simp) _
  have HB1 := hid (show Below w.heap.size w W1 from (HB0.out.trans (hb1.mono HB0.out.size)).trans (hB1.mono (Nat.le_trans HB0.out.size hb1.size)))
  obtain ⟨b6, hb6⟩ : ∃ b, b = b5 + 1 := ⟨_, rfl⟩
  have HE6 := hid hb6
  have HS1 := hid (show SesB W1 b6 0 (mnS f 0) from ⟨none, 0, by rw [hW1, hb6, hb5]; exact lm_at1 _ _, World.ownsRow_nil _ _ _ _⟩)
  have HN6 := hid (show w.heap.size ≤ b6 by rw [hb6, hb5]; exact Nat.le_trans HB0.out.size (Nat.le_trans hb1.size (Nat.le_succ _)))
  have HPW := hid (HPM.out W1)
  clear hb5 hW1 hB1 hb1 hb6
  go_upto_region 3 with fail
  rw [← HWE1.out, ← HE5.out, ← HE6.out]
  clear p0 p1 p2
  go_wp2_with fail
  refine HPW.out.mono ?_
  rintro e w2 ⟨rfl, hw2⟩
  rw [hw2]
  clear hw2 w2
  go_wp2
  go_loopw [8] (fun i wr => ∃ q : Nat, q ≤ m ∧ i = .int .i64 q ∧ Hid (SesB wr b6 0 (mnS f q)) ∧ Hid (Below b6 W1 wr)) (fun i _ => m - (intOf i).toNat)
  case atStart => exact ⟨0, Nat.zero_le _, rfl, HS1, Below.refl _ _⟩
  case round =>
    obtain ⟨q, hq, rfl, HS, HB⟩ := hrel
    obtain ⟨qa, qk, hS, hO⟩ := HS.out
    have hlt : b6 < wr.heap.size := (Array.getElem?_eq_some_iff.1 hS).1
    have HHL := hid hlt
    have HMQ := hid (show mayS (mnS f q) = true from mn_may HF.out q (by omega))
    have HLQ := hid (mn_len f q)
    obtain ⟨sq, hsq⟩ : ∃ sq, sq = mnS f q := ⟨_, rfl⟩
    have HSQ := hid hsq
    rw [← hsq] at hS hO HMQ HLQ
    obtain ⟨z0, z1, z2, z3, z4, z5⟩ := ses_box hS
    have HSX := hid hS
    have HSO := hid hO
    by_cases hqm : q < m
    · have k1 : (q : Int) < (m : Int) := by omega
      have k2 : (0 : Int) ≤ 97 + (q : Int) := by omega
      have k3 : 97 + (q : Int) ≤ 255 := by omega
      have hl := mn_step f q (by omega)
      rw [← hsq] at hl
      obtain ⟨r, hr⟩ : ∃ r, r = mnS f (q + 1) := ⟨_, rfl⟩
      have HRE := hid hr
      have HRL := hid (mn_len f (q + 1))
      obtain ⟨co, hco⟩ : ∃ co : Int, co = if 5 ≤ q then 452 else 250 := ⟨_, rfl⟩
      rw [← hr] at hl HRL
      rw [← hco] at hl
      have HCO := hid hco
      have hcv := mn_conv q (97 + (q : Int)) (by omega) rfl
      have HTX := hid (mn_text q)
      obtain ⟨c, hc⟩ : ∃ c, c = UInt8.ofNat (97 + q) := ⟨_, rfl⟩
      rw [← hc] at hcv HTX
      obtain ⟨W2, hW2⟩ : ∃ W2, W2 = (wr.alloc (.cells #[.string ⟨#[117]⟩] 9)).alloc (.cells #[.int .u8 (97 + (q : Int))] 5) := ⟨_, rfl⟩
      have HWE2 := hid hW2
      have hB2 : Below wr.heap.size wr W2 := by rw [hW2]; exact ((Below.refl _ _).alloc (Nat.le_refl _) _).alloc (by simp) _
      have hT2 : W2.heap[wr.heap.size]? = some (.cells #[.string (S [117])] 9) := by rw [hW2]; exact lm_up0 _ _
      have HLN := hid (line_ok (W := W2) (u := W2) HMQ.out hl (AdrsM.any ((own_next hO hB2).row (by have := may_to HMQ.out; unfold maxLen; omega))) (own_roomy hO) (txt_one (c := 1) hT2) (by simp [mnL, rcptU]) (Below.refl _ _))
      have HB2 := hid hB2
      clear hS hO hl hlt hW2 hB2 hT2 hsq hr hco hc
      go_wp2_with fail
      rw [HTX.out, ← HWE2.out]
      refine HLN.out.mono ?_
      rintro e w5 ⟨ra, rk, la, lk, rfl, ho5, ht5, hb5, _, _⟩
      obtain ⟨b9, hb9⟩ : ∃ b, b = w5.heap.size := ⟨_, rfl⟩
      have HE9 := hid hb9
      obtain ⟨W5, hW5⟩ : ∃ W5, W5 = w5.alloc (.cells #[.int .i64 r.step, .string (S r.frm.1), .string (S r.frm.2), .slice ra r.to.length rk, .string (S r.text), .bool r.large] 32) := ⟨_, rfl⟩
      have HWE5 := hid hW5
      have hB5 : Below w5.heap.size w5 W5 := by rw [hW5]; exact (Below.refl _ _).alloc (Nat.le_refl _) _
      have hX5 : W5.heap[b9]? = some (.cells #[.int .i64 r.step, .string (S r.frm.1), .string (S r.frm.2), .slice ra r.to.length rk, .string (S r.text), .bool r.large] 32) := by rw [hW5, hb9]; exact heap_alloc_new _ _
      have hb25 := hb5.trans (hB5.mono hb5.size)
      have hb35 := HB2.out.trans (hb25.mono HB2.out.size)
      obtain ⟨y0, y1, y2, y3, y4, y5⟩ := ses_box hX5
      have hX7 := lm_next hb35 HSX.out
      obtain ⟨v0, v1, v2, v3, v4, v5⟩ := ses_frz hX7
      obtain ⟨x0, x1, x2, x3, x4, x5⟩ := ses_box hX7
      have HNS := hid (SesB.copy (B := 0) hX7 (own_next ho5 hB5) (Nat.lt_of_lt_of_le HHL.out HB2.out.size) (Nat.zero_le _))
      have HNB := hid (show Below b6 W1 _ from (HB.out.trans (hb35.mono (Nat.le_of_lt HHL.out))).trans (low7 W5 (.int .i64 r.step) (.string (S r.frm.1)) (.string (S r.frm.2)) (.slice ra r.to.length rk) (.string (S r.text)) (.bool r.large) (Nat.le_refl _)))
      clear hb9 hW5 hB5 hX5 hb25 hb35 hX7 ho5 ht5 hb5 z0 z1 z2 z3 z4 z5
      by_cases h5 : 5 ≤ q
      case' pos =>
        have j1 : (5 : Int) ≤ (q : Int) := by omega
        have j2 : (r.to.length : Int) = 5 := by rw [HRL.out]; omega
        have j3 : co = 452 := by rw [HCO.out, if_pos h5]
        have j4 : min ((q : Int) + 1) 5 = 5 := by omega
        have j5 : ¬ (q : Int) + 1 ≤ 5 := by omega
      case' neg =>
        have j1 : ¬ (5 : Int) ≤ (q : Int) := by omega
        have j2 : (r.to.length : Int) = (q : Int) + 1 := by rw [HRL.out]; omega
        have j3 : co = 250 := by rw [HCO.out, if_neg h5]
        have j4 : min ((q : Int) + 1) 5 = (q : Int) + 1 := by omega
        have j5 : (q : Int) + 1 ≤ 5 := by omega
      all_goals
        subst j3
        clear h5
        go_upto_region 9 with fail
        rw [← HWE5.out, ← HE9.out]
        go_upto_region 11 with fail
        go_wp2
        go_roundw
        case rel => exact ⟨q + 1, by omega, by simp, (by rw [← HRE.out]; exact HNS), HNB⟩
        case measure => simp [intOf]; omega
    · obtain rfl : q = m := by omega
      have k1 : ¬ (q : Int) < (q : Int) := by omega
      have HBF := hid (show Below w.heap.size w wr from HB1.out.trans (HB.out.mono HN6.out))
      obtain ⟨r, hl1, hrl⟩ := mn_first f q hm10
      have hl2 := mn_bad f q hm10
      rw [← hsq] at hl1 hl2
      have HRL := hid hrl
      obtain ⟨W2, hW2⟩ : ∃ W2, W2 = wr.alloc (.cells #[.string ⟨#[117]⟩] 9) := ⟨_, rfl⟩
      have HWE2 := hid hW2
      have hB2 : Below wr.heap.size wr W2 := by rw [hW2]; exact (Below.refl _ _).alloc (Nat.le_refl _) _
      have hT2 : W2.heap[wr.heap.size]? = some (.cells #[.string (S [117])] 9) := by rw [hW2]; exact lm_at0 _
      have HLN := hid (line_ok (W := W2) (u := W2) HMQ.out hl1 (AdrsM.any ((own_next hO hB2).row (by have := may_to HMQ.out; unfold maxLen; omega))) (own_roomy hO) (txt_one (c := 1) hT2) (by simp [mnL, rcptU]) (Below.refl _ _))
      rw [show S (mnL 0) = (⟨#[82, 67, 80, 84, 32, 84, 79, 58, 60, 117, 64, 100, 97, 62]⟩ : ByteArray) from rfl] at HLN
      have HB2 := hid hB2
      have HLV := hid hl2
      clear hS hO hl1 hl2 hlt hW2 hB2 hT2 hsq hqm hrl
      go_wp2_with fail
      rw [← HWE2.out]
      refine HLN.out.mono ?_
      rintro e w5 ⟨ra, rk, la, lk, rfl, ho5, ht5, hb5, _, _⟩
      obtain ⟨b14, hb14⟩ : ∃ b, b = w5.heap.size := ⟨_, rfl⟩
      have HE14 := hid hb14
      obtain ⟨W5, hW5⟩ : ∃ W5, W5 = w5.alloc (.cells #[.int .i64 r.step, .string (S r.frm.1), .string (S r.frm.2), .slice ra r.to.length rk, .string (S r.text), .bool r.large] 32) := ⟨_, rfl⟩
      have HWE5 := hid hW5
      have hB5 : Below w5.heap.size w5 W5 := by rw [hW5]; exact (Below.refl _ _).alloc (Nat.le_refl _) _
      have hX5 : W5.heap[b14]? = some (.cells #[.int .i64 r.step, .string (S r.frm.1), .string (S r.frm.2), .slice ra r.to.length rk, .string (S r.text), .bool r.large] 32) := by rw [hW5, hb14]; exact heap_alloc_new _ _
      have hb25 := hb5.trans (hB5.mono hb5.size)
      have hb35 := HB2.out.trans (hb25.mono HB2.out.size)
      obtain ⟨x0, x1, x2, x3, x4, x5⟩ := ses_box (lm_next hb35 HSX.out)
      obtain ⟨W6, hW6⟩ : ∃ W6, W6 = W5.alloc (.cells #[.string ⟨#[117]⟩] 9) := ⟨_, rfl⟩
      have HWE6 := hid hW6
      have hB6 : Below W5.heap.size W5 W6 := by rw [hW6]; exact (Below.refl _ _).alloc (Nat.le_refl _) _
      have hT6 : W6.heap[W5.heap.size]? = some (.cells #[.string (S [117])] 9) := by rw [hW6]; exact lm_at0 _
      have hb36 := hb35.trans (hB6.mono hb35.size)
      have HLN2 := hid (line_ok (W := W6) (u := W6) HMQ.out HLV.out (AdrsM.any ((own_next HSO.out hb36).row (by have := may_to HMQ.out; unfold maxLen; omega))) (own_roomy HSO.out) (txt_one (c := 1) hT6) (by simp [mnV, rcptU]) (Below.refl _ _))
      rw [show S mnV = (⟨#[82, 67, 80, 84, 32, 84, 79, 58, 60, 118, 64, 100, 97, 62]⟩ : ByteArray) from rfl] at HLN2
      have HY3 := hid (show W6.cell? ⟨b14, 3, none⟩ = some (.slice ra r.to.length rk) from wcell_next (ses_box hX5).2.2.2.1 hB6)
      have HB36 := hid hb36
      clear hb14 hW5 hB5 hX5 hb25 hb35 hb36 ho5 ht5 hb5 z0 z1 z2 z3 z4 z5 hW6 hB6 hT6
      go_upto_region 15 with fail
      rw [← HWE5.out, ← HE14.out]
      go_wp2_with fail
      rw [← HWE6.out]
      refine HLN2.out.mono ?_
      rintro e w7 ⟨qa2, qk2, la2, lk2, rfl, ho7, ht7, hb7, _, _⟩
      have y3 := wcell_next HY3.out hb7
      have y3' : ∀ o, (w7.alloc o).cell? ⟨b14, 3, none⟩ = some (.slice ra r.to.length rk) := fun o => wcell_next y3 ((Below.refl _ _).alloc (Nat.le_refl _) _)
      have HBE := hid (show Below w.heap.size w w7 from (HBF.out.trans (HB36.out.mono HBF.out.size)).trans (hb7.mono (Nat.le_trans HBF.out.size HB36.out.size)))
      have HBZ := hid (show w.heap.size ≤ w7.heap.size from HBE.out.size)
      have j2 : (r.to.length : Int) = max 1 (min (q : Int) 5) := by rw [HRL.out]; omega
      clear hb7 ho7 ht7 x0 x1 x2 x3 x4 x5
      go_wp2
      go_ret
      exact ⟨by first | rfl | simp, HBE.out.alloc HBZ.out _⟩
end Go.Proofs.Ytoiblibminhojab
