/-
  LmtpLines: the walk.
-/
import Derived.Test.YtkdmccgfehmoaaaLmOut
import Derived.Deep.DeepCutAuto
namespace Go.Proofs.Ytkdmccgfehmoaaa
open Go.RowKit Go.Proofs

set_option maxHeartbeats 4000000 in
set_option maxRecDepth 100000 in
theorem lmtpLines_walk (s : Ses) (a : Option Addr) (k : Nat) (ka : Option Addr) (kc : Nat) (known : List (List UInt8)) (ln : ByteArray) (hn : ln.size ≤ 140737488355328) (w : World) (h : AdrsM anyB w (.slice a s.to.length k) s.to) (hr : s.to.length ≤ k) (hl : s.to.length ≤ 4398046511104) (hf : Fit s) (hk : TxtsM anyB w (.slice ka known.length kc) known) (hkl : known.length ≤ 8796093022208) :
    Calls Try.prog 4 #[.agg #[.int .i64 s.step, .string (S s.frm.1), .string (S s.frm.2), .slice a s.to.length k, .string (S s.text), .bool s.large], .slice ka known.length kc, .string ln] w fun e w' => e = .returned (.bool true) ∧ Below w.heap.size w w' := by
  obtain ⟨line, rfl⟩ : ∃ line, ln = S line := ⟨ln.data.toList, (S_list ln).symm⟩
  have HLN0 := hid (show line.length ≤ 140737488355328 by rw [size_S] at hn; exact hn)
  obtain ⟨o, ho⟩ : ∃ o, o = outM s known line := ⟨_, rfl⟩
  obtain ⟨r, c, ls, er⟩ := o
  have HO := hid ho.symm
  have HOL := hid (out_len ho.symm)
  obtain ⟨W0, hW0⟩ : ∃ W0, W0 = w.alloc (.cells #[.int .i64 s.step, .string (S s.frm.1), .string (S s.frm.2), .slice a s.to.length k, .string (S s.text), .bool s.large] 26) := ⟨_, rfl⟩
  have HWE := hid hW0
  have HB := hid (show Below w.heap.size w W0 by rw [hW0]; exact (Below.refl _ _).alloc (Nat.le_refl _) _)
  have HH := hid (show W0.heap[w.heap.size]? = some (.cells #[.int .i64 s.step, .string (S s.frm.1), .string (S s.frm.2), .slice a s.to.length k, .string (S s.text), .bool s.large] 26) by rw [hW0]; exact heap_alloc_new w _)
  have HL := hid (h.next HB.out)
  have HK := hid (txts_next hk HB.out)
  have HC := hid (sessions_any s a k W0 HL.out hl)
  have HF := hid hf
  have HRR := hid (show Roomy (.slice a s.to.length k) from fun _ _ _ e => by cases e; exact hr)
  have HKL := hid hkl
  unfold sesV at HC
  obtain ⟨x0, x1, x2, x3, x4, x5⟩ := ses_box HH.out
  clear h hW0 hl hf hr hk hkl ho hn
  go_enter Try.func4, Try.ntmps4
  go_upto_region 1 with fail
  rw [← HWE.out]
  go_wp2_with fail
  refine HC.out.mono ?_
  rintro e w1 ⟨v, rfl, hv, hvr, hb1⟩
  obtain ⟨a7, k7, rfl⟩ : ∃ a7 k7, v = .slice a7 s.to.length k7 := by obtain ⟨a7, k7, h, _⟩ := hv; exact ⟨a7, k7, h⟩
  unfold sesV
  obtain ⟨b7, hb7⟩ : ∃ b, b = w1.heap.size := ⟨_, rfl⟩
  have HE7 := hid hb7
  obtain ⟨W2, hW2⟩ : ∃ W2, W2 = w1.alloc (.cells #[.int .i64 s.step, .string (S s.frm.1), .string (S s.frm.2), .slice a7 s.to.length k7, .string (S s.text), .bool s.large] 26) := ⟨_, rfl⟩
  have HWE2 := hid hW2
  have hB2 : Below w1.heap.size w1 W2 := by rw [hW2]; exact (Below.refl _ _).alloc (Nat.le_refl _) _
  have HX7 := hid (show W2.heap[b7]? = some (.cells #[.int .i64 s.step, .string (S s.frm.1), .string (S s.frm.2), .slice a7 s.to.length k7, .string (S s.text), .bool s.large] 26) by rw [hW2, hb7]; exact heap_alloc_new _ _)
  have HB2 := hid (show Below W0.heap.size W0 W2 from hb1.trans (hB2.mono hb1.size))
  have HV7 := hid (hv.next hB2)
  have HR7 := hid hvr
  clear hv hvr hb1 hW2 hB2 hb7 x0 x1 x2 x3 x4 x5
  go_upto_region 2 with fail
  rw [← HWE2.out, ← HE7.out]
  obtain ⟨z0, z1, z2, z3, z4, z5⟩ := ses_box HX7.out
  have HCC := hid (fun (u : World) (hu : Below W2.heap.size W2 u) => show (u.cell? ⟨b7, 0, none⟩ = some (.int .i64 s.step) ∧ u.cell? ⟨b7, 1, none⟩ = some (.string (S s.frm.1)) ∧ u.cell? ⟨b7, 2, none⟩ = some (.string (S s.frm.2)) ∧ u.cell? ⟨b7, 3, none⟩ = some (.slice a7 s.to.length k7) ∧ u.cell? ⟨b7, 4, none⟩ = some (.string (S s.text)) ∧ u.cell? ⟨b7, 5, none⟩ = some (.bool s.large)) from ⟨wcell_next z0 hu, wcell_next z1 hu, wcell_next z2 hu, wcell_next z3 hu, wcell_next z4 hu, wcell_next z5 hu⟩)
  have HTX := hid (fun (u : World) (hu : Below W2.heap.size W2 u) => texts_any known ka kc u (txts_next (txts_next HK.out HB2.out) hu) HKL.out)
  have HLX := hid (fun (u : World) (kb : Option Addr) (kd : Nat) (hu : Below W2.heap.size W2 u) (ht : TxtsM anyB u (.slice kb known.length kd) known) => line_x (W := W2) HF.out HO.out (HV7.out.next hu) HR7.out ht HLN0.out hu)
  go_cut [8, 9, 10, 11] (fun vp vc vl ve wx => LxB W2 r c ls er vp vc vl ve wx)
  case first =>
    go_region_held3 (fun u => u.cell? ⟨b7, 0, none⟩ = some (.int .i64 s.step) ∧ u.cell? ⟨b7, 1, none⟩ = some (.string (S s.frm.1)) ∧ u.cell? ⟨b7, 2, none⟩ = some (.string (S s.frm.2)) ∧ u.cell? ⟨b7, 3, none⟩ = some (.slice a7 s.to.length k7) ∧ u.cell? ⟨b7, 4, none⟩ = some (.string (S s.text)) ∧ u.cell? ⟨b7, 5, none⟩ = some (.bool s.large))
      (first | (refine HCC.out _ ?_; (repeat (first | with_reducible exact HB8.out | with_reducible exact HB5.out | with_reducible exact Below.refl _ _ | with_reducible refine Below.drew ?_ | with_reducible refine Below.alloc ?_ (by first | exact Nat.le_refl _ | exact HZ8.out | exact HZ5.out | (simp <;> omega) | simp) _ | with_reducible refine Below.setCell ?_ (by first | exact Nat.le_refl _ | exact HZ5.out | (simp <;> omega) | simp) _))) | fail)
      (first
        | (go_at_call 9
           refine (HTX.out _ ?_).mono ?_
           · repeat (first | exact Below.refl _ _ | refine Below.drew ?_ | refine Below.alloc ?_ (by first | exact Nat.le_refl _ | simp) _)
           rintro e w5 ⟨v5, rfl, hv5, hb5⟩
           obtain ⟨kb, kd, rfl⟩ := txts_slice hv5
           have HT5 := hid hv5
           have HC5 := hid hb5
           have HB5 := hid (show Below W2.heap.size W2 w5 from Below.trans (by repeat (first | exact Below.refl _ _ | refine Below.drew ?_ | refine Below.alloc ?_ (by first | exact Nat.le_refl _ | simp) _)) (hb5.mono (by first | exact Nat.le_refl _ | simp | (simp <;> omega))))
           have HZ5 := hid HB5.out.size
           clear hv5 hb5)
        | (go_at_call 8
           refine (HLX.out _ _ _ ?_ ?_).mono ?_
           · repeat (first | exact HB5.out | refine Below.drew ?_ | refine Below.alloc ?_ (by first | exact HZ5.out | simp) _)
           · refine txts_next HT5.out ?_
             repeat (first | exact Below.refl _ _ | refine Below.drew ?_ | refine Below.alloc ?_ (by first | exact Nat.le_refl _ | simp) _)
           rintro e w8 ⟨a8, k8, al, cl, rfl, ho8, ht8, hb8, hB8, hz8⟩
           have HO8 := hid ho8
           have HT8 := hid ht8
           have HB8 := hid hB8
           have HZ8 := hid hB8.size
           have HU8 := hid hz8
           first
             | (have HK8 : Hid (w8.heap[W2.heap.size]? = some (.cells #[.int .i64 0, .string ⟨#[]⟩, .string ⟨#[]⟩, .slice none 0 0, .string ⟨#[]⟩, .bool false] 26)) := hid (lm_next hb8 (drew_at (lm_next HC5.out (drew_at (lm_at0 _))))); have hk8 := HK8.out; obtain ⟨g0, g1, g2, g3, g4, g5⟩ := ses_frz hk8; obtain ⟨x0, x1, x2, x3, x4, x5⟩ := ses_box hk8; clear hk8)
             | (have HK8 : Hid (w8.heap[w5.heap.size]? = some (.cells #[.int .i64 0, .string ⟨#[]⟩, .string ⟨#[]⟩, .slice none 0 0, .string ⟨#[]⟩, .bool false] 26)) := hid (lm_next hb8 (drew_at (lm_at0 _))); have hk8 := HK8.out; obtain ⟨g0, g1, g2, g3, g4, g5⟩ := ses_frz hk8; obtain ⟨x0, x1, x2, x3, x4, x5⟩ := ses_box hk8; clear hk8)
             | skip
           clear ho8 ht8 hb8 hB8 hz8)
        | fail)
    all_goals
      first
        | (have HE := hid (LxB.old (c := c) (er := er) HO8.out HT8.out HB8.out HU8.out (by first | exact Nat.le_refl _ | exact HZ5.out | omega) (by first | (simp; done) | (simp; omega) | (have h := HC5.out.size; simp at h ⊢; omega)) HK8.out)
           go_wp2_with fail
           go_meet
           exact HE.out)
        | (have HE := hid (LxB.new (c := c) (er := er) HO8.out HT8.out HB8.out HU8.out)
           go_wp2_with fail
           go_meet
           exact HE.out)
        | fail
  case rest =>
    obtain ⟨P, al, cl, rfl, rfl, rfl, rfl, ⟨ra, rk, hR, hRO⟩, hRT, hb⟩ := hcut
    obtain ⟨Wc, hWc⟩ : ∃ W, W = wc := ⟨_, rfl⟩
    have HR3 := hid hR
    have HRO := hid (AdrsM.any (hRO.row (by have := HOL.out.1; unfold maxLen; omega)))
    have HRT := hid (hRT.row (by have := HOL.out.2; unfold maxLen; omega))
    have HB3 := hid hb
    have HB03 := hid (show Below W0.heap.size W0 wc from HB2.out.trans (hb.mono HB2.out.size))
    obtain ⟨x0, x1, x2, x3, x4, x5⟩ := ses_box (lm_next HB03.out HH.out)
    have HLD := hid (lined_x HF.out HO.out (HL.out.next HB03.out) HRR.out (txts_next HK.out HB03.out) HLN0.out)
    clear hR hRO hRT hb z0 z1 z2 z3 z4 z5 hWc
    go_wp2_with fail
    refine HLD.out.mono ?_
    rintro e w5 ⟨a5, k5, al5, cl5, rfl, ha5, ht5, hb5⟩
    obtain ⟨b12, hb12⟩ : ∃ b, b = w5.heap.size := ⟨_, rfl⟩
    have HE12 := hid hb12
    obtain ⟨W5, hW5⟩ : ∃ W5, W5 = w5.alloc (.cells #[.int .i64 r.step, .string (S r.frm.1), .string (S r.frm.2), .slice a5 r.to.length k5, .string (S r.text), .bool r.large] 26) := ⟨_, rfl⟩
    have HWE5 := hid hW5
    have hB5 : Below w5.heap.size w5 W5 := by rw [hW5]; exact (Below.refl _ _).alloc (Nat.le_refl _) _
    have HX5 := hid (show W5.heap[b12]? = some (.cells #[.int .i64 r.step, .string (S r.frm.1), .string (S r.frm.2), .slice a5 r.to.length k5, .string (S r.text), .bool r.large] 26) by rw [hW5, hb12]; exact heap_alloc_new _ _)
    have hB35 : Below wc.heap.size wc W5 := hb5.trans (hB5.mono hb5.size)
    have HB05 := hid (show Below W0.heap.size W0 W5 from HB03.out.trans (hB35.mono HB03.out.size))
    have HB25 := hid (show Below W2.heap.size W2 W5 from HB3.out.trans (hB35.mono HB3.out.size))
    have HP5 := hid (lm_next hB35 HR3.out)
    have HRA := hid (HRO.out.next hB35)
    have HRL := hid (LtrsM.next HRT.out hB35)
    have HAA := hid (ha5.next hB5)
    have HAL := hid (LtrsM.next ht5 hB5)
    have HS1 := hid (sameS_any r ra a5 rk k5 W5 HRA.out HAA.out)
    clear ha5 ht5 hb5 hb12 hW5 hB5 hB35 x0 x1 x2 x3 x4 x5
    go_upto_region 4 with fail
    rw [← HWE5.out, ← HE12.out]
    have ee : (er == er) = true := by simp
    have cc : (c == c) = true := by simp
    obtain ⟨p0, p1, p2, p3, p4, p5⟩ := ses_box HP5.out
    obtain ⟨q0, q1, q2, q3, q4, q5⟩ := ses_box HX5.out
    go_wp2_with fail
    refine HS1.out.mono ?_
    rintro e w6 ⟨rfl, hb6⟩
    have HS2 := hid (sameL_any ls al al5 cl cl5 w6 _ _ (LtrsM.next HRL.out hb6) (LtrsM.next HAL.out hb6))
    have HB06 := hid (show Below W0.heap.size W0 w6 from HB05.out.trans (hb6.mono HB05.out.size))
    have HB26 := hid (show Below W2.heap.size W2 w6 from HB25.out.trans (hb6.mono HB25.out.size))
    clear hb6 p0 p1 p2 p3 p4 p5 q0 q1 q2 q3 q4 q5
    go_wp2_with fail
    refine HS2.out.mono ?_
    rintro e w7 ⟨rfl, hb7⟩
    have HB07 := hid (show Below W0.heap.size W0 w7 from HB06.out.trans (hb7.mono HB06.out.size))
    have HB27 := hid (show Below W2.heap.size W2 w7 from HB26.out.trans (hb7.mono HB26.out.size))
    have HS3 := hid (sameS_any s a7 a k7 k w7 (HV7.out.next HB27.out) (HL.out.next HB07.out))
    obtain ⟨p0, p1, p2, p3, p4, p5⟩ := ses_box (lm_next HB27.out HX7.out)
    obtain ⟨q0, q1, q2, q3, q4, q5⟩ := ses_box (lm_next HB07.out HH.out)
    clear hb7
    go_wp2_with fail
    refine HS3.out.mono ?_
    rintro e w8 ⟨rfl, hb8⟩
    have HB08 := hid (show Below w.heap.size w w8 from HB.out.trans ((HB07.out.trans (hb8.mono HB07.out.size)).mono HB.out.size))
    clear hb8 p0 p1 p2 p3 p4 p5 q0 q1 q2 q3 q4 q5
    go_wp2
    go_ret
    exact ⟨ret_bool (by simp), HB08.out⟩
end Go.Proofs.Ytkdmccgfehmoaaa
