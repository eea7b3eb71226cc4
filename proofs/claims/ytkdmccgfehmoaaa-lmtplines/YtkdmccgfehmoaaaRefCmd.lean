/-
  The reference's commanded (P12.3): the walk.
-/
import Derived.Test.YtkdmccgfehmoaaaRefCmB
namespace Go.Proofs.Ytkdmccgfehmoaaa
open Go.RowKit Go.Proofs

set_option maxHeartbeats 4000000 in
set_option maxRecDepth 100000 in
theorem commandedR_any (Q : Nat → Prop) (s : Ses) (a : Option Addr) (k : Nat) (known : List (List UInt8)) (ka : Option Addr) (kc : Nat) (line : List UInt8) (w : World) (hm : mayS s = true) (ha : AdrsM Q w (.slice a s.to.length k) s.to) (hQ : ∀ g, w.heap.size ≤ g → Q g) (hk : TxtsM anyB w (.slice ka known.length kc) known) (hl : line.length ≤ 140737488355328) :
    Calls Try.prog 20 #[.agg #[.int .i64 s.step, .string (S s.frm.1), .string (S s.frm.2), .slice a s.to.length k, .string (S s.text), .bool s.large], .slice ka known.length kc, .string (S line)] w (CmP Q w (cmdM s known line)) := by
  obtain ⟨W1, hW1⟩ : ∃ W1, W1 = (w.alloc (.cells #[.int .i64 s.step, .string (S s.frm.1), .string (S s.frm.2), .slice a s.to.length k, .string (S s.text), .bool s.large] 26)).alloc (.cells #[.int .i64 0, .string ⟨#[]⟩, .string ⟨#[]⟩, .slice none 0 0, .string ⟨#[]⟩, .bool false] 26) := ⟨_, rfl⟩
  have HWE := hid hW1
  have HB1 := hid (show Below w.heap.size w W1 by rw [hW1]; exact ((Below.refl _ _).alloc (Nat.le_refl _) _).alloc (by simp) _)
  have HX0 := hid (show W1.heap[w.heap.size]? = some (.cells #[.int .i64 s.step, .string (S s.frm.1), .string (S s.frm.2), .slice a s.to.length k, .string (S s.text), .bool s.large] 26) by rw [hW1]; exact lm_up0 _ _)
  have HX1 := hid (show W1.heap[w.heap.size + 1]? = some (.cells #[.int .i64 0, .string ⟨#[]⟩, .string ⟨#[]⟩, .slice none 0 0, .string ⟨#[]⟩, .bool false] 26) by rw [hW1]; exact lm_at1 _ _)
  have HZ := hid (show W1.heap.size = w.heap.size + 2 by rw [hW1]; simp)
  have HA := hid (show AdrsM (fun g => g < w.heap.size ∧ Q g) w (.slice a s.to.length k) s.to from by
    obtain ⟨a', c', h1, h2, h3⟩ := ha
    refine ⟨a', c', h1, h2, fun i x hx => ?_⟩
    obtain ⟨b, o, cs, e1, e2, e3, e4, e5, e6⟩ := h3 i x hx
    exact ⟨b, o, cs, e1, e2, ⟨e2, e3⟩, e4, e5, e6⟩)
  have HK := hid (hk.imp (fun _ h => h) (Keeps.of_below HB1.out))
  have HM := hid hm
  have HQQ := hid hQ
  have HBR := hid (Below.refl W1.heap.size W1)
  have hzl : (S line).size = line.length := size_S _
  clear hW1 ha hk hm hQ
  by_cases h3 : 300 < line.length
  · have k1 : (300 : Int) < (line.length : Int) := by omega
    go_enter Try.func20, Try.ntmps20
    go_upto_region 1 with fail
    rw [← HWE.out]
    have HQ := hid (show cmdM s known line = (s, 500) from cm_long h3)
    obtain ⟨y0, y1, y2, y3, y4, y5⟩ := ses_box (lm_next HBR.out HX0.out)
    have hY := lm_next HBR.out HX1.out
    obtain ⟨f0, f1, f2, f3, f4, f5⟩ := ses_frz hY
    obtain ⟨g0, g1, g2, g3, g4, g5⟩ := ses_box hY
    have HR := hid (six_put' (v0 := .int .i64 s.step) (v1 := .string (S s.frm.1)) (v2 := .string (S s.frm.2)) (v3 := .slice a s.to.length k) (v4 := .string (S s.text)) (v5 := .bool s.large) hY)
    have HE := hid (cm_same (c := 500) HB1.out HBR.out HA.out)
    unfold outW at HE
    clear hY
    go_wp2
    obtain ⟨r0, r1, r2, r3, r4, r5⟩ := ses_box HR.out
    clear y0 y1 y2 y3 y4 y5 f0 f1 f2 f3 f4 f5 g0 g1 g2 g3 g4 g5
    refine bodyPost_ret (v := .tuple #[.agg #[.int .i64 s.step, .string (S s.frm.1), .string (S s.frm.2), .slice a s.to.length k, .string (S s.text), .bool s.large], .int .i64 500]) (by simp [results, Try.results20, go_sem, *]) rfl ?_
    rw [HQ.out]
    exact HE.out
  have k1 : ¬ (300 : Int) < (line.length : Int) := by omega
  have HSH := hid (cm_short (s := s) (known := known) h3)
  obtain ⟨o1, ho1⟩ : ∃ o1, o1 = behindM wLhlo line := ⟨_, rfl⟩
  have HB5 := hid (show Calls Try.prog 34 #[.string (S line), .string ⟨#[76, 72, 76, 79, 32]⟩] W1 (BrP W1 o1) from by rw [ho1]; exact behindR_any line [76, 72, 76, 79, 32] W1 (by decide))
  rw [← ho1] at HSH
  have HBL := hid (fun r (h : o1 = some r) => behind_len (ho1.symm.trans h))
  clear ho1 h3
  go_enter Try.func20, Try.ntmps20
  go_upto_region 1 with fail
  rw [← HWE.out]
  go_wp2_with fail
  refine HB5.out.mono ?_
  cases o1 with
  | some t =>
    rintro e w2 ⟨rfl, hb2⟩
    have HB2 := hid hb2
    have HTL := hid (show t.length ≤ 140737488355328 from Nat.le_trans (HBL.out t rfl) hl)
    have HAF := hid (addressFault_any ⟨#[120]⟩ (S t) w2 (by decide) (by rw [size_S]; exact HTL.out))
    obtain ⟨z, hz⟩ : ∃ z, z = checkA [120] t := ⟨_, rfl⟩
    rw [show (⟨#[120]⟩ : ByteArray).data.toList = [120] from rfl, list_S, ← hz] at HAF
    have HGR := hid (show cmd1 s known line (some t) = if z = 0 then (atS 1, 250) else (s, 501) by
      show greetM s t = _
      unfold greetM adrOk
      rw [hz]
      simp)
    clear hb2 hz
    go_wp2_with fail
    refine HAF.out.mono ?_
    rintro e w3 ⟨rfl, hb3⟩
    have HB3 := hid (HB2.out.trans (hb3.mono HB2.out.size))
    clear hb3
    by_cases h0 : z = 0
    · have z1 : (z != 0) = false := by simp [h0]
      have HQ := hid (show cmdM s known line = ((⟨1, ([], []), [], [], false⟩ : Ses), 250) from (by rw [HSH.out, HGR.out, if_pos h0]; rfl))
      have hY := lm_next HB3.out HX1.out
      obtain ⟨f0, f1, f2, f3, f4, f5⟩ := ses_frz hY
      obtain ⟨g0, g1, g2, g3, g4, g5⟩ := ses_box hY
      have HR := hid (six_put' (v0 := .int .i64 1) (v1 := .string ⟨#[]⟩) (v2 := .string ⟨#[]⟩) (v3 := .slice none 0 0) (v4 := .string ⟨#[]⟩) (v5 := .bool false) hY)
      have HE := hid (cm_new (Q := Q) (r := ⟨1, ([], []), [], [], false⟩) (c := 250) HB1.out HB3.out rfl)
      unfold outW at HE
      clear hY
      go_wp2
      obtain ⟨r0, r1, r2, r3, r4, r5⟩ := ses_box HR.out
      clear f0 f1 f2 f3 f4 f5 g0 g1 g2 g3 g4 g5
      refine bodyPost_ret (v := .tuple #[.agg #[.int .i64 1, .string ⟨#[]⟩, .string ⟨#[]⟩, .slice none 0 0, .string ⟨#[]⟩, .bool false], .int .i64 250]) (by simp [results, Try.results20, go_sem, *]) rfl ?_
      rw [HQ.out]
      exact HE.out
    · have z1 : (z != 0) = true := by simp [h0]
      have HQ := hid (show cmdM s known line = (s, 501) from (by rw [HSH.out, HGR.out, if_neg h0]))
      obtain ⟨y0, y1, y2, y3, y4, y5⟩ := ses_box (lm_next HB3.out HX0.out)
      have hY := lm_next HB3.out HX1.out
      obtain ⟨f0, f1, f2, f3, f4, f5⟩ := ses_frz hY
      obtain ⟨g0, g1, g2, g3, g4, g5⟩ := ses_box hY
      have HR := hid (six_put' (v0 := .int .i64 s.step) (v1 := .string (S s.frm.1)) (v2 := .string (S s.frm.2)) (v3 := .slice a s.to.length k) (v4 := .string (S s.text)) (v5 := .bool s.large) hY)
      have HE := hid (cm_same (c := 501) HB1.out HB3.out HA.out)
      unfold outW at HE
      clear hY
      go_wp2
      obtain ⟨r0, r1, r2, r3, r4, r5⟩ := ses_box HR.out
      clear y0 y1 y2 y3 y4 y5 f0 f1 f2 f3 f4 f5 g0 g1 g2 g3 g4 g5
      refine bodyPost_ret (v := .tuple #[.agg #[.int .i64 s.step, .string (S s.frm.1), .string (S s.frm.2), .slice a s.to.length k, .string (S s.text), .bool s.large], .int .i64 501]) (by simp [results, Try.results20, go_sem, *]) rfl ?_
      rw [HQ.out]
      exact HE.out
  | none =>
    rintro e w2 ⟨rfl, hb2⟩
    have HB2 := hid hb2
    obtain ⟨o2, ho2⟩ : ∃ o2, o2 = behindM wMail line := ⟨_, rfl⟩
    have HSH2 := hid (show cmdM s known line = cmd2 s known line o2 by rw [HSH.out, ho2]; rfl)
    have HC2 := hid (show Calls Try.prog 34 #[.string (S line), .string ⟨#[77, 65, 73, 76, 32, 70, 82, 79, 77, 58]⟩] w2 (BrP w2 o2) from by rw [ho2]; exact behindR_any line [77, 65, 73, 76, 32, 70, 82, 79, 77, 58] w2 (by decide))
    have HBL2 := hid (fun r (h : o2 = some r) => behind_len (ho2.symm.trans h))
    clear hb2 ho2
    go_wp2_with fail
    refine HC2.out.mono ?_
    cases o2 with
    | some t =>
      rintro e w3 ⟨rfl, hb3⟩
      have HB3 := hid (HB2.out.trans (hb3.mono HB2.out.size))
      obtain ⟨ao, hao⟩ : ∃ ao, ao = addrM t := ⟨_, rfl⟩
      have HAN := hid (angledR_any (S t) w3 (by rw [size_S]; have := HBL2.out t rfl; omega))
      rw [list_S, ← hao] at HAN
      have HMM := hid (show cmd2 s known line (some t) = if s.step = 1 then mailTo s ao else (s, 503) by rw [hao]; rfl)
      clear hb3 hao
      go_wp2_with fail
      refine HAN.out.mono ?_
      cases ao with
      | some ad =>
        rintro e w4 ⟨rfl, hb4⟩
        obtain ⟨W4, hW4⟩ : ∃ W4, W4 = w4.alloc (.cells #[.string (S ad.1), .string (S ad.2)] 23) := ⟨_, rfl⟩
        have HWE4 := hid hW4
        have hB4 : Below w4.heap.size w4 W4 := by rw [hW4]; exact (Below.refl _ _).alloc (Nat.le_refl _) _
        obtain ⟨b10, hb10⟩ : ∃ b, b = w4.heap.size := ⟨_, rfl⟩
        have HE10 := hid hb10
        have hX4 : W4.heap[b10]? = some (.cells #[.string (S ad.1), .string (S ad.2)] 23) := by rw [hW4, hb10]; exact heap_alloc_new _ _
        obtain ⟨m0, m1⟩ := adr_box hX4
        have HB4 := hid (HB3.out.trans ((hb4.trans (hB4.mono hb4.size)).mono HB3.out.size))
        have hs0 : W4.cell? ⟨w.heap.size, 0, none⟩ = some (.int .i64 s.step) := (ses_box (lm_next HB4.out HX0.out)).1
        clear hb4 hW4 hB4 hb10 hX4
        go_upto_region 11 with fail
        rw [← HWE4.out, ← HE10.out]
        by_cases h1 : s.step = 1
        · have c1 : (s.step != 1) = false := by simp [h1]
          have H1 := hid h1
          clear h1
          have HTO := hid (show s.to = [] ∧ s.text = [] ∧ s.large = false by
            obtain ⟨_, _, _, pg, pt⟩ := mayS_parts.1 HM.out
            unfold goalsS at pg
            unfold textS at pt
            have h1 := H1.out
            rw [if_pos (by omega)] at pg
            rw [if_neg (by omega)] at pt
            simp at pg pt
            exact ⟨pg, pt.1, pt.2⟩)
          have HQ := hid (show cmdM s known line = ((⟨2, ad, [], [], false⟩ : Ses), 250) from (by rw [HSH2.out, HMM.out, if_pos H1.out]; show ((⟨2, ad, s.to, s.text, s.large⟩ : Ses), (250 : Int)) = _; rw [HTO.out.1, HTO.out.2.1, HTO.out.2.2]))
          have hY := lm_next HB4.out HX1.out
          obtain ⟨f0, f1, f2, f3, f4, f5⟩ := ses_frz hY
          obtain ⟨g0, g1, g2, g3, g4, g5⟩ := ses_box hY
          have HR := hid (six_put' (v0 := .int .i64 2) (v1 := .string (S ad.1)) (v2 := .string (S ad.2)) (v3 := .slice none 0 0) (v4 := .string ⟨#[]⟩) (v5 := .bool false) hY)
          have HE := hid (cm_new (Q := Q) (r := ⟨2, ad, [], [], false⟩) (c := 250) HB1.out HB4.out rfl)
          unfold outW at HE
          clear hY
          go_wp2
          obtain ⟨r0, r1, r2, r3, r4, r5⟩ := ses_box HR.out
          clear f0 f1 f2 f3 f4 f5 g0 g1 g2 g3 g4 g5
          refine bodyPost_ret (v := .tuple #[.agg #[.int .i64 2, .string (S ad.1), .string (S ad.2), .slice none 0 0, .string ⟨#[]⟩, .bool false], .int .i64 250]) (by simp [results, Try.results20, go_sem, *]) rfl ?_
          rw [HQ.out]
          exact HE.out
        · have c1 : (s.step != 1) = true := by simp [h1]
          have H1 := hid h1
          clear h1
          have HQ := hid (show cmdM s known line = (s, 503) from (by rw [HSH2.out, HMM.out, if_neg H1.out]))
          obtain ⟨y0, y1, y2, y3, y4, y5⟩ := ses_box (lm_next HB4.out HX0.out)
          have hY := lm_next HB4.out HX1.out
          obtain ⟨f0, f1, f2, f3, f4, f5⟩ := ses_frz hY
          obtain ⟨g0, g1, g2, g3, g4, g5⟩ := ses_box hY
          have HR := hid (six_put' (v0 := .int .i64 s.step) (v1 := .string (S s.frm.1)) (v2 := .string (S s.frm.2)) (v3 := .slice a s.to.length k) (v4 := .string (S s.text)) (v5 := .bool s.large) hY)
          have HE := hid (cm_same (c := 503) HB1.out HB4.out HA.out)
          unfold outW at HE
          clear hY
          go_wp2
          obtain ⟨r0, r1, r2, r3, r4, r5⟩ := ses_box HR.out
          clear y0 y1 y2 y3 y4 y5 f0 f1 f2 f3 f4 f5 g0 g1 g2 g3 g4 g5
          refine bodyPost_ret (v := .tuple #[.agg #[.int .i64 s.step, .string (S s.frm.1), .string (S s.frm.2), .slice a s.to.length k, .string (S s.text), .bool s.large], .int .i64 503]) (by simp [results, Try.results20, go_sem, *]) rfl ?_
          rw [HQ.out]
          exact HE.out
      | none =>
        rintro e w4 ⟨⟨xa, ya, rfl⟩, hb4⟩
        obtain ⟨W4, hW4⟩ : ∃ W4, W4 = w4.alloc (.cells #[.string xa, .string ya] 23) := ⟨_, rfl⟩
        have HWE4 := hid hW4
        have hB4 : Below w4.heap.size w4 W4 := by rw [hW4]; exact (Below.refl _ _).alloc (Nat.le_refl _) _
        have HB4 := hid (HB3.out.trans ((hb4.trans (hB4.mono hb4.size)).mono HB3.out.size))
        have hs0 : W4.cell? ⟨w.heap.size, 0, none⟩ = some (.int .i64 s.step) := (ses_box (lm_next HB4.out HX0.out)).1
        clear hb4 hW4 hB4
        go_upto_region 11 with fail
        rw [← HWE4.out]
        by_cases h1 : s.step = 1
        · have c1 : (s.step != 1) = false := by simp [h1]
          have H1 := hid h1
          clear h1
          have HQ := hid (show cmdM s known line = (s, 501) from (by rw [HSH2.out, HMM.out, if_pos H1.out]; rfl))
          obtain ⟨y0, y1, y2, y3, y4, y5⟩ := ses_box (lm_next HB4.out HX0.out)
          have hY := lm_next HB4.out HX1.out
          obtain ⟨f0, f1, f2, f3, f4, f5⟩ := ses_frz hY
          obtain ⟨g0, g1, g2, g3, g4, g5⟩ := ses_box hY
          have HR := hid (six_put' (v0 := .int .i64 s.step) (v1 := .string (S s.frm.1)) (v2 := .string (S s.frm.2)) (v3 := .slice a s.to.length k) (v4 := .string (S s.text)) (v5 := .bool s.large) hY)
          have HE := hid (cm_same (c := 501) HB1.out HB4.out HA.out)
          unfold outW at HE
          clear hY
          go_wp2
          obtain ⟨r0, r1, r2, r3, r4, r5⟩ := ses_box HR.out
          clear y0 y1 y2 y3 y4 y5 f0 f1 f2 f3 f4 f5 g0 g1 g2 g3 g4 g5
          refine bodyPost_ret (v := .tuple #[.agg #[.int .i64 s.step, .string (S s.frm.1), .string (S s.frm.2), .slice a s.to.length k, .string (S s.text), .bool s.large], .int .i64 501]) (by simp [results, Try.results20, go_sem, *]) rfl ?_
          rw [HQ.out]
          exact HE.out
        · have c1 : (s.step != 1) = true := by simp [h1]
          have H1 := hid h1
          clear h1
          have HQ := hid (show cmdM s known line = (s, 503) from (by rw [HSH2.out, HMM.out, if_neg H1.out]))
          obtain ⟨y0, y1, y2, y3, y4, y5⟩ := ses_box (lm_next HB4.out HX0.out)
          have hY := lm_next HB4.out HX1.out
          obtain ⟨f0, f1, f2, f3, f4, f5⟩ := ses_frz hY
          obtain ⟨g0, g1, g2, g3, g4, g5⟩ := ses_box hY
          have HR := hid (six_put' (v0 := .int .i64 s.step) (v1 := .string (S s.frm.1)) (v2 := .string (S s.frm.2)) (v3 := .slice a s.to.length k) (v4 := .string (S s.text)) (v5 := .bool s.large) hY)
          have HE := hid (cm_same (c := 503) HB1.out HB4.out HA.out)
          unfold outW at HE
          clear hY
          go_wp2
          obtain ⟨r0, r1, r2, r3, r4, r5⟩ := ses_box HR.out
          clear y0 y1 y2 y3 y4 y5 f0 f1 f2 f3 f4 f5 g0 g1 g2 g3 g4 g5
          refine bodyPost_ret (v := .tuple #[.agg #[.int .i64 s.step, .string (S s.frm.1), .string (S s.frm.2), .slice a s.to.length k, .string (S s.text), .bool s.large], .int .i64 503]) (by simp [results, Try.results20, go_sem, *]) rfl ?_
          rw [HQ.out]
          exact HE.out
    | none =>
      rintro e w3 ⟨rfl, hb3⟩
      have HB3 := hid (HB2.out.trans (hb3.mono HB2.out.size))
      obtain ⟨o3, ho3⟩ : ∃ o3, o3 = behindM wRcpt line := ⟨_, rfl⟩
      have HSH3 := hid (show cmdM s known line = cmd3 s known line o3 by rw [HSH2.out, ho3]; rfl)
      have HC3 := hid (show Calls Try.prog 34 #[.string (S line), .string ⟨#[82, 67, 80, 84, 32, 84, 79, 58]⟩] w3 (BrP w3 o3) from by rw [ho3]; exact behindR_any line [82, 67, 80, 84, 32, 84, 79, 58] w3 (by decide))
      have HBL3 := hid (fun r (h : o3 = some r) => behind_len (ho3.symm.trans h))
      clear hb3 ho3
      go_wp2_with fail
      refine HC3.out.mono ?_
      cases o3 with
      | some t =>
        rintro e w4 ⟨rfl, hb4⟩
        have HB4 := hid (HB3.out.trans (hb4.mono HB3.out.size))
        obtain ⟨ao, hao⟩ : ∃ ao, ao = addrM t := ⟨_, rfl⟩
        have HAN := hid (angledR_any (S t) w4 (by rw [size_S]; have := HBL3.out t rfl; omega))
        rw [list_S, ← hao] at HAN
        have HRM := hid (show cmd3 s known line (some t) = if s.step = 2 ∨ s.step = 3 then rcptTo s known ao else (s, 503) by rw [hao]; rfl)
        obtain ⟨b, hb⟩ : ∃ b, b = decide (s.step ≠ 2 ∧ s.step ≠ 3) := ⟨_, rfl⟩
        have HBB := hid hb
        clear hb4 hao hb
        go_wp2_with fail
        refine HAN.out.mono ?_
        rintro e w5 hAn
        obtain ⟨xa, ya, rfl, hxa, hb5⟩ : ∃ (xa ya : ByteArray), e = .returned (.tuple #[.agg #[.string xa, .string ya], .bool ao.isSome]) ∧ (∀ ad, ao = some ad → xa = S ad.1 ∧ ya = S ad.2) ∧ Below w4.heap.size w4 w5 := by
          cases ao with
          | none => obtain ⟨⟨xa, ya, h⟩, hb⟩ := hAn; exact ⟨xa, ya, h, (fun ad h => by cases h), hb⟩
          | some ad => obtain ⟨h, hb⟩ := hAn; exact ⟨_, _, h, (fun ad' h => by cases h; exact ⟨rfl, rfl⟩), hb⟩
        obtain ⟨W5, hW5⟩ : ∃ W5, W5 = w5.alloc (.cells #[.string xa, .string ya] 23) := ⟨_, rfl⟩
        have HWE5 := hid hW5
        have hB5 : Below w5.heap.size w5 W5 := by rw [hW5]; exact (Below.refl _ _).alloc (Nat.le_refl _) _
        obtain ⟨b12, hb12⟩ : ∃ b, b = w5.heap.size := ⟨_, rfl⟩
        have HE12 := hid hb12
        have HX5 := hid (show W5.heap[b12]? = some (.cells #[.string xa, .string ya] 23) by rw [hW5, hb12]; exact heap_alloc_new _ _)
        have HB5'' := hid (HB4.out.trans ((hb5.trans (hB5.mono hb5.size)).mono HB4.out.size))
        have hs0 : W5.cell? ⟨w.heap.size, 0, none⟩ = some (.int .i64 s.step) := (ses_box (lm_next HB5''.out HX0.out)).1
        have HXA := hid hxa
        clear hb5 hW5 hB5 hb12 hxa hAn
        go_upto_region 19 with fail
        rw [← HWE5.out, ← HE12.out]
        go_cut [70] from 63 to 69 (fun c wx => c = .bool b ∧ wx = W5)
        case first =>
          by_cases h2 : s.step = 2
          · have c1 : (s.step != 2) = false := by simp [h2]
            have HH := hid (show b = false by rw [HBB.out]; simp [h2])
            clear h2
            go_wp2_with fail
            go_meet
            exact ⟨by rw [HH.out], rfl⟩
          · have c1 : (s.step != 2) = true := by simp [h2]
            by_cases h3 : s.step = 3
            · have c2 : (s.step != 3) = false := by simp [h3]
              have HH := hid (show b = false by rw [HBB.out]; simp [h3])
              clear h2 h3
              go_wp2_with fail
              go_meet
              exact ⟨by rw [HH.out], rfl⟩
            · have c2 : (s.step != 3) = true := by simp [h3]
              have HH := hid (show b = true by rw [HBB.out]; simp [h2, h3])
              clear h2 h3
              go_wp2_with fail
              go_meet
              exact ⟨by rw [HH.out], rfl⟩
        case rest =>
          obtain ⟨rfl, hwc⟩ := hcut
          rw [hwc]
          clear hwc wc
          cases b with
          | true =>
            have HQ := hid (show cmdM s known line = (s, 503) from (by rw [HSH3.out, HRM.out, if_neg (by have h := HBB.out; simp at h; omega)]))
            obtain ⟨y0, y1, y2, y3, y4, y5⟩ := ses_box (lm_next HB5''.out HX0.out)
            have hY := lm_next HB5''.out HX1.out
            obtain ⟨f0, f1, f2, f3, f4, f5⟩ := ses_frz hY
            obtain ⟨g0, g1, g2, g3, g4, g5⟩ := ses_box hY
            have HR := hid (six_put' (v0 := .int .i64 s.step) (v1 := .string (S s.frm.1)) (v2 := .string (S s.frm.2)) (v3 := .slice a s.to.length k) (v4 := .string (S s.text)) (v5 := .bool s.large) hY)
            have HE := hid (cm_same (c := 503) HB1.out HB5''.out HA.out)
            unfold outW at HE
            clear hY
            go_wp2
            obtain ⟨r0, r1, r2, r3, r4, r5⟩ := ses_box HR.out
            clear y0 y1 y2 y3 y4 y5 f0 f1 f2 f3 f4 f5 g0 g1 g2 g3 g4 g5
            refine bodyPost_ret (v := .tuple #[.agg #[.int .i64 s.step, .string (S s.frm.1), .string (S s.frm.2), .slice a s.to.length k, .string (S s.text), .bool s.large], .int .i64 503]) (by simp [results, Try.results20, go_sem, *]) rfl ?_
            rw [HQ.out]
            exact HE.out
          | false =>
          have HRN := hid (show cmdM s known line = rcptTo s known ao by rw [HSH3.out, HRM.out, if_pos (by have h := HBB.out; simp at h; omega)])
          cases ao with
          | none =>
            have HQ := hid (show cmdM s known line = (s, 501) from (by rw [HRN.out]; rfl))
            obtain ⟨y0, y1, y2, y3, y4, y5⟩ := ses_box (lm_next HB5''.out HX0.out)
            have hY := lm_next HB5''.out HX1.out
            obtain ⟨f0, f1, f2, f3, f4, f5⟩ := ses_frz hY
            obtain ⟨g0, g1, g2, g3, g4, g5⟩ := ses_box hY
            have HR := hid (six_put' (v0 := .int .i64 s.step) (v1 := .string (S s.frm.1)) (v2 := .string (S s.frm.2)) (v3 := .slice a s.to.length k) (v4 := .string (S s.text)) (v5 := .bool s.large) hY)
            have HE := hid (cm_same (c := 501) HB1.out HB5''.out HA.out)
            unfold outW at HE
            clear hY
            go_wp2
            obtain ⟨r0, r1, r2, r3, r4, r5⟩ := ses_box HR.out
            clear y0 y1 y2 y3 y4 y5 f0 f1 f2 f3 f4 f5 g0 g1 g2 g3 g4 g5
            refine bodyPost_ret (v := .tuple #[.agg #[.int .i64 s.step, .string (S s.frm.1), .string (S s.frm.2), .slice a s.to.length k, .string (S s.text), .bool s.large], .int .i64 501]) (by simp [results, Try.results20, go_sem, *]) rfl ?_
            rw [HQ.out]
            exact HE.out
          | some ad =>
          obtain ⟨rfl, rfl⟩ := HXA.out ad rfl
          obtain ⟨m0, m1⟩ := adr_box HX5.out
          have HKN := hid (knownR_any anyB known ad.1 ka kc W5 (HK.out.imp (fun _ h => h) (Keeps.of_below HB5''.out)))
          obtain ⟨kn, hkn⟩ : ∃ kn, kn = known.contains ad.1 := ⟨_, rfl⟩
          obtain ⟨hv, hhv⟩ : ∃ hv, hv = s.to.contains ad := ⟨_, rfl⟩
          rw [← hkn] at HKN
          have HRT := hid (show cmdM s known line = if kn = false then (s, 550) else if hv = true then (s, 250) else if 5 ≤ s.to.length then (s, 452) else (⟨3, s.frm, s.to ++ [ad], s.text, s.large⟩, 250) by rw [HRN.out, hkn, hhv]; rfl)
          have HAI := hid (addressIn_any _ s.to ad a k W5 ((HA.out.next HB1.out).next HB5''.out))
          rw [← hhv] at HAI
          have hs3 : W5.cell? ⟨w.heap.size, 3, none⟩ = some (.slice a s.to.length k) := (ses_box (lm_next HB5''.out HX0.out)).2.2.2.1
          clear hkn hhv hs0
          go_wp2_with fail
          refine HKN.out.mono ?_
          rintro e w6 ⟨rfl, hw6⟩
          rw [hw6]
          clear hw6 w6
          cases kn with
          | false =>
            clear m0 m1 hs3
            have HQ := hid (show cmdM s known line = (s, 550) from (by rw [HRT.out]; rfl))
            obtain ⟨y0, y1, y2, y3, y4, y5⟩ := ses_box (lm_next HB5''.out HX0.out)
            have hY := lm_next HB5''.out HX1.out
            obtain ⟨f0, f1, f2, f3, f4, f5⟩ := ses_frz hY
            obtain ⟨g0, g1, g2, g3, g4, g5⟩ := ses_box hY
            have HR := hid (six_put' (v0 := .int .i64 s.step) (v1 := .string (S s.frm.1)) (v2 := .string (S s.frm.2)) (v3 := .slice a s.to.length k) (v4 := .string (S s.text)) (v5 := .bool s.large) hY)
            have HE := hid (cm_same (c := 550) HB1.out HB5''.out HA.out)
            unfold outW at HE
            clear hY
            go_wp2
            obtain ⟨r0, r1, r2, r3, r4, r5⟩ := ses_box HR.out
            clear y0 y1 y2 y3 y4 y5 f0 f1 f2 f3 f4 f5 g0 g1 g2 g3 g4 g5
            refine bodyPost_ret (v := .tuple #[.agg #[.int .i64 s.step, .string (S s.frm.1), .string (S s.frm.2), .slice a s.to.length k, .string (S s.text), .bool s.large], .int .i64 550]) (by simp [results, Try.results20, go_sem, *]) rfl ?_
            rw [HQ.out]
            exact HE.out
          | true =>
          go_wp2_with fail
          refine HAI.out.mono ?_
          rintro e w6 ⟨rfl, hb6⟩
          have HB6 := hid (HB5''.out.trans (hb6.mono HB5''.out.size))
          have hs3' := wcell_next hs3 hb6
          obtain ⟨m2, m3⟩ := adr_box (lm_next hb6 HX5.out)
          have HX6 := hid (lm_next hb6 HX5.out)
          clear hb6 m0 m1 hs3
          cases hv with
          | true =>
            clear m2 m3 hs3'
            have HQ := hid (show cmdM s known line = (s, 250) from (by rw [HRT.out]; rfl))
            obtain ⟨y0, y1, y2, y3, y4, y5⟩ := ses_box (lm_next HB6.out HX0.out)
            have hY := lm_next HB6.out HX1.out
            obtain ⟨f0, f1, f2, f3, f4, f5⟩ := ses_frz hY
            obtain ⟨g0, g1, g2, g3, g4, g5⟩ := ses_box hY
            have HR := hid (six_put' (v0 := .int .i64 s.step) (v1 := .string (S s.frm.1)) (v2 := .string (S s.frm.2)) (v3 := .slice a s.to.length k) (v4 := .string (S s.text)) (v5 := .bool s.large) hY)
            have HE := hid (cm_same (c := 250) HB1.out HB6.out HA.out)
            unfold outW at HE
            clear hY
            go_wp2
            obtain ⟨r0, r1, r2, r3, r4, r5⟩ := ses_box HR.out
            clear y0 y1 y2 y3 y4 y5 f0 f1 f2 f3 f4 f5 g0 g1 g2 g3 g4 g5
            refine bodyPost_ret (v := .tuple #[.agg #[.int .i64 s.step, .string (S s.frm.1), .string (S s.frm.2), .slice a s.to.length k, .string (S s.text), .bool s.large], .int .i64 250]) (by simp [results, Try.results20, go_sem, *]) rfl ?_
            rw [HQ.out]
            exact HE.out
          | false =>
          by_cases h5 : 5 ≤ s.to.length
          · have c5 : (5 : Int) ≤ (s.to.length : Int) := by omega
            clear m2 m3 hs3'
            have HQ := hid (show cmdM s known line = (s, 452) from (by rw [HRT.out]; simp only [Bool.true_eq_false, Bool.false_eq_true, if_false]; rw [if_pos h5]))
            obtain ⟨y0, y1, y2, y3, y4, y5⟩ := ses_box (lm_next HB6.out HX0.out)
            have hY := lm_next HB6.out HX1.out
            obtain ⟨f0, f1, f2, f3, f4, f5⟩ := ses_frz hY
            obtain ⟨g0, g1, g2, g3, g4, g5⟩ := ses_box hY
            have HR := hid (six_put' (v0 := .int .i64 s.step) (v1 := .string (S s.frm.1)) (v2 := .string (S s.frm.2)) (v3 := .slice a s.to.length k) (v4 := .string (S s.text)) (v5 := .bool s.large) hY)
            have HE := hid (cm_same (c := 452) HB1.out HB6.out HA.out)
            unfold outW at HE
            clear hY
            go_wp2
            obtain ⟨r0, r1, r2, r3, r4, r5⟩ := ses_box HR.out
            clear y0 y1 y2 y3 y4 y5 f0 f1 f2 f3 f4 f5 g0 g1 g2 g3 g4 g5
            refine bodyPost_ret (v := .tuple #[.agg #[.int .i64 s.step, .string (S s.frm.1), .string (S s.frm.2), .slice a s.to.length k, .string (S s.text), .bool s.large], .int .i64 452]) (by simp [results, Try.results20, go_sem, *]) rfl ?_
            rw [HQ.out]
            exact HE.out
          have c5 : ¬ (5 : Int) ≤ (s.to.length : Int) := by omega
          have hlen5 : s.to.length < 5 := by omega
          have HTX := hid (show s.text = [] ∧ s.large = false by
            obtain ⟨_, _, _, _, pt⟩ := mayS_parts.1 HM.out
            unfold textS at pt
            have h := HBB.out
            simp at h
            rw [if_neg (by omega)] at pt
            simpa using pt)
          have HQ := hid (show cmdM s known line = ((⟨3, s.frm, s.to ++ [ad], [], false⟩ : Ses), 250) by rw [HRT.out]; simp only [Bool.true_eq_false, Bool.false_eq_true, if_false]; rw [if_neg (by omega), HTX.out.1, HTX.out.2])
          obtain ⟨i0, hi', hz0, hz1, hz2⟩ := info_parts infoAdr
          obtain ⟨b14, hb14⟩ : ∃ b, b = w6.heap.size := ⟨_, rfl⟩
          have HE14 := hid hb14
          obtain ⟨W7, hW7⟩ : ∃ W7, W7 = w6.alloc (.cells #[.int .i64 3, .string (S s.frm.1), .string (S s.frm.2), .slice none 0 0, .string ⟨#[]⟩, .bool false] 26) := ⟨_, rfl⟩
          have HWE7 := hid hW7
          have HX7 := hid (show W7.heap[b14]? = some (.cells #[.int .i64 3, .string (S s.frm.1), .string (S s.frm.2), .slice none 0 0, .string ⟨#[]⟩, .bool false] 26) by rw [hW7, hb14]; exact heap_alloc_new _ _)
          have HB7 := hid (show Below b14 w6 W7 by rw [hW7, hb14]; exact (Below.refl _ _).alloc (Nat.le_refl _) _)
          have HN1 := hid (show w.heap.size + 1 < b14 by rw [hb14]; have h := HB6.out.size; rw [HZ.out] at h; omega)
          obtain ⟨y0, y1, y2, y3, y4, y5⟩ := ses_box (lm_next HB6.out HX0.out)
          clear hb14 hW7 hs3'
          go_upto_region 30 with fail
          rw [← HWE7.out, ← HE14.out]
          clear y0 y1 y2 y3 y4 y5 m2 m3
          go_wp2
          go_loopw [15] (fun q wr => ∃ (i : Nat) (v : Value), i ≤ s.to.length ∧ q = .int .i64 i ∧ Hid (wr.heap[b14]? = some (.cells #[.int .i64 3, .string (S s.frm.1), .string (S s.frm.2), v, .string ⟨#[]⟩, .bool false] 26)) ∧ Hid (OwnL wr (b14 + 1) v (s.to.take i)) ∧ Hid (Below b14 w6 wr)) (fun q _ => s.to.length - (intOf q).toNat)
          case atStart => exact ⟨0, _, Nat.zero_le _, rfl, HX7, OwnL.nil _ _, HB7⟩
          case round =>
            obtain ⟨i, v, hi, rfl, HXR, HOR, HBR⟩ := hrel
            have HBR' := hid (show Below w6.heap.size w6 wr by have h := HBR.out; rw [HE14.out] at h; exact h)
            have HB8 := hid (show Below W1.heap.size W1 wr from HB6.out.trans (HBR'.out.mono HB6.out.size))
            have q3 : wr.cell? ⟨w.heap.size, 3, none⟩ = some (.slice a s.to.length k) := (ses_box (lm_next HB8.out HX0.out)).2.2.2.1
            have HLL := hid (show (s.to.take i).length = i by rw [List.length_take]; omega)
            obtain ⟨al, cl, rfl⟩ : ∃ al cl, v = .slice al i cl := by obtain ⟨al, cl, h⟩ := HOR.out.slice; exact ⟨al, cl, by rw [h, HLL.out]⟩
            have y3 : wr.cell? ⟨b14, 3, none⟩ = some (.slice al i cl) := (ses_box HXR.out).2.2.2.1
            have HNE := hid (cp_ne HOR.out)
            have HLT := hid (Array.getElem?_eq_some_iff.1 HXR.out).1
            have HT3 := hid (show wr.ownsRow (b14 + 1) 23 2 (.slice al i cl) i (cellsL (s.to.take i)) by have h := HOR.out; unfold OwnL at h; rw [HLL.out] at h; exact h)
            by_cases hlt : i < s.to.length
            · have i1 : (i : Int) < (s.to.length : Int) := by omega
              have i0' : (0 : Int) ≤ (i : Int) := by omega
              obtain ⟨x, hx⟩ : ∃ x, s.to[i]? = some x := ⟨_, List.getElem?_eq_getElem hlt⟩
              obtain ⟨p, o, rfl, _, _, e0, e1⟩ := adr_get ((HA.out.next HB1.out).next HB8.out) hx
              have HLG := hid (take_some hx)
              have y3a : ∀ o : Obj, (wr.alloc o).cell? ⟨b14, 3, none⟩ = some (.slice al i cl) := fun o => wcell_more y3 o
              clear hx
              go_wp2
              go_region_law
                (first
                  | (refine step_append_lies _ (by rfl) _ _ _ (by rfl) (b14 + 1) 23 i0 _ 2 32 Try.underlying24 hi' hz0 hz1 hz2 rfl (by omega) (.slice al i cl) i (cellsL (s.to.take i)) (by rfl) (by first | exact World.ownsRow.alloc (show World.ownsRow wr.drew _ _ _ _ _ _ from HT3.out) _ | exact (World.ownsRow.alloc HT3.out _).drew)
                       ⟨wr.heap.size, 0, none⟩ 1 1 [.string (S x.1), .string (S x.2)] (by rfl) (by rfl) (by first | exact two_new wr.drew _ _ _ _ rfl | exact two_new wr _ _ _ _ rfl) (by simp [Value.oneCell']) (by omega) (by unfold maxLen; omega) (by omega) (by have := HLT.out; simp; omega) _ rfl ?_
                     intro gm cap w5 hown5 hgrow hat hlt5
                     have z3 := hgrow.cell (a := ⟨b14, 3, none⟩) (wcell_more (w := wr.drew) y3 _) HNE.out
                     have HWA := hid (show Below wr.heap.size wr (wr.drew.alloc (.cells #[.string (S x.1), .string (S x.2)] 23)) from (Below.refl _ wr).drew.alloc (Nat.le_refl _) _)
                     have hb5 := (hgrow.block b14 (Nat.lt_of_lt_of_le HLT.out HWA.out.size) HNE.out).trans (lm_next HWA.out HXR.out)
                     have zf3 := lm_frz hb5 3
                     have HEN := hid (cp_end HLL.out HXR.out HOR.out HBR.out HWA.out hgrow hown5)
                     clear hown5 hgrow hat hb5)
                  | fail)
              all_goals
                have HF1 := hid HEN.out.1
                have HF2 := hid (show OwnL _ (b14 + 1) _ (s.to.take (i + 1)) by rw [HLG.out]; exact HEN.out.2.1)
                have HF3 := hid HEN.out.2.2
                clear HEN
                go_wp2
                go_roundw
                case rel => first | exact ⟨i + 1, _, by omega, by go_num, HF1, HF2, HF3⟩ | ((repeat apply Exists.intro); exact ⟨⟨i + 1, _, by omega, by go_num, HF1, HF2, HF3⟩, rfl⟩) | (refine ⟨trivial, ?_⟩; (repeat apply Exists.intro); exact ⟨⟨i + 1, _, by omega, by go_num, HF1, HF2, HF3⟩, rfl⟩)
                case measure => simp [intOf]; omega
            · have i1 : ¬ (i : Int) < (s.to.length : Int) := by omega
              obtain rfl : i = s.to.length := by omega
              have HLE := hid (show s.to.take s.to.length = s.to from List.take_of_length_le (Nat.le_refl _))
              rw [HLE.out] at HOR HT3
              obtain ⟨n0, n1⟩ := adr_box (lm_next HBR'.out HX6.out)
              have zf3 := (ses_frz HXR.out).2.2.2.1
              clear hlt HLL HLE
              go_wp2_with (first | (at_builtin; refine wpList_append_lies _ rfl _ _ 24 rfl (b14 + 1) 23 i0 _ 2 32 Try.underlying24 hi' hz0 hz1 hz2 rfl (by decide) (.slice al s.to.length cl) s.to.length (cellsL s.to) rfl ?k0 ⟨wr.heap.size, 0, none⟩ 1 1 [.string (S ad.1), .string (S ad.2)] rfl rfl (two_new wr _ _ _ _ rfl) ?k2 (by decide) ?k3 ?k4 ?k5 _ rfl ?_) | fail)
              case k0 => exact World.ownsRow.alloc HT3.out _
              case k2 => simp [Value.oneCell']
              case k3 => unfold maxLen; omega
              case k4 => omega
              case k5 => have := HLT.out; simp; omega
              intro g cap w9 hown hgrow hat hlt9
              have HWA := hid (show Below wr.heap.size wr (wr.alloc (.cells #[.string (S ad.1), .string (S ad.2)] 23)) from (Below.refl _ wr).alloc (Nat.le_refl _) _)
              have hb9 := (hgrow.block b14 (Nat.lt_of_lt_of_le HLT.out HWA.out.size) HNE.out).trans (lm_next HWA.out HXR.out)
              have zg3 := lm_frz hb9 3
              have z3 := (ses_box hb9).2.2.2.1
              have HEN := hid (cp_end rfl HXR.out HOR.out HBR.out HWA.out hgrow hown)
              obtain ⟨U, hU⟩ : ∃ U, U = w9.setCell ⟨b14, 3, none⟩ (.slice (some ⟨g, 0, none⟩) (s.to.length + 1) cap) := ⟨_, rfl⟩
              have HUE := hid hU
              rw [← hU] at HEN
              have HBU := hid (show Below w6.heap.size w6 U by have h := HEN.out.2.2; rw [HE14.out] at h; exact h)
              have HBV := hid (show Below W1.heap.size W1 U from HB6.out.trans (HBU.out.mono HB6.out.size))
              have HBW := hid (show Below w.heap.size w U from HB1.out.trans (HBV.out.mono HB1.out.size))
              have HU0 := hid HEN.out.1
              have hY := lm_next HBV.out HX1.out
              have HR := hid (six_put' (v0 := .int .i64 3) (v1 := .string (S s.frm.1)) (v2 := .string (S s.frm.2)) (v3 := .slice (some ⟨g, 0, none⟩) (s.to.length + 1) cap) (v4 := .string ⟨#[]⟩) (v5 := .bool false) hY)
              have HE := hid (cm_own (Q := Q) (r := ⟨3, s.frm, s.to ++ [ad], [], false⟩) (c := 250) HBW.out HEN.out.2.1 (Nat.lt_succ_of_lt HN1.out) (by simp; omega) HQQ.out)
              unfold outW at HE
              have HY := hid hY
              clear hY hU hown hgrow hat hb9 n0 n1 y3 q3 HEN zf3
              go_upto_region 35 with fail
              rw [← HUE.out]
              clear zg3 z3
              obtain ⟨y0, y1, y2, y3, y4, y5⟩ := ses_box HU0.out
              obtain ⟨f0, f1, f2, f3, f4, f5⟩ := ses_frz HY.out
              obtain ⟨g0, g1, g2, g3, g4, g5⟩ := ses_box HY.out
              go_wp2
              obtain ⟨r0, r1, r2, r3, r4, r5⟩ := ses_box HR.out
              clear y0 y1 y2 y3 y4 y5 f0 f1 f2 f3 f4 f5 g0 g1 g2 g3 g4 g5
              refine bodyPost_ret (v := .tuple #[.agg #[.int .i64 3, .string (S s.frm.1), .string (S s.frm.2), .slice (some ⟨g, 0, none⟩) (s.to.length + 1) cap, .string ⟨#[]⟩, .bool false], .int .i64 250]) (by simp [results, Try.results20, go_sem, *]) rfl ?_
              rw [HQ.out]
              exact HE.out
      | none =>
        rintro e w4 ⟨rfl, hb4⟩
        have HB4 := hid (HB3.out.trans (hb4.mono HB3.out.size))
        have HSH4 := hid (show cmdM s known line = wordM s line by rw [HSH3.out]; rfl)
        obtain ⟨lw, hlw⟩ : ∃ lw, lw = lowL line := ⟨_, rfl⟩
        have HLW := hid (fun u => show Calls Try.prog 37 #[.string (S line)] u fun e w' => e = .returned (.string (S lw)) ∧ Below u.heap.size u w' from by
          have h := lower_any (S line) u (by rw [size_S]; omega)
          rwa [low_S, ← hlw] at h)
        have HWM := hid (show wordM s line = if lw = wData then dataM s else if lw = wRset then (rsetM s, 250) else if lw = wNoop then (s, 250) else if lw = wQuit then (atS 5, 221) else (s, 500) by rw [hlw]; rfl)
        clear hb4 hlw
        go_wp2_with fail
        refine (HLW.out w4).mono ?_
        rintro e w5 ⟨rfl, hb5⟩
        have HB5' := hid (HB4.out.trans (hb5.mono HB4.out.size))
        have hs0 : w5.cell? ⟨w.heap.size, 0, none⟩ = some (.int .i64 s.step) := (ses_box (lm_next HB5'.out HX0.out)).1
        clear hb5
        by_cases q1 : lw = wData
        · have d1 : ((S lw).toList == [100, 97, 116, 97]) = true := by rw [lm_lit, q1]; rfl
          rw [if_pos q1] at HWM
          clear q1
          by_cases h1 : s.step = 3
          · have c1 : (s.step != 3) = false := by simp [h1]
            have H1 := hid h1
            clear h1
            have HQ := hid (show cmdM s known line = ((⟨4, s.frm, s.to, s.text, s.large⟩ : Ses), 354) by rw [HSH4.out, HWM.out]; unfold dataM; rw [if_pos H1.out])
            have hY0 := lm_next HB5'.out HX0.out
            have hY0' := lm_put (j := 0) (u := .int .i64 4) hY0
            simp only [List.setIfInBounds_toArray, List.set_cons_zero] at hY0'
            obtain ⟨U, hU⟩ : ∃ U, U = w5.setCell ⟨w.heap.size, 0, none⟩ (.int .i64 4) := ⟨_, rfl⟩
            have HUE := hid hU
            rw [← hU] at hY0'
            obtain ⟨n0, n1, n2, n3, n4, n5⟩ := ses_box hY0
            obtain ⟨k0', _, _, _, _, _⟩ := ses_frz hY0
            have hY1 : U.heap[w.heap.size + 1]? = some (.cells #[.int .i64 0, .string ⟨#[]⟩, .string ⟨#[]⟩, .slice none 0 0, .string ⟨#[]⟩, .bool false] 26) := by rw [hU]; exact (Below.heap_setCell _ _ _ _ (show w.heap.size + 1 ≠ w.heap.size by omega)).trans (lm_next HB5'.out HX1.out)
            have HBU := hid (show Below w.heap.size w U by rw [hU]; exact (HB1.out.trans (HB5'.out.mono HB1.out.size)).setCell (p := ⟨w.heap.size, 0, none⟩) (Nat.le_refl _) _)
            obtain ⟨y0, y1, y2, y3, y4, y5⟩ := ses_box hY0'
            obtain ⟨f0, f1, f2, f3, f4, f5⟩ := ses_frz hY1
            obtain ⟨g0, g1, g2, g3, g4, g5⟩ := ses_box hY1
            have HR := hid (six_put' (v0 := .int .i64 4) (v1 := .string (S s.frm.1)) (v2 := .string (S s.frm.2)) (v3 := .slice a s.to.length k) (v4 := .string (S s.text)) (v5 := .bool s.large) hY1)
            have HE := hid (cm_any (r := ⟨4, s.frm, s.to, s.text, s.large⟩) (c := 354) HBU.out HA.out)
            unfold outW at HE
            clear hY0 hY0' hY1 hU hs0
            go_upto_region 40 with fail
            rw [← HUE.out]
            clear n0 n1 n2 n3 n4 n5 k0'
            go_wp2
            obtain ⟨r0, r1, r2, r3, r4, r5⟩ := ses_box HR.out
            clear y0 y1 y2 y3 y4 y5 f0 f1 f2 f3 f4 f5 g0 g1 g2 g3 g4 g5
            refine bodyPost_ret (v := .tuple #[.agg #[.int .i64 4, .string (S s.frm.1), .string (S s.frm.2), .slice a s.to.length k, .string (S s.text), .bool s.large], .int .i64 354]) (by simp [results, Try.results20, go_sem, *]) rfl ?_
            rw [HQ.out]
            exact HE.out
          · have c1 : (s.step != 3) = true := by simp [h1]
            have H1 := hid h1
            clear h1
            have HQ := hid (show cmdM s known line = (s, 503) from (by rw [HSH4.out, HWM.out]; unfold dataM; rw [if_neg H1.out]))
            obtain ⟨y0, y1, y2, y3, y4, y5⟩ := ses_box (lm_next HB5'.out HX0.out)
            have hY := lm_next HB5'.out HX1.out
            obtain ⟨f0, f1, f2, f3, f4, f5⟩ := ses_frz hY
            obtain ⟨g0, g1, g2, g3, g4, g5⟩ := ses_box hY
            have HR := hid (six_put' (v0 := .int .i64 s.step) (v1 := .string (S s.frm.1)) (v2 := .string (S s.frm.2)) (v3 := .slice a s.to.length k) (v4 := .string (S s.text)) (v5 := .bool s.large) hY)
            have HE := hid (cm_same (c := 503) HB1.out HB5'.out HA.out)
            unfold outW at HE
            clear hY
            go_wp2
            obtain ⟨r0, r1, r2, r3, r4, r5⟩ := ses_box HR.out
            clear y0 y1 y2 y3 y4 y5 f0 f1 f2 f3 f4 f5 g0 g1 g2 g3 g4 g5
            refine bodyPost_ret (v := .tuple #[.agg #[.int .i64 s.step, .string (S s.frm.1), .string (S s.frm.2), .slice a s.to.length k, .string (S s.text), .bool s.large], .int .i64 503]) (by simp [results, Try.results20, go_sem, *]) rfl ?_
            rw [HQ.out]
            exact HE.out
        have d1 : ((S lw).toList == [100, 97, 116, 97]) = false := by rw [lm_lit]; exact decide_eq_false q1
        rw [if_neg q1] at HWM
        clear q1 hs0
        go_wp2_with fail
        refine (HLW.out w5).mono ?_
        rintro e w6 ⟨rfl, hb6⟩
        have HB6 := hid (HB5'.out.trans (hb6.mono HB5'.out.size))
        have hs0 : w6.cell? ⟨w.heap.size, 0, none⟩ = some (.int .i64 s.step) := (ses_box (lm_next HB6.out HX0.out)).1
        clear hb6 d1
        by_cases q1 : lw = wRset
        · have d1 : ((S lw).toList == [114, 115, 101, 116]) = true := by rw [lm_lit, q1]; rfl
          rw [if_pos q1] at HWM
          clear q1
          by_cases h1 : s.step = 0
          · have c1 : (s.step == 0) = true := by simp [h1]
            have H1 := hid h1
            clear h1
            have HQ := hid (show cmdM s known line = (s, 250) from (by rw [HSH4.out, HWM.out]; unfold rsetM; rw [if_pos H1.out]))
            obtain ⟨y0, y1, y2, y3, y4, y5⟩ := ses_box (lm_next HB6.out HX0.out)
            have hY := lm_next HB6.out HX1.out
            obtain ⟨f0, f1, f2, f3, f4, f5⟩ := ses_frz hY
            obtain ⟨g0, g1, g2, g3, g4, g5⟩ := ses_box hY
            have HR := hid (six_put' (v0 := .int .i64 s.step) (v1 := .string (S s.frm.1)) (v2 := .string (S s.frm.2)) (v3 := .slice a s.to.length k) (v4 := .string (S s.text)) (v5 := .bool s.large) hY)
            have HE := hid (cm_same (c := 250) HB1.out HB6.out HA.out)
            unfold outW at HE
            clear hY
            go_wp2
            obtain ⟨r0, r1, r2, r3, r4, r5⟩ := ses_box HR.out
            clear y0 y1 y2 y3 y4 y5 f0 f1 f2 f3 f4 f5 g0 g1 g2 g3 g4 g5
            refine bodyPost_ret (v := .tuple #[.agg #[.int .i64 s.step, .string (S s.frm.1), .string (S s.frm.2), .slice a s.to.length k, .string (S s.text), .bool s.large], .int .i64 250]) (by simp [results, Try.results20, go_sem, *]) rfl ?_
            rw [HQ.out]
            exact HE.out
          · have c1 : (s.step == 0) = false := by simp [h1]
            have H1 := hid h1
            clear h1
            have HQ := hid (show cmdM s known line = ((⟨1, ([], []), [], [], false⟩ : Ses), 250) from (by rw [HSH4.out, HWM.out]; unfold rsetM; rw [if_neg H1.out]; rfl))
            have hY := lm_next HB6.out HX1.out
            obtain ⟨f0, f1, f2, f3, f4, f5⟩ := ses_frz hY
            obtain ⟨g0, g1, g2, g3, g4, g5⟩ := ses_box hY
            have HR := hid (six_put' (v0 := .int .i64 1) (v1 := .string ⟨#[]⟩) (v2 := .string ⟨#[]⟩) (v3 := .slice none 0 0) (v4 := .string ⟨#[]⟩) (v5 := .bool false) hY)
            have HE := hid (cm_new (Q := Q) (r := ⟨1, ([], []), [], [], false⟩) (c := 250) HB1.out HB6.out rfl)
            unfold outW at HE
            clear hY
            go_wp2
            obtain ⟨r0, r1, r2, r3, r4, r5⟩ := ses_box HR.out
            clear f0 f1 f2 f3 f4 f5 g0 g1 g2 g3 g4 g5
            refine bodyPost_ret (v := .tuple #[.agg #[.int .i64 1, .string ⟨#[]⟩, .string ⟨#[]⟩, .slice none 0 0, .string ⟨#[]⟩, .bool false], .int .i64 250]) (by simp [results, Try.results20, go_sem, *]) rfl ?_
            rw [HQ.out]
            exact HE.out
        have d1 : ((S lw).toList == [114, 115, 101, 116]) = false := by rw [lm_lit]; exact decide_eq_false q1
        rw [if_neg q1] at HWM
        clear q1 hs0
        go_wp2_with fail
        refine (HLW.out w6).mono ?_
        rintro e w7 ⟨rfl, hb7⟩
        have HB7 := hid (HB6.out.trans (hb7.mono HB6.out.size))
        clear hb7 d1
        by_cases q1 : lw = wNoop
        · have d1 : ((S lw).toList == [110, 111, 111, 112]) = true := by rw [lm_lit, q1]; rfl
          rw [if_pos q1] at HWM
          clear q1
          have HQ := hid (show cmdM s known line = (s, 250) from (by rw [HSH4.out, HWM.out]))
          obtain ⟨y0, y1, y2, y3, y4, y5⟩ := ses_box (lm_next HB7.out HX0.out)
          have hY := lm_next HB7.out HX1.out
          obtain ⟨f0, f1, f2, f3, f4, f5⟩ := ses_frz hY
          obtain ⟨g0, g1, g2, g3, g4, g5⟩ := ses_box hY
          have HR := hid (six_put' (v0 := .int .i64 s.step) (v1 := .string (S s.frm.1)) (v2 := .string (S s.frm.2)) (v3 := .slice a s.to.length k) (v4 := .string (S s.text)) (v5 := .bool s.large) hY)
          have HE := hid (cm_same (c := 250) HB1.out HB7.out HA.out)
          unfold outW at HE
          clear hY
          go_wp2
          obtain ⟨r0, r1, r2, r3, r4, r5⟩ := ses_box HR.out
          clear y0 y1 y2 y3 y4 y5 f0 f1 f2 f3 f4 f5 g0 g1 g2 g3 g4 g5
          refine bodyPost_ret (v := .tuple #[.agg #[.int .i64 s.step, .string (S s.frm.1), .string (S s.frm.2), .slice a s.to.length k, .string (S s.text), .bool s.large], .int .i64 250]) (by simp [results, Try.results20, go_sem, *]) rfl ?_
          rw [HQ.out]
          exact HE.out
        have d1 : ((S lw).toList == [110, 111, 111, 112]) = false := by rw [lm_lit]; exact decide_eq_false q1
        rw [if_neg q1] at HWM
        clear q1
        go_wp2_with fail
        refine (HLW.out w7).mono ?_
        rintro e w8 ⟨rfl, hb8⟩
        have HB8 := hid (HB7.out.trans (hb8.mono HB7.out.size))
        clear hb8 d1
        by_cases q1 : lw = wQuit
        · have d1 : ((S lw).toList == [113, 117, 105, 116]) = true := by rw [lm_lit, q1]; rfl
          rw [if_pos q1] at HWM
          clear q1
          have HQ := hid (show cmdM s known line = ((⟨5, ([], []), [], [], false⟩ : Ses), 221) from (by rw [HSH4.out, HWM.out]; rfl))
          have hY := lm_next HB8.out HX1.out
          obtain ⟨f0, f1, f2, f3, f4, f5⟩ := ses_frz hY
          obtain ⟨g0, g1, g2, g3, g4, g5⟩ := ses_box hY
          have HR := hid (six_put' (v0 := .int .i64 5) (v1 := .string ⟨#[]⟩) (v2 := .string ⟨#[]⟩) (v3 := .slice none 0 0) (v4 := .string ⟨#[]⟩) (v5 := .bool false) hY)
          have HE := hid (cm_new (Q := Q) (r := ⟨5, ([], []), [], [], false⟩) (c := 221) HB1.out HB8.out rfl)
          unfold outW at HE
          clear hY
          go_wp2
          obtain ⟨r0, r1, r2, r3, r4, r5⟩ := ses_box HR.out
          clear f0 f1 f2 f3 f4 f5 g0 g1 g2 g3 g4 g5
          refine bodyPost_ret (v := .tuple #[.agg #[.int .i64 5, .string ⟨#[]⟩, .string ⟨#[]⟩, .slice none 0 0, .string ⟨#[]⟩, .bool false], .int .i64 221]) (by simp [results, Try.results20, go_sem, *]) rfl ?_
          rw [HQ.out]
          exact HE.out
        have d1 : ((S lw).toList == [113, 117, 105, 116]) = false := by rw [lm_lit]; exact decide_eq_false q1
        rw [if_neg q1] at HWM
        clear q1
        have HQ := hid (show cmdM s known line = (s, 500) from (by rw [HSH4.out, HWM.out]))
        obtain ⟨y0, y1, y2, y3, y4, y5⟩ := ses_box (lm_next HB8.out HX0.out)
        have hY := lm_next HB8.out HX1.out
        obtain ⟨f0, f1, f2, f3, f4, f5⟩ := ses_frz hY
        obtain ⟨g0, g1, g2, g3, g4, g5⟩ := ses_box hY
        have HR := hid (six_put' (v0 := .int .i64 s.step) (v1 := .string (S s.frm.1)) (v2 := .string (S s.frm.2)) (v3 := .slice a s.to.length k) (v4 := .string (S s.text)) (v5 := .bool s.large) hY)
        have HE := hid (cm_same (c := 500) HB1.out HB8.out HA.out)
        unfold outW at HE
        clear hY
        go_wp2
        obtain ⟨r0, r1, r2, r3, r4, r5⟩ := ses_box HR.out
        clear y0 y1 y2 y3 y4 y5 f0 f1 f2 f3 f4 f5 g0 g1 g2 g3 g4 g5
        refine bodyPost_ret (v := .tuple #[.agg #[.int .i64 s.step, .string (S s.frm.1), .string (S s.frm.2), .slice a s.to.length k, .string (S s.text), .bool s.large], .int .i64 500]) (by simp [results, Try.results20, go_sem, *]) rfl ?_
        rw [HQ.out]
        exact HE.out
end Go.Proofs.Ytkdmccgfehmoaaa
