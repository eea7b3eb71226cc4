/-
  The reference's Lined (P12.4): the walk.
-/
import Derived.Test.YtkdmccgfehmoaaaRefCmB
namespace Go.Proofs.Ytkdmccgfehmoaaa
open Go.RowKit Go.Proofs

theorem S_app4 (a b : List UInt8) : S a ++ S b ++ ⟨#[13, 10]⟩ = S (a ++ b ++ [13, 10]) := by
  have h : ∀ x y : List UInt8, S x ++ S y = S (x ++ y) := fun x y => by
    apply ByteArray.ext
    rw [ByteArray.data_append]
    simp [S]
  rw [show (⟨#[13, 10]⟩ : ByteArray) = S [13, 10] from rfl, h, h]
theorem may_text {s : Ses} (h : mayS s = true) : s.text.length ≤ 2000 := by
  have pt := (mayS_parts.1 h).2.2.2.2
  unfold textS at pt
  split at pt
  · simpa using pt
  · simp only [Bool.and_eq_true, List.isEmpty_iff] at pt
    rw [pt.1]; simp
theorem undot_le (l : List UInt8) : (undot l).length ≤ l.length := by
  cases l with
  | nil => simp [undot]
  | cons c t => simp only [undot]; split <;> simp
theorem u8_not {c : UInt8} (h : ¬ c = 46) : ((c.toNat : Int) == 46) = false := by
  rw [beq_eq_false_iff_ne]
  intro e
  have e2 : c.toNat = 46 := by omega
  exact h (UInt8.toNat_inj.1 (by rw [e2]; rfl))
set_option maxHeartbeats 4000000 in
set_option maxRecDepth 100000 in
theorem lined_any (hcm : CmdOk) (s : Ses) (a : Option Addr) (k : Nat) (known : List (List UInt8)) (ka : Option Addr) (kc : Nat) (line : List UInt8) (w : World) (hf : Fit s) (hr : Roomy (.slice a s.to.length k)) (ha : AdrsM anyB w (.slice a s.to.length k) s.to) (hk : TxtsM anyB w (.slice ka known.length kc) known) (hl : line.length ≤ 140737488355328) :
    Calls Try.prog 10 #[.agg #[.int .i64 s.step, .string (S s.frm.1), .string (S s.frm.2), .slice a s.to.length k, .string (S s.text), .bool s.large], .slice ka known.length kc, .string (S line)] w (LdP w s known line) := by
  obtain ⟨i0, hi', hz0, hz1, hz2⟩ := info_parts infoAdr
  obtain ⟨j0, hj', hq0, hq1, hq2⟩ := info_parts infoLt
  obtain ⟨W1, hW1⟩ : ∃ W1, W1 = (w.alloc (.cells #[.int .i64 s.step, .string (S s.frm.1), .string (S s.frm.2), .slice a s.to.length k, .string (S s.text), .bool s.large] 26)).alloc (.cells #[.int .i64 0, .string ⟨#[]⟩, .string ⟨#[]⟩, .slice none 0 0, .string ⟨#[]⟩, .bool false] 26) := ⟨_, rfl⟩
  have HWE := hid hW1
  have HB1 := hid (show Below w.heap.size w W1 by rw [hW1]; exact ((Below.refl _ _).alloc (Nat.le_refl _) _).alloc (by simp) _)
  have HX0 := hid (show W1.heap[w.heap.size]? = some (.cells #[.int .i64 s.step, .string (S s.frm.1), .string (S s.frm.2), .slice a s.to.length k, .string (S s.text), .bool s.large] 26) by rw [hW1]; exact lm_up0 _ _)
  have HX1 := hid (show W1.heap[w.heap.size + 1]? = some (.cells #[.int .i64 0, .string ⟨#[]⟩, .string ⟨#[]⟩, .slice none 0 0, .string ⟨#[]⟩, .bool false] 26) by rw [hW1]; exact lm_at1 _ _)
  have HZ := hid (show W1.heap.size = w.heap.size + 2 by rw [hW1]; simp)
  have HA := hid ha
  have HK := hid hk
  have HCK := hid hcm
  have HLL := hid hl
  have HSF := hid (sesFault_any anyB s (.slice a s.to.length k) W1 hf hr (ha.next HB1.out))
  unfold sesV at HSF
  obtain ⟨x0, x1, x2, x3, x4, x5⟩ := ses_box HX0.out
  clear hW1 ha hk hf hr hcm hl
  by_cases hm : mayS s = true
  case neg =>
    rw [if_neg hm] at HSF
    have HM := hid hm
    clear hm
    go_enter Try.func10, Try.ntmps10
    go_upto_region 1 with fail
    rw [← HWE.out]
    go_wp2_with fail
    refine HSF.out.mono ?_
    rintro e w2 ⟨rfl, hb2⟩
    have HB2 := hid hb2
    have HBW := hid (show Below w.heap.size w w2 from HB1.out.trans (HB2.out.mono HB1.out.size))
    clear hb2 x0 x1 x2 x3 x4 x5
    have hY := lm_next HB2.out HX1.out
    obtain ⟨f0, f1, f2, f3, f4, f5⟩ := ses_frz hY
    obtain ⟨g0, g1, g2, g3, g4, g5⟩ := ses_box hY
    have HR := hid (six_put' (v0 := .int .i64 0) (v1 := .string ⟨#[]⟩) (v2 := .string ⟨#[]⟩) (v3 := .slice none 0 0) (v4 := .string ⟨#[]⟩) (v5 := .bool false) hY)
    have HE := hid (show LdP w s known line (.returned (.tuple #[.agg #[.int .i64 0, .string ⟨#[]⟩, .string ⟨#[]⟩, .slice none 0 0, .string ⟨#[]⟩, .bool false], .int .i64 0, .slice none 0 0, .int .i64 11])) (outW w2 (w.heap.size + 1) (atS 0) (.slice none 0 0)) from ld_bad HM.out HBW.out)
    unfold outW at HE
    clear hY
    go_wp2
    obtain ⟨r0, r1, r2, r3, r4, r5⟩ := ses_box HR.out
    clear f0 f1 f2 f3 f4 f5 g0 g1 g2 g3 g4 g5
    refine bodyPost_ret (v := .tuple #[.agg #[.int .i64 0, .string ⟨#[]⟩, .string ⟨#[]⟩, .slice none 0 0, .string ⟨#[]⟩, .bool false], .int .i64 0, .slice none 0 0, .int .i64 11]) (by simp [results, Try.results10, go_sem, *]) rfl ?_
    exact HE.out
  rw [if_pos hm] at HSF
  have HM := hid hm
  have hlen5 : s.to.length ≤ 5 := may_to hm
  have HT5 := hid hlen5
  have HT6 := hid (may_text hm)
  clear hm
  go_enter Try.func10, Try.ntmps10
  go_upto_region 1 with fail
  rw [← HWE.out]
  go_wp2_with fail
  refine HSF.out.mono ?_
  rintro e w2 ⟨rfl, hb2⟩
  have HB2 := hid hb2
  have HSZ := hid (show w.heap.size + 1 < w2.heap.size by have h := HB2.out.size; rw [HZ.out] at h; omega)
  clear hb2 x0 x1 x2 x3 x4 x5
  go_wp2
  go_loopw [11, 12] (fun p q wr => ∃ (i : Nat) (al : Option Addr) (cl : Nat), i ≤ s.to.length ∧ p = .slice al i cl ∧ q = .int .i64 i ∧ Hid (OwnL wr w2.heap.size (.slice al i cl) (s.to.take i)) ∧ Hid (Below w2.heap.size w2 wr)) (fun _ q _ => s.to.length - (intOf q).toNat)
  case atStart => exact ⟨0, none, 0, Nat.zero_le _, rfl, rfl, OwnL.nil _ _, Below.refl _ _⟩
  case round =>
    obtain ⟨i, al, cl, hi, rfl, rfl, HOR, HBR⟩ := hrel
    have HB8 := hid (show Below W1.heap.size W1 wr from HB2.out.trans (HBR.out.mono HB2.out.size))
    have q3 : wr.cell? ⟨w.heap.size, 3, none⟩ = some (.slice a s.to.length k) := (ses_box (lm_next HB8.out HX0.out)).2.2.2.1
    have HLN := hid (show (s.to.take i).length = i by rw [List.length_take]; omega)
    have HT3 := hid (show wr.ownsRow w2.heap.size 23 2 (.slice al i cl) i (cellsL (s.to.take i)) by have h := HOR.out; unfold OwnL at h; rw [HLN.out] at h; exact h)
    by_cases hlt : i < s.to.length
    · have i1 : (i : Int) < (s.to.length : Int) := by omega
      have i0' : (0 : Int) ≤ (i : Int) := by omega
      obtain ⟨x, hx⟩ : ∃ x, s.to[i]? = some x := ⟨_, List.getElem?_eq_getElem hlt⟩
      obtain ⟨p, o, rfl, _, _, e0, e1⟩ := adr_get ((HA.out.next HB1.out).next HB8.out) hx
      have HLG := hid (take_some hx)
      clear hx
      go_wp2_with (first | (at_builtin; refine wpList_append_lies _ rfl _ _ 24 rfl w2.heap.size 23 i0 _ 2 32 Try.underlying24 hi' hz0 hz1 hz2 rfl (by decide) (.slice al i cl) i (cellsL (s.to.take i)) rfl ?k0 ⟨wr.heap.size, 0, none⟩ 1 1 [.string (S x.1), .string (S x.2)] rfl rfl (two_new wr _ _ _ _ rfl) ?k2 (by decide) ?k3 ?k4 ?k5 _ rfl ?_) | fail)
      case k0 => exact World.ownsRow.alloc HT3.out _
      case k2 => simp [Value.oneCell']
      case k3 => unfold maxLen; omega
      case k4 => omega
      case k5 => have := HBR.out.size; simp; omega
      intro g cap w9 hown hgrow hat hlt9
      have HWA := hid (show Below wr.heap.size wr (wr.alloc (.cells #[.string (S x.1), .string (S x.2)] 23)) from (Below.refl _ wr).alloc (Nat.le_refl _) _)
      have HEN := hid (ad_end HLN.out HOR.out HBR.out (Nat.le_refl _) HWA.out hgrow hown)
      have HF1 := hid (show OwnL _ w2.heap.size _ (s.to.take (i + 1)) by rw [HLG.out]; exact HEN.out.1)
      have HF2 := hid HEN.out.2
      clear HEN hown hgrow hat hlt9 e0 e1 q3
      go_wp2
      go_roundw
      case rel => first | exact ⟨i + 1, _, _, by omega, rfl, by go_num, HF1, HF2⟩ | ((repeat apply Exists.intro); exact ⟨⟨i + 1, _, _, by omega, rfl, by go_num, HF1, HF2⟩, rfl⟩) | (refine ⟨trivial, ?_⟩; (repeat apply Exists.intro); exact ⟨⟨i + 1, _, _, by omega, rfl, by go_num, HF1, HF2⟩, rfl⟩)
      case measure => simp [intOf]; omega
    · have i1 : ¬ (i : Int) < (s.to.length : Int) := by omega
      obtain rfl : i = s.to.length := by omega
      have HLE := hid (show s.to.take s.to.length = s.to from List.take_of_length_le (Nat.le_refl _))
      rw [HLE.out] at HOR
      have hY0 := lm_next HB8.out HX0.out
      have hU0 := lm_put (j := 3) (u := .slice al s.to.length cl) hY0
      simp only [List.setIfInBounds_toArray, List.set_cons_zero, List.set_cons_succ] at hU0
      obtain ⟨U, hU⟩ : ∃ U, U = wr.setCell ⟨w.heap.size, 3, none⟩ (.slice al s.to.length cl) := ⟨_, rfl⟩
      have HUE := hid hU
      rw [← hU] at hU0
      have HU0 := hid hU0
      have HU1 := hid (show U.heap[w.heap.size + 1]? = some (.cells #[.int .i64 0, .string ⟨#[]⟩, .string ⟨#[]⟩, .slice none 0 0, .string ⟨#[]⟩, .bool false] 26) by rw [hU]; exact (Below.heap_setCell _ _ _ _ (show w.heap.size + 1 ≠ w.heap.size by omega)).trans (lm_next HB8.out HX1.out))
      have HBU := hid (show Below w.heap.size w U by rw [hU]; exact (HB1.out.trans (HB8.out.mono HB1.out.size)).setCell (p := ⟨w.heap.size, 3, none⟩) (Nat.le_refl _) _)
      have HOU := hid (show OwnL U w2.heap.size (.slice al s.to.length cl) s.to by rw [hU]; exact own_low HOR.out (Nat.lt_of_succ_lt HSZ.out))
      have HUS := hid (show w2.heap.size ≤ U.heap.size by rw [hU]; exact Nat.le_trans HBR.out.size ((Below.refl 0 wr).setCell (p := ⟨w.heap.size, 3, none⟩) (Nat.zero_le _) _).size)
      have HKU := hid (HK.out.imp (fun _ h => h) (Keeps.of_below HBU.out))
      obtain ⟨p0, p1, p2, p3, p4, p5⟩ := ses_box hY0
      have pf := (ses_frz hY0).2.2.2.1
      clear hlt HLE HLN HT3 hY0 hU0 hU
      clear q3
      go_upto_region 10 with fail
      rw [← HUE.out]
      clear p0 p1 p2 p3 p4 p5 pf i1
      obtain ⟨p0, p1, p2, p3, p4, p5⟩ := ses_box HU0.out
      by_cases h5 : s.step = 5
      · have c1 : (s.step == 5) = true := by simp [h5]
        have H5 := hid h5
        clear h5 p1 p2 p3 p4 p5
        have hY := HU1.out
        obtain ⟨f0, f1, f2, f3, f4, f5⟩ := ses_frz hY
        obtain ⟨g0, g1, g2, g3, g4, g5⟩ := ses_box hY
        obtain ⟨y0, y1, y2, y3, y4, y5⟩ := ses_box HU0.out
        have HR := hid (six_put' (v0 := .int .i64 s.step) (v1 := .string (S s.frm.1)) (v2 := .string (S s.frm.2)) (v3 := .slice al s.to.length cl) (v4 := .string (S s.text)) (v5 := .bool s.large) hY)
        have HE := hid (show LdP w s known line (.returned (.tuple #[.agg #[.int .i64 s.step, .string (S s.frm.1), .string (S s.frm.2), .slice al s.to.length cl, .string (S s.text), .bool s.large], .int .i64 0, .slice none 0 0, .int .i64 0])) (outW U (w.heap.size + 1) s (.slice al s.to.length cl)) from ld_end (r := s) (c := 0) HM.out (by unfold lineM; rw [if_pos H5.out]) HBU.out (HOU.out.row (by unfold maxLen; omega)) (ltrs_nil _ _) HSZ.out)
        unfold outW at HE
        clear hY
        go_wp2
        obtain ⟨r0, r1, r2, r3, r4, r5⟩ := ses_box HR.out
        clear f0 f1 f2 f3 f4 f5 g0 g1 g2 g3 g4 g5 y0 y1 y2 y3 y4 y5
        refine bodyPost_ret (v := .tuple #[.agg #[.int .i64 s.step, .string (S s.frm.1), .string (S s.frm.2), .slice al s.to.length cl, .string (S s.text), .bool s.large], .int .i64 0, .slice none 0 0, .int .i64 0]) (by simp [results, Try.results10, go_sem, *]) rfl ?_
        exact HE.out
      have c1 : (s.step == 5) = false := by simp [h5]
      have H5 := hid h5
      clear h5
      by_cases h4 : s.step = 4
      case neg =>
        have c2 : (s.step != 4) = true := by simp [h4]
        have H4 := hid h4
        clear h4
        have HCM := hid (HCK.out (w2.heap.size ≤ ·) s al cl known ka kc line U HM.out (HOU.out.row (by unfold maxLen; omega)) (fun g hg => Nat.le_trans HUS.out hg) HKU.out HLL.out)
        have HCE := hid (show lineM s known line = ((cmdM s known line).1, (cmdM s known line).2, []) by unfold lineM; rw [if_neg H5.out, if_neg H4.out])
        obtain ⟨rc, hrc⟩ : ∃ rc, rc = cmdM s known line := ⟨_, rfl⟩
        rw [← hrc] at HCM HCE
        obtain ⟨r, c⟩ := rc
        clear hrc
        go_wp2_with fail
        refine HCM.out.mono ?_
        rintro e w3 ⟨v3, rfl, hv3, hb3⟩
        obtain ⟨a3, k3, rfl⟩ : ∃ a3 k3, v3 = .slice a3 r.to.length k3 := by obtain ⟨a3, k3, h, _⟩ := hv3; exact ⟨a3, k3, h⟩
        unfold sesV
        simp only
        have HB3 := hid hb3
        obtain ⟨b13, hb13⟩ : ∃ b, b = w3.heap.size := ⟨_, rfl⟩
        have HE13 := hid hb13
        obtain ⟨W4, hW4⟩ : ∃ W4, W4 = w3.alloc (.cells #[.int .i64 r.step, .string (S r.frm.1), .string (S r.frm.2), .slice a3 r.to.length k3, .string (S r.text), .bool r.large] 26) := ⟨_, rfl⟩
        have HWE4 := hid hW4
        have hB4 : Below w3.heap.size w3 W4 := by rw [hW4]; exact (Below.refl _ _).alloc (Nat.le_refl _) _
        have HX4 := hid (show W4.heap[b13]? = some (.cells #[.int .i64 r.step, .string (S r.frm.1), .string (S r.frm.2), .slice a3 r.to.length k3, .string (S r.text), .bool r.large] 26) by rw [hW4, hb13]; exact heap_alloc_new _ _)
        have HB4 := hid (show Below U.heap.size U W4 from hb3.trans (hB4.mono hb3.size))
        have HV4 := hid (show AdrsM (w2.heap.size ≤ ·) W4 (.slice a3 r.to.length k3) r.to from AdrsM.next hv3 hB4)
        have HBW := hid (show Below w.heap.size w W4 from HBU.out.trans (HB4.out.mono HBU.out.size))
        clear hv3 hb3 hB4 hW4 hb13 p0 p1 p2 p3 p4 p5
        go_upto_region 14 with fail
        rw [← HWE4.out, ← HE13.out]
        have hY := lm_next HB4.out HU1.out
        obtain ⟨f0, f1, f2, f3, f4, f5⟩ := ses_frz hY
        obtain ⟨g0, g1, g2, g3, g4, g5⟩ := ses_box hY
        obtain ⟨y0, y1, y2, y3, y4, y5⟩ := ses_box HX4.out
        have HR := hid (six_put' (v0 := .int .i64 r.step) (v1 := .string (S r.frm.1)) (v2 := .string (S r.frm.2)) (v3 := .slice a3 r.to.length k3) (v4 := .string (S r.text)) (v5 := .bool r.large) hY)
        have HE := hid (show LdP w s known line (.returned (.tuple #[.agg #[.int .i64 r.step, .string (S r.frm.1), .string (S r.frm.2), .slice a3 r.to.length k3, .string (S r.text), .bool r.large], .int .i64 c, .slice none 0 0, .int .i64 0])) (outW W4 (w.heap.size + 1) r (.slice a3 r.to.length k3)) from ld_end (r := r) (c := c) HM.out HCE.out HBW.out HV4.out (ltrs_nil _ _) HSZ.out)
        unfold outW at HE
        clear hY
        go_wp2
        obtain ⟨r0, r1, r2, r3, r4, r5⟩ := ses_box HR.out
        clear f0 f1 f2 f3 f4 f5 g0 g1 g2 g3 g4 g5 y0 y1 y2 y3 y4 y5
        refine bodyPost_ret (v := .tuple #[.agg #[.int .i64 r.step, .string (S r.frm.1), .string (S r.frm.2), .slice a3 r.to.length k3, .string (S r.text), .bool r.large], .int .i64 c, .slice none 0 0, .int .i64 0]) (by simp [results, Try.results10, go_sem, *]) rfl ?_
        exact HE.out
      have c2 : (s.step != 4) = false := by simp [h4]
      have H4 := hid h4
      clear h4
      have HBL := hid (show lineM s known line = ((bodyM s line).1, 0, (bodyM s line).2) by unfold lineM; rw [if_neg H5.out, if_pos H4.out])
      have e1 := lm_lit line [46]
      by_cases hd : line = [46]
      · rw [show decide (line = [46]) = true by simp [hd]] at e1
        have HBD := hid (show lineM s known line = (atS 1, 0, lettersM s) by rw [HBL.out]; unfold bodyM; rw [if_pos hd])
        clear hd p1 p2 p3 p4 p5
        go_wp2
        clear p0 c1 c2 e1
        go_loopw [15, 16] (fun p q wr => ∃ (i : Nat) (bl : Option Addr) (dl : Nat), i ≤ s.to.length ∧ p = .slice bl i dl ∧ q = .int .i64 i ∧ Hid (OwnT wr U.heap.size (.slice bl i dl) ((lettersM s).take i)) ∧ Hid (Below U.heap.size U wr)) (fun _ q _ => s.to.length - (intOf q).toNat)
        case atStart => exact ⟨0, none, 0, Nat.zero_le _, rfl, rfl, OwnT.nil _ _, Below.refl _ _⟩
        case round =>
          obtain ⟨i, bl, dl, hi, rfl, rfl, HTR, HBQ⟩ := hrel
          obtain ⟨x0, x1, x2, x3, x4, x5⟩ := ses_box (lm_next HBQ.out HU0.out)
          have HLN := hid (letters_len s i hi)
          have HT3 := hid (show wr.ownsRow U.heap.size 50 5 (.slice bl i dl) i (cellsT ((lettersM s).take i)) by have h := HTR.out; unfold OwnT at h; rw [HLN.out] at h; exact h)
          by_cases hlt : i < s.to.length
          · have i1 : (i : Int) < (s.to.length : Int) := by omega
            have i0' : (0 : Int) ≤ (i : Int) := by omega
            obtain ⟨x, hx⟩ : ∃ x, s.to[i]? = some x := ⟨_, List.getElem?_eq_getElem hlt⟩
            obtain ⟨p, o, rfl, _, _, e0, e1⟩ := adr_get ((own_next HOU.out HBQ.out).row (by unfold maxLen; omega)) hx
            have HLG := hid (letters_get hx)
            have HBW := hid (show U.heap.size ≤ wr.heap.size from HBQ.out.size)
            clear hx
            go_wp2
            go_region_law
              (first
                | (refine step_append_lies _ (by rfl) _ _ _ (by rfl) U.heap.size 50 j0 _ 5 80 Try.underlying32 hj' hq0 hq1 hq2 rfl (by omega) (.slice bl i dl) i (cellsT ((lettersM s).take i)) (by rfl) (by first | exact World.ownsRow.alloc (show World.ownsRow wr.drew _ _ _ _ _ _ from HT3.out) _ | exact (World.ownsRow.alloc HT3.out _).drew)
                     ⟨wr.heap.size, 0, none⟩ 1 1 (ltrC (s.frm, x, s.text)) (by rfl) (by rfl) (by first | exact five_new wr.drew _ _ _ _ _ _ _ rfl | exact five_new wr _ _ _ _ _ _ _ rfl) (by simp [ltrC, Value.oneCell']) (by omega) (by unfold maxLen; omega) (by omega) (by have := HBW.out; simp; omega) _ rfl ?_
                   intro gm cap w5 hown5 hgrow hat hlt5
                   have HWA := hid (show Below wr.heap.size wr (wr.drew.alloc (.cells #[.string (S s.frm.1), .string (S s.frm.2), .string (S x.1), .string (S x.2), .string (S s.text)] 50)) from (Below.refl _ wr).drew.alloc (Nat.le_refl _) _)
                   have HEN := hid (lt_end (x := (s.frm, x, s.text)) HLN.out HTR.out HBQ.out (Nat.le_refl _) HWA.out hgrow hown5)
                   clear hown5 hgrow hat)
                | fail)
            all_goals
              have HF1 := hid (show OwnT _ U.heap.size _ ((lettersM s).take (i + 1)) by rw [HLG.out]; exact HEN.out.1)
              have HF2 := hid HEN.out.2
              clear HEN
              go_wp2
              go_roundw
              case rel => first | exact ⟨i + 1, _, _, by omega, rfl, by go_num, HF1, HF2⟩ | ((repeat apply Exists.intro); exact ⟨⟨i + 1, _, _, by omega, rfl, by go_num, HF1, HF2⟩, rfl⟩) | (refine ⟨trivial, ?_⟩; (repeat apply Exists.intro); exact ⟨⟨i + 1, _, _, by omega, rfl, by go_num, HF1, HF2⟩, rfl⟩)
              case measure => simp [intOf]; omega
          · have i1 : ¬ (i : Int) < (s.to.length : Int) := by omega
            obtain rfl : i = s.to.length := by omega
            have HLE := hid (show (lettersM s).take s.to.length = lettersM s by rw [List.take_of_length_le]; unfold lettersM; rw [List.length_map]; exact Nat.le_refl _)
            rw [HLE.out] at HTR
            have HLM := hid (show (lettersM s).length = s.to.length by unfold lettersM; rw [List.length_map])
            have HTW := hid (show LtrsM (U.heap.size ≤ ·) wr (.slice bl s.to.length dl) (lettersM s) from HTR.out.row (by rw [HLM.out]; unfold maxLen; omega))
            have HBW := hid (show Below w.heap.size w wr from HBU.out.trans (HBQ.out.mono HBU.out.size))
            clear hlt HLE HLN HT3
            clear x0 x1 x2 x4 x5
            have hY := lm_next HBQ.out HU1.out
            obtain ⟨f0, f1, f2, f3, f4, f5⟩ := ses_frz hY
            obtain ⟨g0, g1, g2, g3, g4, g5⟩ := ses_box hY
            have HR := hid (six_put' (v0 := .int .i64 1) (v1 := .string ⟨#[]⟩) (v2 := .string ⟨#[]⟩) (v3 := .slice none 0 0) (v4 := .string ⟨#[]⟩) (v5 := .bool false) hY)
            have HE := hid (show LdP w s known line (.returned (.tuple #[.agg #[.int .i64 1, .string ⟨#[]⟩, .string ⟨#[]⟩, .slice none 0 0, .string ⟨#[]⟩, .bool false], .int .i64 0, .slice bl s.to.length dl, .int .i64 0])) (outW wr (w.heap.size + 1) (atS 1) (.slice none 0 0)) from ld_end (r := (atS 1)) (c := 0) HM.out HBD.out HBW.out (adrs_nilQ _ _) HTW.out (Nat.lt_of_lt_of_le HSZ.out HUS.out))
            unfold outW at HE
            clear hY
            go_wp2
            obtain ⟨r0, r1, r2, r3, r4, r5⟩ := ses_box HR.out
            clear f0 f1 f2 f3 f4 f5 g0 g1 g2 g3 g4 g5
            refine bodyPost_ret (v := .tuple #[.agg #[.int .i64 1, .string ⟨#[]⟩, .string ⟨#[]⟩, .slice none 0 0, .string ⟨#[]⟩, .bool false], .int .i64 0, .slice bl s.to.length dl, .int .i64 0]) (by simp [results, Try.results10, go_sem, *]) rfl ?_
            exact HE.out
      rw [show decide (line = [46]) = false by simp [hd]] at e1
      have HBD := hid (show lineM s known line = (readM s line, 0, []) by rw [HBL.out]; unfold bodyM; rw [if_neg hd])
      have HAR := hid (fun x => S_app4 s.text x)
      have HUL := hid (show (undot line).length ≤ 140737488355328 from Nat.le_trans (undot_le line) HLL.out)
      obtain ⟨g, hg⟩ : ∃ g, g = s.large := ⟨_, rfl⟩
      have HGE := hid hg
      have HU0' := HU0
      rw [← hg] at HU0'
      clear hd hg p1 p2 p3 p4 p5
      by_cases hz : line = []
      · have z1 : ¬ (0 : Int) < ((S line).size : Int) := by rw [size_S, hz]; simp
        have HUX := hid (show undot line = line by rw [hz]; rfl)
        have HAP := hid (HAR.out line)
        have HUY := HLL
        clear hz
        go_upto_region 24 with fail
        clear z1 e1 c1 c2 p0
        cases g with
        | true =>
          have HLG := hid (show s.large = true ∨ 2000 < s.text.length + (undot line).length + 2 from .inl HGE.out.symm)
          have hV := lm_put (j := 5) (u := .bool true) HU0'.out
          simp only [List.setIfInBounds_toArray, List.set_cons_zero, List.set_cons_succ] at hV
          obtain ⟨V, hVE⟩ : ∃ V, V = U.setCell ⟨w.heap.size, 5, none⟩ (.bool true) := ⟨_, rfl⟩
          have HVE := hid hVE
          rw [← hVE] at hV
          have HV0 := hid hV
          have HV1 := hid (show V.heap[w.heap.size + 1]? = some (.cells #[.int .i64 0, .string ⟨#[]⟩, .string ⟨#[]⟩, .slice none 0 0, .string ⟨#[]⟩, .bool false] 26) by rw [hVE]; exact (Below.heap_setCell _ _ _ _ (show w.heap.size + 1 ≠ w.heap.size by omega)).trans HU1.out)
          have HBV := hid (show Below w.heap.size w V by rw [hVE]; exact HBU.out.setCell (p := ⟨w.heap.size, 5, none⟩) (Nat.le_refl _) _)
          have HOV := hid (show OwnL V w2.heap.size (.slice al s.to.length cl) s.to by rw [hVE]; exact own_low HOU.out (Nat.lt_of_succ_lt HSZ.out))
          obtain ⟨p0, p1, p2, p3, p4, p5⟩ := ses_box HU0'.out
          have pf := (ses_frz HU0'.out).2.2.2.2.2
          clear hV hVE
          go_upto_region 26 with fail
          rw [← HVE.out]
          clear p0 p1 p2 p3 p4 p5 pf
          have hY := HV1.out
          obtain ⟨f0, f1, f2, f3, f4, f5⟩ := ses_frz hY
          obtain ⟨g0, g1, g2, g3, g4, g5⟩ := ses_box hY
          obtain ⟨y0, y1, y2, y3, y4, y5⟩ := ses_box HV0.out
          have HR := hid (six_put' (v0 := .int .i64 s.step) (v1 := .string (S s.frm.1)) (v2 := .string (S s.frm.2)) (v3 := .slice al s.to.length cl) (v4 := .string (S s.text)) (v5 := .bool true) hY)
          have HE := hid (show LdP w s known line (.returned (.tuple #[.agg #[.int .i64 s.step, .string (S s.frm.1), .string (S s.frm.2), .slice al s.to.length cl, .string (S s.text), .bool true], .int .i64 0, .slice none 0 0, .int .i64 0])) (outW V (w.heap.size + 1) ⟨s.step, s.frm, s.to, s.text, true⟩ (.slice al s.to.length cl)) from ld_end (r := ⟨s.step, s.frm, s.to, s.text, true⟩) (c := 0) HM.out (by rw [HBD.out]; unfold readM; rw [if_pos HLG.out]) HBV.out (HOV.out.row (by have := HT5.out; unfold maxLen; omega)) (ltrs_nil _ _) HSZ.out)
          unfold outW at HE
          clear hY
          go_wp2
          obtain ⟨r0, r1, r2, r3, r4, r5⟩ := ses_box HR.out
          clear f0 f1 f2 f3 f4 f5 g0 g1 g2 g3 g4 g5 y0 y1 y2 y3 y4 y5
          refine bodyPost_ret (v := .tuple #[.agg #[.int .i64 s.step, .string (S s.frm.1), .string (S s.frm.2), .slice al s.to.length cl, .string (S s.text), .bool true], .int .i64 0, .slice none 0 0, .int .i64 0]) (by simp [results, Try.results10, go_sem, *]) rfl ?_
          exact HE.out
        | false =>
          by_cases hc : 2000 < s.text.length + (line).length + 2
          · have HLG := hid (show s.large = true ∨ 2000 < s.text.length + (undot line).length + 2 from by rw [HUX.out]; exact .inr hc)
            have hc' : (1998 : Int) < ((S s.text).size : Int) + ((S line).size : Int) := by rw [size_S, size_S]; omega
            have hw1 : ((S s.text).size : Int) + ((S line).size : Int) < 9223372036854775808 := by rw [size_S, size_S]; have := HT6.out; have := HUY.out; omega
            clear hc
            have hV := lm_put (j := 5) (u := .bool true) HU0'.out
            simp only [List.setIfInBounds_toArray, List.set_cons_zero, List.set_cons_succ] at hV
            obtain ⟨V, hVE⟩ : ∃ V, V = U.setCell ⟨w.heap.size, 5, none⟩ (.bool true) := ⟨_, rfl⟩
            have HVE := hid hVE
            rw [← hVE] at hV
            have HV0 := hid hV
            have HV1 := hid (show V.heap[w.heap.size + 1]? = some (.cells #[.int .i64 0, .string ⟨#[]⟩, .string ⟨#[]⟩, .slice none 0 0, .string ⟨#[]⟩, .bool false] 26) by rw [hVE]; exact (Below.heap_setCell _ _ _ _ (show w.heap.size + 1 ≠ w.heap.size by omega)).trans HU1.out)
            have HBV := hid (show Below w.heap.size w V by rw [hVE]; exact HBU.out.setCell (p := ⟨w.heap.size, 5, none⟩) (Nat.le_refl _) _)
            have HOV := hid (show OwnL V w2.heap.size (.slice al s.to.length cl) s.to by rw [hVE]; exact own_low HOU.out (Nat.lt_of_succ_lt HSZ.out))
            obtain ⟨p0, p1, p2, p3, p4, p5⟩ := ses_box HU0'.out
            have pf := (ses_frz HU0'.out).2.2.2.2.2
            clear hV hVE
            go_upto_region 26 with fail
            rw [← HVE.out]
            clear p0 p1 p2 p3 p4 p5 pf
            have hY := HV1.out
            obtain ⟨f0, f1, f2, f3, f4, f5⟩ := ses_frz hY
            obtain ⟨g0, g1, g2, g3, g4, g5⟩ := ses_box hY
            obtain ⟨y0, y1, y2, y3, y4, y5⟩ := ses_box HV0.out
            have HR := hid (six_put' (v0 := .int .i64 s.step) (v1 := .string (S s.frm.1)) (v2 := .string (S s.frm.2)) (v3 := .slice al s.to.length cl) (v4 := .string (S s.text)) (v5 := .bool true) hY)
            have HE := hid (show LdP w s known line (.returned (.tuple #[.agg #[.int .i64 s.step, .string (S s.frm.1), .string (S s.frm.2), .slice al s.to.length cl, .string (S s.text), .bool true], .int .i64 0, .slice none 0 0, .int .i64 0])) (outW V (w.heap.size + 1) ⟨s.step, s.frm, s.to, s.text, true⟩ (.slice al s.to.length cl)) from ld_end (r := ⟨s.step, s.frm, s.to, s.text, true⟩) (c := 0) HM.out (by rw [HBD.out]; unfold readM; rw [if_pos HLG.out]) HBV.out (HOV.out.row (by have := HT5.out; unfold maxLen; omega)) (ltrs_nil _ _) HSZ.out)
            unfold outW at HE
            clear hY
            go_wp2
            obtain ⟨r0, r1, r2, r3, r4, r5⟩ := ses_box HR.out
            clear f0 f1 f2 f3 f4 f5 g0 g1 g2 g3 g4 g5 y0 y1 y2 y3 y4 y5
            refine bodyPost_ret (v := .tuple #[.agg #[.int .i64 s.step, .string (S s.frm.1), .string (S s.frm.2), .slice al s.to.length cl, .string (S s.text), .bool true], .int .i64 0, .slice none 0 0, .int .i64 0]) (by simp [results, Try.results10, go_sem, *]) rfl ?_
            exact HE.out
          · have HLG := hid (show ¬ (s.large = true ∨ 2000 < s.text.length + (undot line).length + 2) from by rw [HUX.out, ← HGE.out]; simp; omega)
            have hc' : ¬ (1998 : Int) < ((S s.text).size : Int) + ((S line).size : Int) := by rw [size_S, size_S]; omega
            have hw1 : ((S s.text).size : Int) + ((S line).size : Int) < 9223372036854775808 := by rw [size_S, size_S]; omega
            have hw2 : (S line).size ≤ 2000 := by rw [size_S]; omega
            have hw3 : (S s.text).size ≤ 2000 := by rw [size_S]; omega
            clear hc
            obtain ⟨tx, htx⟩ : ∃ tx, tx = s.text ++ line ++ [13, 10] := ⟨_, rfl⟩
            have HTE := hid htx
            have HAQ := hid (show S s.text ++ S line ++ ⟨#[13, 10]⟩ = S tx by rw [htx]; exact HAP.out)
            clear htx
            have hV := lm_put (j := 4) (u := .string (S tx)) HU0'.out
            simp only [List.setIfInBounds_toArray, List.set_cons_zero, List.set_cons_succ] at hV
            obtain ⟨V, hVE⟩ : ∃ V, V = U.setCell ⟨w.heap.size, 4, none⟩ (.string (S tx)) := ⟨_, rfl⟩
            have HVE := hid hVE
            rw [← hVE] at hV
            have HV0 := hid hV
            have HV1 := hid (show V.heap[w.heap.size + 1]? = some (.cells #[.int .i64 0, .string ⟨#[]⟩, .string ⟨#[]⟩, .slice none 0 0, .string ⟨#[]⟩, .bool false] 26) by rw [hVE]; exact (Below.heap_setCell _ _ _ _ (show w.heap.size + 1 ≠ w.heap.size by omega)).trans HU1.out)
            have HBV := hid (show Below w.heap.size w V by rw [hVE]; exact HBU.out.setCell (p := ⟨w.heap.size, 4, none⟩) (Nat.le_refl _) _)
            have HOV := hid (show OwnL V w2.heap.size (.slice al s.to.length cl) s.to by rw [hVE]; exact own_low HOU.out (Nat.lt_of_succ_lt HSZ.out))
            obtain ⟨p0, p1, p2, p3, p4, p5⟩ := ses_box HU0'.out
            have pf := (ses_frz HU0'.out).2.2.2.2.1
            clear hV hVE
            go_upto_region 28 with fail
            rw [HAQ.out, ← HVE.out]
            clear p0 p1 p2 p3 p4 p5 pf
            have hY := HV1.out
            obtain ⟨f0, f1, f2, f3, f4, f5⟩ := ses_frz hY
            obtain ⟨g0, g1, g2, g3, g4, g5⟩ := ses_box hY
            obtain ⟨y0, y1, y2, y3, y4, y5⟩ := ses_box HV0.out
            have HR := hid (six_put' (v0 := .int .i64 s.step) (v1 := .string (S s.frm.1)) (v2 := .string (S s.frm.2)) (v3 := .slice al s.to.length cl) (v4 := .string (S tx)) (v5 := .bool false) hY)
            have HE := hid (show LdP w s known line (.returned (.tuple #[.agg #[.int .i64 s.step, .string (S s.frm.1), .string (S s.frm.2), .slice al s.to.length cl, .string (S tx), .bool false], .int .i64 0, .slice none 0 0, .int .i64 0])) (outW V (w.heap.size + 1) ⟨s.step, s.frm, s.to, tx, false⟩ (.slice al s.to.length cl)) from ld_end (r := ⟨s.step, s.frm, s.to, tx, false⟩) (c := 0) HM.out (by rw [HBD.out]; unfold readM; rw [if_neg HLG.out, ← HGE.out, HTE.out, HUX.out]) HBV.out (HOV.out.row (by have := HT5.out; unfold maxLen; omega)) (ltrs_nil _ _) HSZ.out)
            unfold outW at HE
            clear hY
            go_wp2
            obtain ⟨r0, r1, r2, r3, r4, r5⟩ := ses_box HR.out
            clear f0 f1 f2 f3 f4 f5 g0 g1 g2 g3 g4 g5 y0 y1 y2 y3 y4 y5
            refine bodyPost_ret (v := .tuple #[.agg #[.int .i64 s.step, .string (S s.frm.1), .string (S s.frm.2), .slice al s.to.length cl, .string (S tx), .bool false], .int .i64 0, .slice none 0 0, .int .i64 0]) (by simp [results, Try.results10, go_sem, *]) rfl ?_
            exact HE.out
      obtain ⟨c, t, hct⟩ : ∃ c t, line = c :: t := by
        cases line with
        | nil => exact absurd rfl hz
        | cons c t => exact ⟨c, t, rfl⟩
      have h0 : 0 < (S line).size := by rw [size_S, hct]; simp
      have z1 : (0 : Int) < ((S line).size : Int) := by omega
      have z2 : (1 : Int) ≤ ((S line).size : Int) := by omega
      by_cases hc : c = 46
      · have a1 : ((((S line)[0]'h0).toNat : Int) == 46) = true := by subst hct; subst hc; rfl
        have HUD := hid (show (S line).extract 1 (S line).size = S (undot line) by rw [S_drop, hct]; simp [undot, hc])
        have HUX := hid (show undot line = undot line from rfl)
        have HAP := hid (HAR.out (undot line))
        have HUY := HUL
        clear hz hct hc
        go_upto_region 24 with fail
        rw [HUD.out]
        clear a1 z1 z2 e1 c1 c2 p0
        cases g with
        | true =>
          have HLG := hid (show s.large = true ∨ 2000 < s.text.length + (undot line).length + 2 from .inl HGE.out.symm)
          have hV := lm_put (j := 5) (u := .bool true) HU0'.out
          simp only [List.setIfInBounds_toArray, List.set_cons_zero, List.set_cons_succ] at hV
          obtain ⟨V, hVE⟩ : ∃ V, V = U.setCell ⟨w.heap.size, 5, none⟩ (.bool true) := ⟨_, rfl⟩
          have HVE := hid hVE
          rw [← hVE] at hV
          have HV0 := hid hV
          have HV1 := hid (show V.heap[w.heap.size + 1]? = some (.cells #[.int .i64 0, .string ⟨#[]⟩, .string ⟨#[]⟩, .slice none 0 0, .string ⟨#[]⟩, .bool false] 26) by rw [hVE]; exact (Below.heap_setCell _ _ _ _ (show w.heap.size + 1 ≠ w.heap.size by omega)).trans HU1.out)
          have HBV := hid (show Below w.heap.size w V by rw [hVE]; exact HBU.out.setCell (p := ⟨w.heap.size, 5, none⟩) (Nat.le_refl _) _)
          have HOV := hid (show OwnL V w2.heap.size (.slice al s.to.length cl) s.to by rw [hVE]; exact own_low HOU.out (Nat.lt_of_succ_lt HSZ.out))
          obtain ⟨p0, p1, p2, p3, p4, p5⟩ := ses_box HU0'.out
          have pf := (ses_frz HU0'.out).2.2.2.2.2
          clear hV hVE
          go_upto_region 26 with fail
          rw [← HVE.out]
          clear p0 p1 p2 p3 p4 p5 pf
          have hY := HV1.out
          obtain ⟨f0, f1, f2, f3, f4, f5⟩ := ses_frz hY
          obtain ⟨g0, g1, g2, g3, g4, g5⟩ := ses_box hY
          obtain ⟨y0, y1, y2, y3, y4, y5⟩ := ses_box HV0.out
          have HR := hid (six_put' (v0 := .int .i64 s.step) (v1 := .string (S s.frm.1)) (v2 := .string (S s.frm.2)) (v3 := .slice al s.to.length cl) (v4 := .string (S s.text)) (v5 := .bool true) hY)
          have HE := hid (show LdP w s known line (.returned (.tuple #[.agg #[.int .i64 s.step, .string (S s.frm.1), .string (S s.frm.2), .slice al s.to.length cl, .string (S s.text), .bool true], .int .i64 0, .slice none 0 0, .int .i64 0])) (outW V (w.heap.size + 1) ⟨s.step, s.frm, s.to, s.text, true⟩ (.slice al s.to.length cl)) from ld_end (r := ⟨s.step, s.frm, s.to, s.text, true⟩) (c := 0) HM.out (by rw [HBD.out]; unfold readM; rw [if_pos HLG.out]) HBV.out (HOV.out.row (by have := HT5.out; unfold maxLen; omega)) (ltrs_nil _ _) HSZ.out)
          unfold outW at HE
          clear hY
          go_wp2
          obtain ⟨r0, r1, r2, r3, r4, r5⟩ := ses_box HR.out
          clear f0 f1 f2 f3 f4 f5 g0 g1 g2 g3 g4 g5 y0 y1 y2 y3 y4 y5
          refine bodyPost_ret (v := .tuple #[.agg #[.int .i64 s.step, .string (S s.frm.1), .string (S s.frm.2), .slice al s.to.length cl, .string (S s.text), .bool true], .int .i64 0, .slice none 0 0, .int .i64 0]) (by simp [results, Try.results10, go_sem, *]) rfl ?_
          exact HE.out
        | false =>
          by_cases hc : 2000 < s.text.length + ((undot line)).length + 2
          · have HLG := hid (show s.large = true ∨ 2000 < s.text.length + (undot line).length + 2 from by rw [HUX.out]; exact .inr hc)
            have hc' : (1998 : Int) < ((S s.text).size : Int) + ((S (undot line)).size : Int) := by rw [size_S, size_S]; omega
            have hw1 : ((S s.text).size : Int) + ((S (undot line)).size : Int) < 9223372036854775808 := by rw [size_S, size_S]; have := HT6.out; have := HUY.out; omega
            clear hc
            have hV := lm_put (j := 5) (u := .bool true) HU0'.out
            simp only [List.setIfInBounds_toArray, List.set_cons_zero, List.set_cons_succ] at hV
            obtain ⟨V, hVE⟩ : ∃ V, V = U.setCell ⟨w.heap.size, 5, none⟩ (.bool true) := ⟨_, rfl⟩
            have HVE := hid hVE
            rw [← hVE] at hV
            have HV0 := hid hV
            have HV1 := hid (show V.heap[w.heap.size + 1]? = some (.cells #[.int .i64 0, .string ⟨#[]⟩, .string ⟨#[]⟩, .slice none 0 0, .string ⟨#[]⟩, .bool false] 26) by rw [hVE]; exact (Below.heap_setCell _ _ _ _ (show w.heap.size + 1 ≠ w.heap.size by omega)).trans HU1.out)
            have HBV := hid (show Below w.heap.size w V by rw [hVE]; exact HBU.out.setCell (p := ⟨w.heap.size, 5, none⟩) (Nat.le_refl _) _)
            have HOV := hid (show OwnL V w2.heap.size (.slice al s.to.length cl) s.to by rw [hVE]; exact own_low HOU.out (Nat.lt_of_succ_lt HSZ.out))
            obtain ⟨p0, p1, p2, p3, p4, p5⟩ := ses_box HU0'.out
            have pf := (ses_frz HU0'.out).2.2.2.2.2
            clear hV hVE
            go_upto_region 26 with fail
            rw [← HVE.out]
            clear p0 p1 p2 p3 p4 p5 pf
            have hY := HV1.out
            obtain ⟨f0, f1, f2, f3, f4, f5⟩ := ses_frz hY
            obtain ⟨g0, g1, g2, g3, g4, g5⟩ := ses_box hY
            obtain ⟨y0, y1, y2, y3, y4, y5⟩ := ses_box HV0.out
            have HR := hid (six_put' (v0 := .int .i64 s.step) (v1 := .string (S s.frm.1)) (v2 := .string (S s.frm.2)) (v3 := .slice al s.to.length cl) (v4 := .string (S s.text)) (v5 := .bool true) hY)
            have HE := hid (show LdP w s known line (.returned (.tuple #[.agg #[.int .i64 s.step, .string (S s.frm.1), .string (S s.frm.2), .slice al s.to.length cl, .string (S s.text), .bool true], .int .i64 0, .slice none 0 0, .int .i64 0])) (outW V (w.heap.size + 1) ⟨s.step, s.frm, s.to, s.text, true⟩ (.slice al s.to.length cl)) from ld_end (r := ⟨s.step, s.frm, s.to, s.text, true⟩) (c := 0) HM.out (by rw [HBD.out]; unfold readM; rw [if_pos HLG.out]) HBV.out (HOV.out.row (by have := HT5.out; unfold maxLen; omega)) (ltrs_nil _ _) HSZ.out)
            unfold outW at HE
            clear hY
            go_wp2
            obtain ⟨r0, r1, r2, r3, r4, r5⟩ := ses_box HR.out
            clear f0 f1 f2 f3 f4 f5 g0 g1 g2 g3 g4 g5 y0 y1 y2 y3 y4 y5
            refine bodyPost_ret (v := .tuple #[.agg #[.int .i64 s.step, .string (S s.frm.1), .string (S s.frm.2), .slice al s.to.length cl, .string (S s.text), .bool true], .int .i64 0, .slice none 0 0, .int .i64 0]) (by simp [results, Try.results10, go_sem, *]) rfl ?_
            exact HE.out
          · have HLG := hid (show ¬ (s.large = true ∨ 2000 < s.text.length + (undot line).length + 2) from by rw [HUX.out, ← HGE.out]; simp; omega)
            have hc' : ¬ (1998 : Int) < ((S s.text).size : Int) + ((S (undot line)).size : Int) := by rw [size_S, size_S]; omega
            have hw1 : ((S s.text).size : Int) + ((S (undot line)).size : Int) < 9223372036854775808 := by rw [size_S, size_S]; omega
            have hw2 : (S (undot line)).size ≤ 2000 := by rw [size_S]; omega
            have hw3 : (S s.text).size ≤ 2000 := by rw [size_S]; omega
            clear hc
            obtain ⟨tx, htx⟩ : ∃ tx, tx = s.text ++ (undot line) ++ [13, 10] := ⟨_, rfl⟩
            have HTE := hid htx
            have HAQ := hid (show S s.text ++ S (undot line) ++ ⟨#[13, 10]⟩ = S tx by rw [htx]; exact HAP.out)
            clear htx
            have hV := lm_put (j := 4) (u := .string (S tx)) HU0'.out
            simp only [List.setIfInBounds_toArray, List.set_cons_zero, List.set_cons_succ] at hV
            obtain ⟨V, hVE⟩ : ∃ V, V = U.setCell ⟨w.heap.size, 4, none⟩ (.string (S tx)) := ⟨_, rfl⟩
            have HVE := hid hVE
            rw [← hVE] at hV
            have HV0 := hid hV
            have HV1 := hid (show V.heap[w.heap.size + 1]? = some (.cells #[.int .i64 0, .string ⟨#[]⟩, .string ⟨#[]⟩, .slice none 0 0, .string ⟨#[]⟩, .bool false] 26) by rw [hVE]; exact (Below.heap_setCell _ _ _ _ (show w.heap.size + 1 ≠ w.heap.size by omega)).trans HU1.out)
            have HBV := hid (show Below w.heap.size w V by rw [hVE]; exact HBU.out.setCell (p := ⟨w.heap.size, 4, none⟩) (Nat.le_refl _) _)
            have HOV := hid (show OwnL V w2.heap.size (.slice al s.to.length cl) s.to by rw [hVE]; exact own_low HOU.out (Nat.lt_of_succ_lt HSZ.out))
            obtain ⟨p0, p1, p2, p3, p4, p5⟩ := ses_box HU0'.out
            have pf := (ses_frz HU0'.out).2.2.2.2.1
            clear hV hVE
            go_upto_region 28 with fail
            rw [HAQ.out, ← HVE.out]
            clear p0 p1 p2 p3 p4 p5 pf
            have hY := HV1.out
            obtain ⟨f0, f1, f2, f3, f4, f5⟩ := ses_frz hY
            obtain ⟨g0, g1, g2, g3, g4, g5⟩ := ses_box hY
            obtain ⟨y0, y1, y2, y3, y4, y5⟩ := ses_box HV0.out
            have HR := hid (six_put' (v0 := .int .i64 s.step) (v1 := .string (S s.frm.1)) (v2 := .string (S s.frm.2)) (v3 := .slice al s.to.length cl) (v4 := .string (S tx)) (v5 := .bool false) hY)
            have HE := hid (show LdP w s known line (.returned (.tuple #[.agg #[.int .i64 s.step, .string (S s.frm.1), .string (S s.frm.2), .slice al s.to.length cl, .string (S tx), .bool false], .int .i64 0, .slice none 0 0, .int .i64 0])) (outW V (w.heap.size + 1) ⟨s.step, s.frm, s.to, tx, false⟩ (.slice al s.to.length cl)) from ld_end (r := ⟨s.step, s.frm, s.to, tx, false⟩) (c := 0) HM.out (by rw [HBD.out]; unfold readM; rw [if_neg HLG.out, ← HGE.out, HTE.out, HUX.out]) HBV.out (HOV.out.row (by have := HT5.out; unfold maxLen; omega)) (ltrs_nil _ _) HSZ.out)
            unfold outW at HE
            clear hY
            go_wp2
            obtain ⟨r0, r1, r2, r3, r4, r5⟩ := ses_box HR.out
            clear f0 f1 f2 f3 f4 f5 g0 g1 g2 g3 g4 g5 y0 y1 y2 y3 y4 y5
            refine bodyPost_ret (v := .tuple #[.agg #[.int .i64 s.step, .string (S s.frm.1), .string (S s.frm.2), .slice al s.to.length cl, .string (S tx), .bool false], .int .i64 0, .slice none 0 0, .int .i64 0]) (by simp [results, Try.results10, go_sem, *]) rfl ?_
            exact HE.out
      · have a1 : ((((S line)[0]'h0).toNat : Int) == 46) = false := by subst hct; exact u8_not hc
        have HUX := hid (show undot line = line by rw [hct]; simp [undot, hc])
        have HAP := hid (HAR.out line)
        have HUY := HLL
        clear hz hct hc
        go_upto_region 24 with fail
        clear a1 z1 z2 e1 c1 c2 p0
        cases g with
        | true =>
          have HLG := hid (show s.large = true ∨ 2000 < s.text.length + (undot line).length + 2 from .inl HGE.out.symm)
          have hV := lm_put (j := 5) (u := .bool true) HU0'.out
          simp only [List.setIfInBounds_toArray, List.set_cons_zero, List.set_cons_succ] at hV
          obtain ⟨V, hVE⟩ : ∃ V, V = U.setCell ⟨w.heap.size, 5, none⟩ (.bool true) := ⟨_, rfl⟩
          have HVE := hid hVE
          rw [← hVE] at hV
          have HV0 := hid hV
          have HV1 := hid (show V.heap[w.heap.size + 1]? = some (.cells #[.int .i64 0, .string ⟨#[]⟩, .string ⟨#[]⟩, .slice none 0 0, .string ⟨#[]⟩, .bool false] 26) by rw [hVE]; exact (Below.heap_setCell _ _ _ _ (show w.heap.size + 1 ≠ w.heap.size by omega)).trans HU1.out)
          have HBV := hid (show Below w.heap.size w V by rw [hVE]; exact HBU.out.setCell (p := ⟨w.heap.size, 5, none⟩) (Nat.le_refl _) _)
          have HOV := hid (show OwnL V w2.heap.size (.slice al s.to.length cl) s.to by rw [hVE]; exact own_low HOU.out (Nat.lt_of_succ_lt HSZ.out))
          obtain ⟨p0, p1, p2, p3, p4, p5⟩ := ses_box HU0'.out
          have pf := (ses_frz HU0'.out).2.2.2.2.2
          clear hV hVE
          go_upto_region 26 with fail
          rw [← HVE.out]
          clear p0 p1 p2 p3 p4 p5 pf
          have hY := HV1.out
          obtain ⟨f0, f1, f2, f3, f4, f5⟩ := ses_frz hY
          obtain ⟨g0, g1, g2, g3, g4, g5⟩ := ses_box hY
          obtain ⟨y0, y1, y2, y3, y4, y5⟩ := ses_box HV0.out
          have HR := hid (six_put' (v0 := .int .i64 s.step) (v1 := .string (S s.frm.1)) (v2 := .string (S s.frm.2)) (v3 := .slice al s.to.length cl) (v4 := .string (S s.text)) (v5 := .bool true) hY)
          have HE := hid (show LdP w s known line (.returned (.tuple #[.agg #[.int .i64 s.step, .string (S s.frm.1), .string (S s.frm.2), .slice al s.to.length cl, .string (S s.text), .bool true], .int .i64 0, .slice none 0 0, .int .i64 0])) (outW V (w.heap.size + 1) ⟨s.step, s.frm, s.to, s.text, true⟩ (.slice al s.to.length cl)) from ld_end (r := ⟨s.step, s.frm, s.to, s.text, true⟩) (c := 0) HM.out (by rw [HBD.out]; unfold readM; rw [if_pos HLG.out]) HBV.out (HOV.out.row (by have := HT5.out; unfold maxLen; omega)) (ltrs_nil _ _) HSZ.out)
          unfold outW at HE
          clear hY
          go_wp2
          obtain ⟨r0, r1, r2, r3, r4, r5⟩ := ses_box HR.out
          clear f0 f1 f2 f3 f4 f5 g0 g1 g2 g3 g4 g5 y0 y1 y2 y3 y4 y5
          refine bodyPost_ret (v := .tuple #[.agg #[.int .i64 s.step, .string (S s.frm.1), .string (S s.frm.2), .slice al s.to.length cl, .string (S s.text), .bool true], .int .i64 0, .slice none 0 0, .int .i64 0]) (by simp [results, Try.results10, go_sem, *]) rfl ?_
          exact HE.out
        | false =>
          by_cases hc : 2000 < s.text.length + (line).length + 2
          · have HLG := hid (show s.large = true ∨ 2000 < s.text.length + (undot line).length + 2 from by rw [HUX.out]; exact .inr hc)
            have hc' : (1998 : Int) < ((S s.text).size : Int) + ((S line).size : Int) := by rw [size_S, size_S]; omega
            have hw1 : ((S s.text).size : Int) + ((S line).size : Int) < 9223372036854775808 := by rw [size_S, size_S]; have := HT6.out; have := HUY.out; omega
            clear hc
            have hV := lm_put (j := 5) (u := .bool true) HU0'.out
            simp only [List.setIfInBounds_toArray, List.set_cons_zero, List.set_cons_succ] at hV
            obtain ⟨V, hVE⟩ : ∃ V, V = U.setCell ⟨w.heap.size, 5, none⟩ (.bool true) := ⟨_, rfl⟩
            have HVE := hid hVE
            rw [← hVE] at hV
            have HV0 := hid hV
            have HV1 := hid (show V.heap[w.heap.size + 1]? = some (.cells #[.int .i64 0, .string ⟨#[]⟩, .string ⟨#[]⟩, .slice none 0 0, .string ⟨#[]⟩, .bool false] 26) by rw [hVE]; exact (Below.heap_setCell _ _ _ _ (show w.heap.size + 1 ≠ w.heap.size by omega)).trans HU1.out)
            have HBV := hid (show Below w.heap.size w V by rw [hVE]; exact HBU.out.setCell (p := ⟨w.heap.size, 5, none⟩) (Nat.le_refl _) _)
            have HOV := hid (show OwnL V w2.heap.size (.slice al s.to.length cl) s.to by rw [hVE]; exact own_low HOU.out (Nat.lt_of_succ_lt HSZ.out))
            obtain ⟨p0, p1, p2, p3, p4, p5⟩ := ses_box HU0'.out
            have pf := (ses_frz HU0'.out).2.2.2.2.2
            clear hV hVE
            go_upto_region 26 with fail
            rw [← HVE.out]
            clear p0 p1 p2 p3 p4 p5 pf
            have hY := HV1.out
            obtain ⟨f0, f1, f2, f3, f4, f5⟩ := ses_frz hY
            obtain ⟨g0, g1, g2, g3, g4, g5⟩ := ses_box hY
            obtain ⟨y0, y1, y2, y3, y4, y5⟩ := ses_box HV0.out
            have HR := hid (six_put' (v0 := .int .i64 s.step) (v1 := .string (S s.frm.1)) (v2 := .string (S s.frm.2)) (v3 := .slice al s.to.length cl) (v4 := .string (S s.text)) (v5 := .bool true) hY)
            have HE := hid (show LdP w s known line (.returned (.tuple #[.agg #[.int .i64 s.step, .string (S s.frm.1), .string (S s.frm.2), .slice al s.to.length cl, .string (S s.text), .bool true], .int .i64 0, .slice none 0 0, .int .i64 0])) (outW V (w.heap.size + 1) ⟨s.step, s.frm, s.to, s.text, true⟩ (.slice al s.to.length cl)) from ld_end (r := ⟨s.step, s.frm, s.to, s.text, true⟩) (c := 0) HM.out (by rw [HBD.out]; unfold readM; rw [if_pos HLG.out]) HBV.out (HOV.out.row (by have := HT5.out; unfold maxLen; omega)) (ltrs_nil _ _) HSZ.out)
            unfold outW at HE
            clear hY
            go_wp2
            obtain ⟨r0, r1, r2, r3, r4, r5⟩ := ses_box HR.out
            clear f0 f1 f2 f3 f4 f5 g0 g1 g2 g3 g4 g5 y0 y1 y2 y3 y4 y5
            refine bodyPost_ret (v := .tuple #[.agg #[.int .i64 s.step, .string (S s.frm.1), .string (S s.frm.2), .slice al s.to.length cl, .string (S s.text), .bool true], .int .i64 0, .slice none 0 0, .int .i64 0]) (by simp [results, Try.results10, go_sem, *]) rfl ?_
            exact HE.out
          · have HLG := hid (show ¬ (s.large = true ∨ 2000 < s.text.length + (undot line).length + 2) from by rw [HUX.out, ← HGE.out]; simp; omega)
            have hc' : ¬ (1998 : Int) < ((S s.text).size : Int) + ((S line).size : Int) := by rw [size_S, size_S]; omega
            have hw1 : ((S s.text).size : Int) + ((S line).size : Int) < 9223372036854775808 := by rw [size_S, size_S]; omega
            have hw2 : (S line).size ≤ 2000 := by rw [size_S]; omega
            have hw3 : (S s.text).size ≤ 2000 := by rw [size_S]; omega
            clear hc
            obtain ⟨tx, htx⟩ : ∃ tx, tx = s.text ++ line ++ [13, 10] := ⟨_, rfl⟩
            have HTE := hid htx
            have HAQ := hid (show S s.text ++ S line ++ ⟨#[13, 10]⟩ = S tx by rw [htx]; exact HAP.out)
            clear htx
            have hV := lm_put (j := 4) (u := .string (S tx)) HU0'.out
            simp only [List.setIfInBounds_toArray, List.set_cons_zero, List.set_cons_succ] at hV
            obtain ⟨V, hVE⟩ : ∃ V, V = U.setCell ⟨w.heap.size, 4, none⟩ (.string (S tx)) := ⟨_, rfl⟩
            have HVE := hid hVE
            rw [← hVE] at hV
            have HV0 := hid hV
            have HV1 := hid (show V.heap[w.heap.size + 1]? = some (.cells #[.int .i64 0, .string ⟨#[]⟩, .string ⟨#[]⟩, .slice none 0 0, .string ⟨#[]⟩, .bool false] 26) by rw [hVE]; exact (Below.heap_setCell _ _ _ _ (show w.heap.size + 1 ≠ w.heap.size by omega)).trans HU1.out)
            have HBV := hid (show Below w.heap.size w V by rw [hVE]; exact HBU.out.setCell (p := ⟨w.heap.size, 4, none⟩) (Nat.le_refl _) _)
            have HOV := hid (show OwnL V w2.heap.size (.slice al s.to.length cl) s.to by rw [hVE]; exact own_low HOU.out (Nat.lt_of_succ_lt HSZ.out))
            obtain ⟨p0, p1, p2, p3, p4, p5⟩ := ses_box HU0'.out
            have pf := (ses_frz HU0'.out).2.2.2.2.1
            clear hV hVE
            go_upto_region 28 with fail
            rw [HAQ.out, ← HVE.out]
            clear p0 p1 p2 p3 p4 p5 pf
            have hY := HV1.out
            obtain ⟨f0, f1, f2, f3, f4, f5⟩ := ses_frz hY
            obtain ⟨g0, g1, g2, g3, g4, g5⟩ := ses_box hY
            obtain ⟨y0, y1, y2, y3, y4, y5⟩ := ses_box HV0.out
            have HR := hid (six_put' (v0 := .int .i64 s.step) (v1 := .string (S s.frm.1)) (v2 := .string (S s.frm.2)) (v3 := .slice al s.to.length cl) (v4 := .string (S tx)) (v5 := .bool false) hY)
            have HE := hid (show LdP w s known line (.returned (.tuple #[.agg #[.int .i64 s.step, .string (S s.frm.1), .string (S s.frm.2), .slice al s.to.length cl, .string (S tx), .bool false], .int .i64 0, .slice none 0 0, .int .i64 0])) (outW V (w.heap.size + 1) ⟨s.step, s.frm, s.to, tx, false⟩ (.slice al s.to.length cl)) from ld_end (r := ⟨s.step, s.frm, s.to, tx, false⟩) (c := 0) HM.out (by rw [HBD.out]; unfold readM; rw [if_neg HLG.out, ← HGE.out, HTE.out, HUX.out]) HBV.out (HOV.out.row (by have := HT5.out; unfold maxLen; omega)) (ltrs_nil _ _) HSZ.out)
            unfold outW at HE
            clear hY
            go_wp2
            obtain ⟨r0, r1, r2, r3, r4, r5⟩ := ses_box HR.out
            clear f0 f1 f2 f3 f4 f5 g0 g1 g2 g3 g4 g5 y0 y1 y2 y3 y4 y5
            refine bodyPost_ret (v := .tuple #[.agg #[.int .i64 s.step, .string (S s.frm.1), .string (S s.frm.2), .slice al s.to.length cl, .string (S tx), .bool false], .int .i64 0, .slice none 0 0, .int .i64 0]) (by simp [results, Try.results10, go_sem, *]) rfl ?_
            exact HE.out
end Go.Proofs.Ytkdmccgfehmoaaa
