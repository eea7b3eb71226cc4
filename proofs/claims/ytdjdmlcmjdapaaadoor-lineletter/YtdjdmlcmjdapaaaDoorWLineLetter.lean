/-
  A letter that is handed over line by line, with a dot more ahead of dots, is the letter: walked.
-/
import Derived.Test.YtdjdmlcmjdapaaaDoorLmRdy
import Derived.Test.YtdjdmlcmjdapaaaDoorLmLw4
import Derived.Test.YtdjdmlcmjdapaaaDoorLmLtr
import Derived.Test.YtdjdmlcmjdapaaaDoorLtrFac
namespace Go.Proofs.YtdjdmlcmjdapaaaDoor
open Go.RowKit Go.Proofs

theorem some_dec (a b : UInt8) : (some a == some b) = decide (a = b) := by
  by_cases e : a = b
  · simp [e]
  · simp [e]
theorem S_get {x : List UInt8} {i : Nat} {c : UInt8} (hc : x[i]? = some c) (h : i < (S x).size) : (S x)[i]'h = c := by
  obtain ⟨h1, h2⟩ := List.getElem?_eq_some_iff.1 hc
  rw [← h2]
  rfl
theorem S_mid (x : List UInt8) (a b : Nat) : (S x).extract a b = S ((x.take b).drop a) := by
  rw [← S_list ((S x).extract a b)]
  congr 1
  simp [list_S, List.drop_take]
theorem crlf_add (t : List UInt8) : S t ++ ⟨#[13, 10]⟩ = S (t ++ [13, 10]) := by
  rw [← S_list (S t ++ ⟨#[13, 10]⟩)]
  simp [list_S]
theorem dot_add (t : List UInt8) : (⟨#[46]⟩ : ByteArray) ++ S t = S (46 :: t) := by
  rw [← S_list ((⟨#[46]⟩ : ByteArray) ++ S t)]
  simp [list_S]
set_option maxHeartbeats 4000000 in
set_option maxRecDepth 100000 in
theorem lineLetter_walk (w : World) (hm : maxLenCell w) (fl fd fg tl td tg : ByteArray) (a : Option Addr) (c : Nat) (fs : List F) (body : ByteArray) (hF : FieldsAt w a fs) (hL : fs.length ≤ maxLen) (hB : ∀ f ∈ fs, f.1.length ≤ maxLen ∧ f.2.length ≤ maxLen) (hY : body.size ≤ maxLen) (s1 : fl.size ≤ maxLen) (s2 : fd.size ≤ maxLen) (s3 : tl.size ≤ maxLen) (s4 : td.size ≤ maxLen) :
    Calls Tryd.prog 4 #[.agg #[.string fl, .string fd, .string fg, .string tl, .string td, .string tg, .slice a fs.length c, .string body]] w fun e w' => e = .returned (.bool true) ∧ Below w.heap.size w w' := by
  obtain ⟨f, hf⟩ : ∃ f, f = adrOf fl.data.toList fd.data.toList := ⟨_, rfl⟩
  obtain ⟨t, ht⟩ : ∃ t, t = adrOf tl.data.toList td.data.toList := ⟨_, rfl⟩
  have HF := hid (show lawful f by rw [hf]; exact adrOf_lawful _ _)
  have HT := hid (show lawful t by rw [ht]; exact adrOf_lawful _ _)
  obtain ⟨W0, hW0⟩ : ∃ W0, W0 = w.alloc (.cells #[.string fl, .string fd, .string fg, .string tl, .string td, .string tg, .slice a fs.length c, .string body] 38) := ⟨_, rfl⟩
  have HWE := hid hW0
  have HB0 := hid (show Below w.heap.size w W0 by rw [hW0]; exact (Below.refl _ _).alloc (Nat.le_refl _) _)
  have hP0 : W0.heap[w.heap.size]? = some (.cells #[.string fl, .string fd, .string fg, .string tl, .string td, .string tg, .slice a fs.length c, .string body] 38) := by rw [hW0]; exact heap_alloc_new w _
  obtain ⟨x0, hx0⟩ : ∃ x, x = textM (ltrM fs) (ltrB body).data.toList := ⟨_, rfl⟩
  have HX0 := hid (show 2 ≤ x0.length ∧ x0.length ≤ 500 by rw [hx0]; exact ltr_text fs body)
  have HLT := hid (show Calls Tryd.prog 10 #[.agg #[.string fl, .string fd, .string fg, .string tl, .string td, .string tg, .slice a fs.length c, .string body]] W0 (LtrR W0 f t x0) from by
    rw [hf, ht, hx0]
    exact letter_any fl fd fg tl td tg a c fs body W0 (hF.below HB0.out) hL hB hY s1 s2 s3 s4 (maxLenCell_below hm HB0.out) (fun f hf => (msg_size fs f hf).2) (ltrM fs) rfl (ltrB body) rfl
      ⟨by have := ltr_len fs; omega, by have := ltrB_size body; omega, fun f hf => by have := ltr_size fs f hf; omega⟩ (ltr_fault fs body) (by have := ltr_text fs body; omega))
  have HRD := hid (fun u => ready_any fl fd fg tl td tg (.slice a fs.length c) (.string body) u s1 s2 s3 s4)
  rw [← hf, ← ht] at HRD
  obtain ⟨p0, p1, p2, p3, p4, p5⟩ := post_box hP0
  have p6 : W0.cell? ⟨w.heap.size, 6, none⟩ = some (.slice a fs.length c) := by simp [World.cell?, hP0]
  have p7 : W0.cell? ⟨w.heap.size, 7, none⟩ = some (.string body) := by simp [World.cell?, hP0]
  have HP0 := hid hP0
  clear hW0 hP0 hF hL hB hY s1 s2 s3 s4 hf ht hx0 hm
  go_enter Tryd.func4, Tryd.ntmps4
  go_upto_region 1 with fail
  rw [← HWE.out]
  go_wp2_with fail
  refine HLT.out.mono ?_
  rintro e w1 ⟨rfl, hb1⟩
  obtain ⟨b3, hb3⟩ : ∃ b, b = w1.heap.size := ⟨_, rfl⟩
  have HE3 := hid hb3
  obtain ⟨W1, hW1⟩ : ∃ W1, W1 = w1.alloc (.cells #[.string (S f.1), .string (S f.2), .string (S t.1), .string (S t.2), .string (S x0)] 42) := ⟨_, rfl⟩
  have HWE1 := hid hW1
  have hB1 : Below w1.heap.size w1 W1 := by rw [hW1]; exact (Below.refl _ _).alloc (Nat.le_refl _) _
  have hb01 := hb1.trans (hB1.mono hb1.size)
  have HB1 := hid (show Below w.heap.size w W1 from HB0.out.trans (hb01.mono HB0.out.size))
  have HX1 := hid (show W1.heap[b3]? = some (.cells #[.string (S f.1), .string (S f.2), .string (S t.1), .string (S t.2), .string (S x0)] 42) by rw [hW1, hb3]; exact heap_alloc_new _ _)
  have p0 := wcell_next p0 hb01
  have p1 := wcell_next p1 hb01
  have p2 := wcell_next p2 hb01
  have p3 := wcell_next p3 hb01
  have p4 := wcell_next p4 hb01
  have p5 := wcell_next p5 hb01
  have p6 := wcell_next p6 hb01
  have p7 := wcell_next p7 hb01
  have HRW := hid (HRD.out W1)
  clear hb3 hW1 hB1 hb1 hb01
  go_upto_region 2 with fail
  rw [← HWE1.out, ← HE3.out]
  go_wp2_with fail
  refine HRW.out.mono ?_
  obtain ⟨s, hs⟩ : ∃ s, s = rdS f t 4 := ⟨_, rfl⟩
  rw [← hs]
  rintro e w2 ⟨sa, sk, rfl, hO, hb2⟩
  obtain ⟨b5, hb5⟩ : ∃ b, b = w2.heap.size := ⟨_, rfl⟩
  have HE5 := hid hb5
  obtain ⟨W2, hW2⟩ : ∃ W2, W2 = w2.alloc (.cells #[.int .i64 s.step, .string (S s.frm.1), .string (S s.frm.2), .slice sa s.to.length sk, .string (S s.text), .bool s.large] 47) := ⟨_, rfl⟩
  have HWE2 := hid hW2
  have hB2 : Below w2.heap.size w2 W2 := by rw [hW2]; exact (Below.refl _ _).alloc (Nat.le_refl _) _
  have hb12 := hb2.trans (hB2.mono hb2.size)
  have HB2 := hid (show Below w.heap.size w W2 from HB1.out.trans (hb12.mono HB1.out.size))
  have HX2 := hid (lm_next hb12 HX1.out)
  have HS2 := hid (show SesB W2 b5 0 s from ⟨sa, sk, by rw [hW2, hb5]; exact heap_alloc_new _ _, own_next (own_from hO (Nat.zero_le _)) hB2⟩)
  have HN5 := hid (show b3 < b5 ∧ w.heap.size ≤ b5 by
    rw [hb5]
    exact ⟨Nat.lt_of_lt_of_le (Array.getElem?_eq_some_iff.1 HX1.out).1 hb2.size, Nat.le_trans HB1.out.size hb2.size⟩)
  have l4 : W2.cell? ⟨b3, 4, none⟩ = some (.string (S x0)) := by simp [World.cell?, HX2.out]
  obtain ⟨x, hx⟩ : ∃ x, x = endedL x0 := ⟨_, rfl⟩
  have HXE := hid (show endAt x (x.length - 2) = true ∧ 2 ≤ x.length ∧ x.length ≤ 600 by
    have h := ended_at HX0.out.1
    have h2 := HX0.out.2
    rw [hx]
    exact ⟨h.1, h.2.1, by omega⟩)
  have hz0 : (S x0).size = x0.length := size_S _
  have hx2 := HX0.out
  have HSE := hid hs
  clear hb5 hW2 hB2 hb2 hb12 hO hs p0 p1 p2 p3 p4 p5 p6 p7
  go_upto_region 3 with fail
  rw [← HWE2.out, ← HE5.out]
  have k1 : ¬ (x0.length : Int) < 2 := by omega
  have k2 : (2 : Int) ≤ (x0.length : Int) := by omega
  have k3 : (0 : Int) ≤ (x0.length : Int) - 2 := by omega
  have k4 : (x0.length : Int) - 2 ≤ (x0.length : Int) := by omega
  have k5 : ((x0.length : Int) - 2).toNat = x0.length - 2 := by omega
  have HEX := hid (show (S x0).extract (x0.length - 2) x0.length = S (x0.drop (x0.length - 2)) by
    have := S_drop x0 (x0.length - 2)
    rwa [size_S] at this)
  obtain ⟨y, hy⟩ : ∃ y, y = x0.drop (x0.length - 2) := ⟨_, rfl⟩
  rw [← hy] at HEX
  have HYD := hid hy
  have HXD := hid hx
  clear hx hy
  by_cases h13 : y = [13, 10]
  case' pos =>
    have HSX := hid (show S x0 = S x by rw [HXD.out]; unfold endedL; rw [← HYD.out, if_pos h13])
    have e1 : ((S x0).extract (x0.length - 2) x0.length).toList = [13, 10] := by rw [HEX.out, h13, Lib.toList_data, list_S]
    have e2 : (((S x0).extract (x0.length - 2) x0.length).toList == [13, 10]) = true := by rw [e1]; rfl
  case' neg =>
    have HSX := hid (show S x0 ++ ⟨#[13, 10]⟩ = S x by rw [HXD.out]; unfold endedL; rw [← HYD.out, if_neg h13, crlf_add])
    have e1 : ¬ ((S x0).extract (x0.length - 2) x0.length).toList = [13, 10] := by
      rw [HEX.out, Lib.toList_data, list_S]; exact h13
    have e2 : (((S x0).extract (x0.length - 2) x0.length).toList == [13, 10]) = false := by simp [e1]
  all_goals
    clear h13
    go_upto_region 7 with fail
    rw [HSX.out]
    clear e1 e2 k1 k2 k3 k4 k5 hz0 l4
    have hz : (S x).size = x.length := size_S _
    have hxl : x.length ≤ 600 := HXE.out.2.2
    go_wp2
    go_loopw [7, 9] (fun q v wr => ∃ (i fr : Nat), i ≤ x.length ∧ q = .int .i64 fr ∧ v = .int .i64 i ∧ Hid (LtI x i fr) ∧ Hid (SesB wr b5 0 (ltS f t x fr)) ∧ Hid (Below b5 W2 wr)) (fun _ v _ => x.length - (intOf v).toNat)
    case atStart => exact ⟨0, 0, Nat.zero_le _, rfl, rfl, hid (lt_zero x), hid (by have h := HS2.out; rw [HSE.out] at h; exact h), Below.refl _ _⟩
    case round =>
      obtain ⟨i, fr, hi, rfl, rfl, HI, HS, HB⟩ := hrel
      by_cases hlt : i + 1 < x.length
      · have i1 : (i : Int) + 1 < (x.length : Int) := by omega
        have i0 : (0 : Int) ≤ (i : Int) := by omega
        have i2 : (i : Int) < (x.length : Int) := by omega
        have i3 : (0 : Int) ≤ (i : Int) + 1 := by omega
        have i4 : i < x.length := by omega
        have hI : i < (S x).size := by rw [hz]; exact i4
        have hJ : i + 1 < (S x).size := by rw [hz]; exact hlt
        obtain ⟨p, hp⟩ : ∃ p, x[i]? = some p := ⟨_, List.getElem?_eq_getElem i4⟩
        obtain ⟨r, hr⟩ : ∃ r, x[i + 1]? = some r := ⟨_, List.getElem?_eq_getElem hlt⟩
        have g0 := S_get hp hI
        have g1 := S_get hr hJ
        have HEA := hid (show endAt x i = (decide (p = 13) && decide (r = 10)) by
          unfold endAt
          rw [hp, hr, some_dec p 13, some_dec r 10])
        clear hp hr
        by_cases c0 : p = 13
        · have d0 : (((S x)[i]'hI).toNat : Int) = 13 := by rw [g0, c0]; rfl
          by_cases c1 : r = 10
          · have d1 : (((S x)[i + 1]'hJ).toNat : Int) = 10 := by rw [g1, c1]; rfl
            have d2 : ((((S x)[i + 1]'hJ).toNat : Int) != 10) = false := by rw [d1]; rfl
            have hE : endAt x i = true := by rw [HEA.out, c0, c1]; rfl
            obtain ⟨hfi, hNX⟩ := lt_take HI.out hE
            have HNX := hid hNX
            obtain ⟨ln, hln⟩ : ∃ ln, ln = (x.take i).drop fr := ⟨_, rfl⟩
            have HLL := hid (show ln.length ≤ 600 by rw [hln]; simp; omega)
            have HLI := hid (show lineM (ltS f t x fr) [] (dotted1 ln) = (ltS f t x (i + 2), 0, []) by rw [hln]; exact lt_line HI.out hE hxl)
            have HSM := hid (show (S x).extract fr i = S ln by rw [hln]; exact S_mid x fr i)
            have HMA := hid (lt_may HF.out HT.out hxl fr)
            have f1 : (fr : Int) ≤ (i : Int) := by omega
            have f0 : (0 : Int) ≤ (fr : Int) := by omega
            have f2 : (i : Int) ≤ (x.length : Int) := by omega
            have hzl : (S ln).size = ln.length := size_S _
            obtain ⟨qa, qk, hS, hO⟩ := HS.out
            obtain ⟨sq, hsq⟩ : ∃ sq, sq = ltS f t x fr := ⟨_, rfl⟩
            obtain ⟨r2, hr2⟩ : ∃ r2, r2 = ltS f t x (i + 2) := ⟨_, rfl⟩
            rw [← hsq] at hS hO HMA
            rw [← hsq, ← hr2] at HLI
            have HR2 := hid hr2
            obtain ⟨z0, z1, z2, z3, z4, z5⟩ := ses_box hS
            have HSX2 := hid hS
            have HHL := hid (show b5 < wr.heap.size from (Array.getElem?_eq_some_iff.1 hS).1)
            have HLG := hid (fun (dl : List UInt8) (h : dotted1 ln = dl) => line_ok (W := wr) (u := wr) (kv := .slice none 0 0) (line := dl) (r := r2) (c := 0) (ls := []) HMA.out (by rw [← h]; exact HLI.out) (AdrsM.any (hO.row (by have := may_to HMA.out; unfold maxLen; omega))) (own_roomy hO) (txt_none _) (by have h1 := dotted_len ln; have h2 := HLL.out; rw [← h]; omega) (Below.refl _ _))
            clear hE hNX hln c0 c1 g0 g1 hfi hS hO hsq hr2
            go_upto_region 13 with fail
            rw [HSM.out]
            by_cases hh : ln.head? = some 46
            case' pos =>
              obtain ⟨ct, hct⟩ : ∃ ct, ln = 46 :: ct := by
                cases ln with
                | nil => simp at hh
                | cons c r => simp at hh; exact ⟨r, by rw [hh]⟩
              have hl0 : (0 : Int) < (ln.length : Int) := by rw [hct, List.length_cons]; omega
              have hK : 0 < (S ln).size := by rw [hzl, hct]; simp
              have d3 : (((S ln)[0]'hK).toNat : Int) = 46 := by rw [S_get (c := 46) (by rw [hct]; rfl) hK]; rfl
              have HDT := hid (dot_add ln)
              have HLN := hid (HLG.out (46 :: ln) (by unfold dotted1; rw [if_pos hh]))
              have hlm : ln.length ≤ 600 := HLL.out
              clear hh hct
              go_upto_region 15 with fail
              rw [HDT.out]
            case' neg =>
              have HLN := hid (HLG.out ln (by unfold dotted1; rw [if_neg hh]))
              by_cases hl : ln.length = 0
              case' pos =>
                have hl0 : ¬ (0 : Int) < (ln.length : Int) := by omega
                clear hh hl
                go_upto_region 15 with fail
              case' neg =>
                have hl0 : (0 : Int) < (ln.length : Int) := by omega
                have hK : 0 < (S ln).size := by rw [hzl]; omega
                have d3 : ¬ (((S ln)[0]'hK).toNat : Int) = 46 := by
                  cases ln with
                  | nil => simp at hl
                  | cons c r =>
                    rw [S_get (c := c) rfl hK]
                    intro e
                    exact hh (by rw [UInt8.toNat_inj.1 (show c.toNat = (46 : UInt8).toNat by simp; omega)]; rfl)
                have d4 : ((((S ln)[0]'hK).toNat : Int) == 46) = false := by simp [d3]
                clear hh hl
                go_upto_region 15 with fail
            all_goals
              go_wp2_with fail
              refine HLN.out.mono ?_
              rintro e w5 ⟨ra, rk, la, lk, rfl, ho5, ht5, hb5, _, _⟩
              obtain ⟨b11, hb11⟩ : ∃ b, b = w5.heap.size := ⟨_, rfl⟩
              have HE11 := hid hb11
              obtain ⟨W5, hW5⟩ : ∃ W5, W5 = w5.alloc (.cells #[.int .i64 r2.step, .string (S r2.frm.1), .string (S r2.frm.2), .slice ra r2.to.length rk, .string (S r2.text), .bool r2.large] 47) := ⟨_, rfl⟩
              have HWE5 := hid hW5
              have hB5 : Below w5.heap.size w5 W5 := by rw [hW5]; exact (Below.refl _ _).alloc (Nat.le_refl _) _
              have hX5 : W5.heap[b11]? = some (.cells #[.int .i64 r2.step, .string (S r2.frm.1), .string (S r2.frm.2), .slice ra r2.to.length rk, .string (S r2.text), .bool r2.large] 47) := by rw [hW5, hb11]; exact heap_alloc_new _ _
              have hb35 := hb5.trans (hB5.mono hb5.size)
              obtain ⟨y0, y1, y2, y3, y4, y5⟩ := ses_box hX5
              have hX7 := lm_next hb35 HSX2.out
              obtain ⟨v0, v1, v2, v3, v4, v5⟩ := ses_frz hX7
              obtain ⟨m0, m1, m2, m3, m4, m5⟩ := ses_box hX7
              have HNS := hid (SesB.copy (B := 0) hX7 (own_next ho5 hB5) HHL.out (Nat.zero_le _))
              have HNB := hid (show Below b5 W2 _ from (HB.out.trans (hb35.mono (Nat.le_of_lt HHL.out))).trans (low7 W5 (.int .i64 r2.step) (.string (S r2.frm.1)) (.string (S r2.frm.2)) (.slice ra r2.to.length rk) (.string (S r2.text)) (.bool r2.large) (Nat.le_refl _)))
              clear hb11 hW5 hB5 hX5 hb35 hX7 ho5 ht5 hb5 z0 z1 z2 z3 z4 z5
              go_upto_region 16 with fail
              rw [← HWE5.out, ← HE11.out]
              go_wp2
              go_roundw
              case rel => exact ⟨i + 1, i + 2, by omega, by simp, by simp, HNX, (by rw [← HR2.out]; exact HNS), HNB⟩
              case measure => simp [intOf]; omega
          · have d1 : ¬ (((S x)[i + 1]'hJ).toNat : Int) = 10 := by
              rw [g1]; intro e; exact c1 (UInt8.toNat_inj.1 (show r.toNat = 10 by omega))
            have d2 : ((((S x)[i + 1]'hJ).toNat : Int) != 10) = true := by simp [d1]
            have HSK := hid (lt_skip HI.out (by rw [HEA.out]; simp [c1]))
            clear c0 c1 g0 g1
            go_wp2
            go_roundw
            case rel => exact ⟨i + 1, fr, by omega, rfl, by simp, HSK, HS, HB⟩
            case measure => simp [intOf]; omega
        · have d0 : ¬ (((S x)[i]'hI).toNat : Int) = 13 := by
            rw [g0]; intro e; exact c0 (UInt8.toNat_inj.1 (show p.toNat = 13 by omega))
          have HSK := hid (lt_skip HI.out (by rw [HEA.out]; simp [c0]))
          clear c0 g0 g1
          go_wp2
          go_roundw
          case rel => exact ⟨i + 1, fr, by omega, rfl, by simp, HSK, HS, HB⟩
          case measure => simp [intOf]; omega
      · have i1 : ¬ (i : Int) + 1 < (x.length : Int) := by omega
        obtain rfl : fr = x.length := lt_end HI.out HXE.out.2.1 HXE.out.1 (by omega)
        have HBF := hid (show Below w.heap.size w wr from HB2.out.trans (HB.out.mono HN5.out.2))
        have HX3 := hid (lm_low HB.out HX2.out HN5.out.1)
        have HMA := hid (lt_may HF.out HT.out hxl x.length)
        obtain ⟨z, hz1⟩ : ∃ z, z = atS 1 := ⟨_, rfl⟩
        have ez : (z.step == 1) = true := by rw [hz1]; rfl
        have HLI := hid (show lineM (ltS f t x x.length) [] [46] = (z, 0, [(f, t, x)]) by rw [hz1]; exact lt_last)
        obtain ⟨qa, qk, hS, hO⟩ := HS.out
        obtain ⟨sq, hsq⟩ : ∃ sq, sq = ltS f t x x.length := ⟨_, rfl⟩
        rw [← hsq] at hS hO HMA HLI
        obtain ⟨z0, z1, z2, z3, z4, z5⟩ := ses_box hS
        have HLN := hid (line_ok (W := wr) (u := wr) (kv := .slice none 0 0) HMA.out HLI.out (AdrsM.any (hO.row (by have := may_to HMA.out; unfold maxLen; omega))) (own_roomy hO) (txt_none _) (by simp) (Below.refl _ _))
        rw [show S [46] = (⟨#[46]⟩ : ByteArray) from rfl] at HLN
        clear hS hO hsq hz1 hlt
        go_wp2_with fail
        refine HLN.out.mono ?_
        rintro e w5 ⟨ra, rk, la, lk, rfl, ho5, ht5, hb5, _, _⟩
        obtain ⟨b15, hb15⟩ : ∃ b, b = w5.heap.size := ⟨_, rfl⟩
        have HE15 := hid hb15
        obtain ⟨W5, hW5⟩ : ∃ W5, W5 = w5.alloc (.cells #[.int .i64 z.step, .string (S z.frm.1), .string (S z.frm.2), .slice ra z.to.length rk, .string (S z.text), .bool z.large] 47) := ⟨_, rfl⟩
        have HWE5 := hid hW5
        have hB5 : Below w5.heap.size w5 W5 := by rw [hW5]; exact (Below.refl _ _).alloc (Nat.le_refl _) _
        have hX5 : W5.heap[b15]? = some (.cells #[.int .i64 z.step, .string (S z.frm.1), .string (S z.frm.2), .slice ra z.to.length rk, .string (S z.text), .bool z.large] 47) := by rw [hW5, hb15]; exact heap_alloc_new _ _
        have hb35 := hb5.trans (hB5.mono hb5.size)
        have v0 : W5.cell? ⟨b15, 0, none⟩ = some (.int .i64 z.step) := (ses_box hX5).1
        have hX3 := lm_next hb35 HX3.out
        have q0 : W5.cell? ⟨b3, 0, none⟩ = some (.string (S f.1)) := by simp [World.cell?, hX3]
        have q1 : W5.cell? ⟨b3, 1, none⟩ = some (.string (S f.2)) := by simp [World.cell?, hX3]
        have q2 : W5.cell? ⟨b3, 2, none⟩ = some (.string (S t.1)) := by simp [World.cell?, hX3]
        have q3 : W5.cell? ⟨b3, 3, none⟩ = some (.string (S t.2)) := by simp [World.cell?, hX3]
        obtain ⟨g, rfl, _, hg, g0, g1, g2, g3, g4⟩ := ltr_get (ownT_next ht5 hB5) (i := 0) rfl
        simp only [Nat.zero_mul, Nat.zero_add] at g0 g1 g2 g3 g4
        have hA := fun w => adr_eql f f w
        have hA2 := fun w => adr_eql t t w
        have HBE := hid (show Below w.heap.size w W5 from HBF.out.trans (hb35.mono HBF.out.size))
        clear hb15 hW5 hB5 hX5 hb35 hX3 ho5 ht5 hb5 z0 z1 z2 z3 z4 z5 hg
        go_upto_region 20 with fail
        rw [← HWE5.out, ← HE15.out]
        go_region_held3 (fun u => u.cell? ⟨b15, 0, none⟩ = some (.int .i64 z.step) ∧ u.cell? ⟨b3, 0, none⟩ = some (.string (S f.1)) ∧ u.cell? ⟨b3, 1, none⟩ = some (.string (S f.2)) ∧ u.cell? ⟨b3, 2, none⟩ = some (.string (S t.1)) ∧ u.cell? ⟨b3, 3, none⟩ = some (.string (S t.2)) ∧ u.cell? ⟨g, 0, none⟩ = some (.string (S f.1)) ∧ u.cell? ⟨g, 1, none⟩ = some (.string (S f.2)) ∧ u.cell? ⟨g, 2, none⟩ = some (.string (S t.1)) ∧ u.cell? ⟨g, 3, none⟩ = some (.string (S t.2)) ∧ u.cell? ⟨g, 4, none⟩ = some (.string (S x))) (go_keep) (fail)
        all_goals
          go_wp2
          go_ret
          exact ⟨by first | rfl | simp, HBE.out.drew⟩
end Go.Proofs.YtdjdmlcmjdapaaaDoor
