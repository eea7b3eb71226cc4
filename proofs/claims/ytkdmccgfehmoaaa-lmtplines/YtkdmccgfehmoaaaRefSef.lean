/-
  The document's Check of sessions (P12.1): the reference's SessionFault: the walk.
-/
import Derived.Test.YtkdmccgfehmoaaaRefSes
namespace Go.Proofs.Ytkdmccgfehmoaaa
open Go.RowKit Go.Proofs

theorem may_bad2 {s : Ses} (h : senderS s = false) : mayS s = false := by unfold mayS; rw [h]; simp
theorem may_bad3 {s : Ses} (h : goalsS s = false) : mayS s = false := by unfold mayS; rw [h]; simp
theorem may_bad4 {s : Ses} (h : textS s = false) : mayS s = false := by unfold mayS; rw [h]; simp
set_option maxHeartbeats 4000000 in
set_option linter.unusedSimpArgs false in
set_option maxRecDepth 100000 in
theorem sesFault_any (Q : Nat → Prop) (s : Ses) (v : Value) (w : World) (hf : Fit s) (hv : Roomy v) (ha : AdrsM Q w v s.to) :
    Calls Try.prog 7 #[sesV s v] w fun e w' => e = .returned (.int .i64 (if mayS s = true then 0 else 11)) ∧ Below w.heap.size w w' := by
  obtain ⟨a, c, rfl⟩ : ∃ a c, v = .slice a s.to.length c := by obtain ⟨a, c, h, _⟩ := ha; exact ⟨a, c, h⟩
  have hm : s.to.length ≤ maxLen := by obtain ⟨_, _, _, hm, _⟩ := ha; exact hm
  unfold maxLen at hm
  have hcap : s.to.length ≤ c := hv _ _ _ rfl
  obtain ⟨W1, hW1⟩ : ∃ W1, W1 = w.alloc (.cells #[.int .i64 s.step, .string (S s.frm.1), .string (S s.frm.2), .slice a s.to.length c, .string (S s.text), .bool s.large] 26) := ⟨_, rfl⟩
  have HWE := hid hW1
  have hB1 : Below w.heap.size w W1 := by rw [hW1]; exact (Below.refl _ _).alloc (Nat.le_refl _) _
  have HB1 := hid hB1
  have hX : W1.heap[w.heap.size]? = some (.cells #[.int .i64 s.step, .string (S s.frm.1), .string (S s.frm.2), .slice a s.to.length c, .string (S s.text), .bool s.large] 26) := by rw [hW1]; exact heap_alloc_new w _
  obtain ⟨x0, x1, x2, x3, x4, x5⟩ := ses_box hX
  have HA := hid (ha.next hB1)
  have HF := hid hf.tos
  have HAF := hid (addressFault_any (S s.frm.1) (S s.frm.2) W1 (by rw [size_S]; exact hf.one) (by rw [size_S]; exact hf.two))
  rw [list_S, list_S] at HAF
  have HZ3 := hid (check_three s.frm.1 s.frm.2)
  have HZT := hid (size_S s.text)
  have HN1 := hid (lm_isnil2 s.frm.1)
  have HN2 := hid (lm_isnil2 s.frm.2)
  have HN3 := hid (lm_isnil2 s.text)
  obtain ⟨k, hk⟩ : ∃ k, k = s.step := ⟨_, rfl⟩
  obtain ⟨g, hg⟩ : ∃ g, g = s.large := ⟨_, rfl⟩
  obtain ⟨z, hz⟩ : ∃ z, z = checkA s.frm.1 s.frm.2 := ⟨_, rfl⟩
  rw [← hz] at HAF HZ3
  have HSE := hid (show senderS s = if k < 2 ∨ 4 < k then s.frm.1.isEmpty && s.frm.2.isEmpty else decide (z = 0) by rw [hk, hz]; rfl)
  have HGO := hid (show goalsS s = if k < 3 ∨ 4 < k then s.to.isEmpty else decide (1 ≤ s.to.length) && decide (s.to.length ≤ 5) && diffA [] s.to by rw [hk]; rfl)
  have HTX := hid (show textS s = if k = 4 then decide (s.text.length ≤ 2000) else s.text.isEmpty && !g by rw [hk, hg]; rfl)
  have HMA := hid (show mayS s = (decide (0 ≤ k) && decide (k ≤ 5) && (senderS s && goalsS s && textS s)) by rw [hk]; rfl)
  unfold sesV
  rw [← hk] at HWE x0 ⊢
  rw [← hg] at HWE x5 ⊢
  obtain ⟨R, hR⟩ : ∃ R : Int, R = if mayS s = true then 0 else 11 := ⟨_, rfl⟩
  have HR := hid hR
  rw [← hR]
  have HBAD := hid (show mayS s = false → R = 11 from fun h => by rw [HR.out, h]; rfl)
  clear hR hk hg hz hf hv ha hB1 hW1 hX
  -- the first test
  by_cases hr : 0 ≤ k ∧ k ≤ 5
  case neg =>
    have HE := hid (HBAD.out (by rw [HMA.out]; rcases (show ¬ 0 ≤ k ∨ ¬ k ≤ 5 by omega) with h | h <;> simp [h]))
    have HIN := hid (show ∀ u, Calls Try.prog 14 #[.int .i64 k, .int .i64 0, .int .i64 5] u fun e w' => e = .returned (.bool false) ∧ w' = u from fun u => by
      have := in3_any k 0 5 u
      rwa [show (decide (0 ≤ k) && decide (k ≤ 5)) = false by rcases (show ¬ 0 ≤ k ∨ ¬ k ≤ 5 by omega) with h | h <;> simp [h]] at this)
    clear hr
    go_enter Try.func7, Try.ntmps7
    go_upto_region 1 with fail
    rw [← HWE.out]
    go_wp2_with fail
    refine (HIN.out _).mono ?_
    rintro e u ⟨rfl, hu⟩
    have hu' := hu.symm
    subst hu'
    go_wp2
    go_ret
    exact ⟨by rw [HE.out]; rfl, HB1.out⟩
  have HI0 := hid (show ∀ u, Calls Try.prog 14 #[.int .i64 k, .int .i64 0, .int .i64 5] u fun e w' => e = .returned (.bool true) ∧ w' = u from fun u => by
    have := in3_any k 0 5 u
    rwa [show (decide (0 ≤ k) && decide (k ≤ 5)) = true by simp [hr]] at this)
  have HMB := hid (show mayS s = (senderS s && goalsS s && textS s) by rw [HMA.out]; simp [hr])
  by_cases h5 : 5 < s.to.length
  · have HE := hid (HBAD.out (may_bad1 (.inl h5)))
    have h5' : (5 : Int) < (s.to.length : Int) := by omega
    clear hr
    go_enter Try.func7, Try.ntmps7
    go_upto_region 1 with fail
    rw [← HWE.out]
    go_wp2_with fail
    refine (HI0.out _).mono ?_
    rintro e u ⟨rfl, hu⟩
    have hu' := hu.symm
    subst hu'
    go_wp2
    go_ret
    exact ⟨by rw [HE.out]; rfl, HB1.out⟩
  have h5' : ¬ (5 : Int) < (s.to.length : Int) := by omega
  by_cases ht : 2000 < s.text.length
  · have HE := hid (HBAD.out (may_bad1 (.inr ht)))
    have ht' : (2000 : Int) < ((S s.text).size : Int) := by rw [HZT.out]; omega
    clear hr
    go_enter Try.func7, Try.ntmps7
    go_upto_region 1 with fail
    rw [← HWE.out]
    go_wp2_with fail
    refine (HI0.out _).mono ?_
    rintro e u ⟨rfl, hu⟩
    have hu' := hu.symm
    subst hu'
    go_wp2
    go_ret
    exact ⟨by rw [HE.out]; rfl, HB1.out⟩
  have ht' : ¬ (2000 : Int) < ((S s.text).size : Int) := by rw [HZT.out]; omega
  obtain ⟨p, hp⟩ : ∃ p, p = (decide (2 ≤ k) && decide (k ≤ 4)) := ⟨_, rfl⟩
  obtain ⟨q, hq⟩ : ∃ q, q = (decide (3 ≤ k) && decide (k ≤ 4)) := ⟨_, rfl⟩
  have HI2 := hid (fun u => in3_any k 2 4 u)
  have HI3 := hid (fun u => in3_any k 3 4 u)
  rw [← hp] at HI2
  rw [← hq] at HI3
  have HP := hid hp
  have HQ := hid hq
  clear hp hq
  have HPS := hid (show senderS s = if p = false then s.frm.1.isEmpty && s.frm.2.isEmpty else decide (z = 0) by
    rw [HSE.out, HP.out]
    by_cases h : k < 2 ∨ 4 < k
    · rw [if_pos h, if_pos (by rcases h with h | h <;> simp <;> omega)]
    · rw [if_neg h, if_neg (by simp; omega)])
  have HQS := hid (show goalsS s = if q = false then s.to.isEmpty else decide (1 ≤ s.to.length) && decide (s.to.length ≤ 5) && diffA [] s.to by
    rw [HGO.out, HQ.out]
    by_cases h : k < 3 ∨ 4 < k
    · rw [if_pos h, if_pos (by rcases h with h | h <;> simp <;> omega)]
    · rw [if_neg h, if_neg (by simp; omega)])
  go_enter Try.func7, Try.ntmps7
  go_upto_region 1 with fail
  rw [← HWE.out]
  go_wp2_with fail
  refine (HI0.out _).mono ?_
  rintro e u ⟨rfl, hu⟩
  have hu' := hu.symm
  subst hu'
  clear hu
  go_wp2_with fail
  refine (HI2.out _).mono ?_
  rintro e u ⟨rfl, hu⟩
  have hu' := hu.symm
  subst hu'
  clear hu
  go_wp2_with fail
  refine (HI3.out _).mono ?_
  rintro e u ⟨rfl, hu⟩
  have hu' := hu.symm
  subst hu'
  clear hu
  go_upto_region 5 with fail
  go_cut [50] from 28 to 49 (fun c wx => c = .bool (!senderS s) ∧ Below W1.heap.size W1 wx)
  case first =>
    cases p
    case true =>
      go_wp2_with fail
      refine HAF.out.mono ?_
      rintro e U ⟨rfl, hb⟩
      by_cases hz : z = 0
      · have HSN := hid (show senderS s = true by rw [HPS.out]; simp [hz])
        have hz1 : (z != 0) = false := by simp [hz]
        subst hz
        go_wp2_with fail
        go_meet
        exact ⟨by rw [HSN.out]; rfl, hb⟩
      · have HSN := hid (show senderS s = false by rw [HPS.out]; simp [hz])
        have hz1 : (z != 0) = true := by simp [hz]
        go_wp2_with fail
        go_meet
        exact ⟨by rw [HSN.out]; rfl, hb⟩
    case false =>
      have n1 := HN1.out
      have n2 := HN2.out
      cases e1 : s.frm.1.isEmpty
      case false =>
        rw [e1] at n1
        have HSN := hid (show senderS s = false by rw [HPS.out, e1]; simp)
        have n1' : ¬ (S s.frm.1).toList = [] := fun e => by rw [e] at n1; cases n1
        clear e1 n2
        go_wp2_with fail
        go_meet
        exact ⟨by rw [HSN.out]; rfl, Below.refl _ _⟩
      rw [e1] at n1
      have n1' : (S s.frm.1).toList = [] := List.isEmpty_iff.1 n1
      cases e2 : s.frm.2.isEmpty
      case false =>
        rw [e2] at n2
        have n2' : ¬ (S s.frm.2).toList = [] := fun e => by rw [e] at n2; cases n2
        have HSN := hid (show senderS s = false by rw [HPS.out, e1, e2]; simp)
        clear e1 e2
        go_wp2_with fail
        go_meet
        exact ⟨by rw [HSN.out]; rfl, Below.refl _ _⟩
      rw [e2] at n2
      have n2' : (S s.frm.2).toList = [] := List.isEmpty_iff.1 n2
      have HSN := hid (show senderS s = true by rw [HPS.out, e1, e2]; simp)
      clear e1 e2
      go_wp2_with fail
      go_meet
      exact ⟨by rw [HSN.out]; rfl, Below.refl _ _⟩
  case rest =>
    obtain ⟨U, hU⟩ : ∃ U, U = wc := ⟨_, rfl⟩
    rw [← hU] at hcut ⊢
    clear hU wc
    obtain ⟨rfl, hb⟩ := hcut
    have HBU := hid hb
    have HBW := hid (HB1.out.trans (hb.mono HB1.out.size))
    have y0 := wcell_next x0 hb
    have y3 := wcell_next x3 hb
    have y4 := wcell_next x4 hb
    have y5 := wcell_next x5 hb
    obtain ⟨sn, hsn⟩ : ∃ sn, sn = senderS s := ⟨_, rfl⟩
    have HSB := hid hsn
    rw [← hsn]
    clear hb x0 x1 x2 x3 x4 x5 hsn
    cases sn with
    | false =>
      have HE := hid (HBAD.out (may_bad2 HSB.out.symm))
      go_wp2
      go_ret
      exact ⟨by rw [HE.out]; rfl, HBW.out⟩
    | true =>
    have HMC := hid (show mayS s = (goalsS s && textS s) by rw [HMB.out, ← HSB.out]; rfl)
    obtain ⟨b, hb⟩ : ∃ b, b = (q != decide (0 < s.to.length)) := ⟨_, rfl⟩
    go_upto_region 7 with fail
    go_cut [56] from 51 to 55 (fun c wx => c = .bool b ∧ wx = U)
    case first =>
      have HBQ := hid hb
      clear hb
      by_cases hl0 : s.to.length = 0
      · have l0 : ¬ (0 : Int) < (s.to.length : Int) := by omega
        have l0n : ¬ 0 < s.to.length := by omega
        clear hl0
        cases q
        all_goals
          go_wp2_with fail
          go_meet
          exact ⟨by rw [HBQ.out]; simp [l0n], rfl⟩
      · have l0 : (0 : Int) < (s.to.length : Int) := by omega
        have l0n : 0 < s.to.length := by omega
        clear hl0
        cases q
        all_goals
          go_wp2_with fail
          go_meet
          exact ⟨by rw [HBQ.out]; simp [l0n], rfl⟩
    case rest =>
      obtain ⟨rfl, hwc⟩ := hcut
      rw [hwc]
      clear hwc wc
      cases b with
      | true =>
        have HE := hid (HBAD.out (may_bad3 (by
          rw [HQS.out]
          cases q with
          | false =>
            have : 0 < s.to.length := by simpa using hb.symm
            simp
            intro e; rw [e] at this; simp at this
          | true =>
            have : s.to.length = 0 := by simpa using hb.symm
            simp [this])))
        clear hb
        go_wp2
        go_ret
        exact ⟨by rw [HE.out]; rfl, HBW.out⟩
      | false =>
      have HGD := hid (show goalsS s = diffA (s.to.take 0) (s.to.drop 0) by
        rw [HQS.out]
        cases q with
        | false =>
          have h0 : ¬ 0 < s.to.length := by simpa using hb.symm
          have h1 : s.to = [] := List.length_eq_zero_iff.1 (by omega)
          rw [h1]; rfl
        | true =>
          have h0 : 0 < s.to.length := by
            have := hb.symm
            simp at this
            exact Nat.pos_of_ne_zero (by first | exact this | (intro e; simp [e] at this))
          simp only [Bool.true_eq_false, if_false]
          rw [show decide (1 ≤ s.to.length) = true by simp; omega, show decide (s.to.length ≤ 5) = true by simp; omega]
          rfl)
      clear hb
      go_wp2
      go_loopw [5] (fun v wr => ∃ i : Nat, i ≤ s.to.length ∧ v = .int .i64 i ∧ Hid (Below U.heap.size U wr) ∧ Hid (goalsS s = diffA (s.to.take i) (s.to.drop i))) (fun v _ => s.to.length - (intOf v).toNat)
      case atStart => exact ⟨0, Nat.zero_le _, rfl, Below.refl _ _, HGD⟩
      case round =>
        obtain ⟨i, hi, rfl, HB, HI⟩ := hrel
        have t0 := wcell_next y0 HB.out
        have t3 := wcell_next y3 HB.out
        have t4 := wcell_next y4 HB.out
        have t5 := wcell_next y5 HB.out
        have HBX := hid (HBW.out.trans (HB.out.mono HBW.out.size))
        clear y0 y3 y4 y5
        by_cases hlt : i < s.to.length
        · have i1 : (i : Int) < (s.to.length : Int) := by omega
          have i0 : (0 : Int) ≤ (i : Int) := by omega
          have i2 : (i : Int) ≤ (c : Int) := by omega
          obtain ⟨x, hx⟩ : ∃ x, s.to[i]? = some x := ⟨_, List.getElem?_eq_getElem hlt⟩
          have hAR := (HA.out.next HBU.out).next HB.out
          obtain ⟨P, o, rfl, _, _, e0, e1⟩ := adr_get hAR hx
          have hfx := HF.out x (List.mem_of_getElem? hx)
          have HDS := hid (diffA_step hx)
          have HCK := hid (fun u => addressFault_any (S x.1) (S x.2) u (by rw [size_S]; exact hfx.1) (by rw [size_S]; exact hfx.2))
          rw [list_S, list_S] at HCK
          have HZX := hid (check_three x.1 x.2)
          have hlen : (s.to.take i).length = i := by rw [List.length_take]; omega
          have HCN := hid (fun u (hu : Below wr.heap.size wr u) => by
            have := addressIn_any Q (s.to.take i) x (some ⟨P, o, none⟩) c u (by rw [hlen]; exact RowM.takeR (hAR.next hu) i c (by omega))
            rw [hlen] at this
            exact this)
          have HAD := hid (show adrOk x = decide (checkA x.1 x.2 = 0) from rfl)
          obtain ⟨zz, hzz⟩ : ∃ zz, zz = checkA x.1 x.2 := ⟨_, rfl⟩
          rw [← hzz] at HCK HAD HZX
          clear hAR hlen hx hfx hzz
          have HBT := hid (show ∀ u, Below wr.heap.size wr u → Below U.heap.size U u from fun u hu => HB.out.trans (hu.mono HB.out.size))
          have HBV := hid (show ∀ u, Below wr.heap.size wr u → Below w.heap.size w u from fun u hu => HBX.out.trans (hu.mono HBX.out.size))
          by_cases hzz : zz = 0
          · subst hzz
            have HOK := hid (show adrOk x = true by rw [HAD.out]; rfl)
            obtain ⟨qq, hqq⟩ : ∃ qq, qq = (s.to.take i).contains x := ⟨_, rfl⟩
            rw [← hqq] at HCN HDS
            clear hqq
            go_wp2
            go_cut [82] (fun c wx => c = .bool qq ∧ Below wr.heap.size wr wx)
            case first =>
              go_region_held3 (fun w' => w'.cell? ⟨w.heap.size, 3, none⟩ = some (.slice (some ⟨P, o, none⟩) s.to.length c) ∧ w'.cell? ⟨P, o + i * 2, none⟩ = some (.string (S x.1)) ∧ w'.cell? ⟨P, o + i * 2 + 1, none⟩ = some (.string (S x.2))) (go_keep)
                (first
                  | (go_at_call 16
                     with_reducible refine (HCN.out _ HB4.out).mono ?_
                     rintro e w4 ⟨rfl, hb⟩
                     have HB5 := hid (HB4.out.trans (hb.mono HB4.out.size))
                     have q0 := wcell_next k0 hb
                     have q1 := wcell_next k1 hb
                     have q2 := wcell_next k2 hb
                     clear hb)
                  | (go_at_call 15
                     with_reducible refine (HCK.out wr.drew).mono ?_
                     rintro e w3 ⟨rfl, hb⟩
                     have hb2 : Below wr.heap.size wr w3 := (Below.refl _ _).drew.trans hb
                     have HB4 := hid hb2
                     have k0 := wcell_next t3 hb2
                     have k1 := wcell_next e0 hb2
                     have k2 := wcell_next e1 hb2
                     clear hb hb2)
                  | fail)
              all_goals
                go_wp2_with fail
                go_meet
                exact ⟨by first | rfl | simp, HB5.out⟩
            case rest =>
              obtain ⟨rfl, hb⟩ := hcut
              have HB6 := hid (HBT.out _ hb)
              have HB7 := hid (HBV.out _ hb)
              clear hb
              cases qq with
              | true =>
                have HE := hid (HBAD.out (may_bad3 (by rw [HI.out, HDS.out, HOK.out]; rfl)))
                go_wp2
                go_ret
                exact ⟨by rw [HE.out]; rfl, HB7.out⟩
              | false =>
                have HEE := hid (show goalsS s = diffA (s.to.take (i + 1)) (s.to.drop (i + 1)) by rw [HI.out, HDS.out, HOK.out]; rfl)
                go_wp2
                go_roundw
                case rel => first | exact ⟨i + 1, by omega, by go_num, HB6, HEE⟩ | ((repeat apply Exists.intro); exact ⟨⟨i + 1, by omega, by go_num, HB6, HEE⟩, rfl⟩) | (refine ⟨trivial, ?_⟩; (repeat apply Exists.intro); exact ⟨⟨i + 1, by omega, by go_num, HB6, HEE⟩, rfl⟩)
                case measure => simp [intOf]; omega
          · have HE := hid (HBAD.out (may_bad3 (by rw [HI.out, HDS.out, HAD.out]; simp [hzz])))
            have hz3 : zz = 1 ∨ zz = 3 := by
              rcases HZX.out with h | h | h
              · exact absurd h hzz
              · exact .inl h
              · exact .inr h
            clear hzz
            go_wp2
            rcases hz3 with rfl | rfl
            all_goals
              go_cut [82] (fun c wx => c = .bool true ∧ Below wr.heap.size wr wx)
              case first =>
                refine wp_region_held_drew (S := fun w' => w'.cell? ⟨w.heap.size, 3, none⟩ = some (.slice (some ⟨P, o, none⟩) s.to.length c) ∧ w'.cell? ⟨P, o + i * 2, none⟩ = some (.string (S x.1)) ∧ w'.cell? ⟨P, o + i * 2 + 1, none⟩ = some (.string (S x.2))) (by kernel_rfl) ?_ (fun hHeld => ?_)
                · exact ⟨t3, e0, e1⟩
                refine wpAnyH_take (i := 0) (v := ?v0) rfl (by kernel_rfl) (by kernel_rfl) (by kernel_rfl) (fun _ _ _ h => h) (Or.inl ⟨by rfl, ?hy0⟩) (by assumption) ?_
                case hy0 =>
                  intro w hSw
                  (try dsimp only at hSw)
                  go_simp
                  all_goals with_reducible rfl
                change wpAnyH _ _ _ _ _ _ _ (Act.put _ (some 64) _) _
                try simp only [Act.put, List.setIfInBounds_toArray, List.set_cons_zero, List.set_cons_succ]
                refine wpAnyH_take (i := 1) (v := ?v1) rfl (by kernel_rfl) (by kernel_rfl) (by kernel_rfl) (fun _ _ _ h => h) (Or.inl ⟨by rfl, ?hy1⟩) (by assumption) ?_
                case hy1 =>
                  intro w hSw
                  (try dsimp only at hSw)
                  go_simp
                  all_goals with_reducible rfl
                change wpAnyH _ _ _ _ _ _ _ (Act.put _ (some 65) _) _
                try simp only [Act.put, List.setIfInBounds_toArray, List.set_cons_zero, List.set_cons_succ]
                refine wpAnyH_take (i := 2) (v := ?v2) rfl (by kernel_rfl) (by kernel_rfl) (by kernel_rfl) (fun _ _ _ h => h) (Or.inl ⟨by rfl, ?hy2⟩) (by assumption) ?_
                case hy2 =>
                  intro w hSw
                  (try dsimp only at hSw)
                  go_simp
                  all_goals with_reducible rfl
                change wpAnyH _ _ _ _ _ _ _ (Act.put _ (some 66) _) _
                try simp only [Act.put, List.setIfInBounds_toArray, List.set_cons_zero, List.set_cons_succ]
                refine wpAnyH_take (i := 3) (v := ?v3) rfl (by kernel_rfl) (by kernel_rfl) (by kernel_rfl) (fun _ _ _ h => h) (Or.inl ⟨by rfl, ?hy3⟩) (by assumption) ?_
                case hy3 =>
                  intro w hSw
                  (try dsimp only at hSw)
                  go_simp
                  all_goals with_reducible rfl
                change wpAnyH _ _ _ _ _ _ _ (Act.put _ (some 67) _) _
                try simp only [Act.put, List.setIfInBounds_toArray, List.set_cons_zero, List.set_cons_succ]
                refine wpAnyH_take (i := 4) (v := ?v4) rfl (by kernel_rfl) (by kernel_rfl) (by kernel_rfl) (fun _ _ _ h => h) (Or.inl ⟨by rfl, ?hy4⟩) (by assumption) ?_
                case hy4 =>
                  intro w hSw
                  (try dsimp only at hSw)
                  go_simp
                  all_goals with_reducible rfl
                change wpAnyH _ _ _ _ _ _ _ (Act.put _ (some 68) _) _
                try simp only [Act.put, List.setIfInBounds_toArray, List.set_cons_zero, List.set_cons_succ]
                refine wpAnyH_ready (rs := [5]) (by kernel_rfl) (by simp) ?_
                refine AllReadyH.cons rfl (fun K hK => ?_) AllReadyH.nil
                go_simp
                refine (HCK.out _).mono ?_
                rintro e w3 ⟨rfl, hb⟩
                have hb2 : Below wr.heap.size wr w3 := (Below.refl _ _).drew.trans hb
                have HB4 := hid hb2
                have k0 := wcell_next t3 hb2
                have k1 := wcell_next e0 hb2
                have k2 := wcell_next e1 hb2
                clear hb hb2
                go_wp2_with fail
                refine hK.out _ _ ⟨k0, k1, k2⟩ (fun hHeld => ?_)
                clear hK K
                try simp only [Act.put, List.setIfInBounds_toArray, List.set_cons_zero, List.set_cons_succ]
                refine wpAnyH_take (i := 6) (v := ?v6) rfl (by kernel_rfl) (by kernel_rfl) (by kernel_rfl) (fun _ _ _ h => h) (Or.inl ⟨by rfl, ?hy6⟩) (by assumption) ?_
                case hy6 =>
                  intro w hSw
                  (try dsimp only at hSw)
                  go_simp
                  all_goals with_reducible rfl
                change wpAnyH _ _ _ _ _ _ _ (Act.put _ (some 70) _) _
                try simp only [Act.put, List.setIfInBounds_toArray, List.set_cons_zero, List.set_cons_succ]
                refine wpAnyH_take (i := 7) (v := ?v7) rfl (by kernel_rfl) (by kernel_rfl) (by kernel_rfl) (fun _ _ _ h => h) (Or.inl ⟨by rfl, ?hy7⟩) (by assumption) ?_
                case hy7 =>
                  intro w hSw
                  (try dsimp only at hSw)
                  go_simp
                  all_goals with_reducible rfl
                change wpAnyH _ _ _ _ _ _ _ (Act.put _ (some 71) _) _
                try simp only [Act.put, List.setIfInBounds_toArray, List.set_cons_zero, List.set_cons_succ]
                refine wpAnyH_take (i := 8) rfl (by kernel_rfl) (by kernel_rfl) (by kernel_rfl) (fun _ _ _ h => h) (Or.inr ⟨by kernel_rfl, rfl⟩) (by assumption) ?_
                change wpAnyH _ _ _ _ _ _ _ (Act.put _ (some 72) _) _
                try simp only [Act.put, List.setIfInBounds_toArray, List.set_cons_zero, List.set_cons_succ]
                refine wpAnyH_take (i := 9) rfl (by kernel_rfl) (by kernel_rfl) (by kernel_rfl) (fun _ _ _ h => h) (Or.inr ⟨by kernel_rfl, rfl⟩) (by assumption) ?_
                change wpAnyH _ _ _ _ _ _ _ (Act.put _ (some 73) _) _
                try simp only [Act.put, List.setIfInBounds_toArray, List.set_cons_zero, List.set_cons_succ]
                refine wpAnyH_take (i := 10) rfl (by kernel_rfl) (by kernel_rfl) (by kernel_rfl) (fun _ _ _ h => h) (Or.inr ⟨by kernel_rfl, rfl⟩) (by assumption) ?_
                change wpAnyH _ _ _ _ _ _ _ (Act.put _ (some 74) _) _
                try simp only [Act.put, List.setIfInBounds_toArray, List.set_cons_zero, List.set_cons_succ]
                refine wpAnyH_take (i := 11) rfl (by kernel_rfl) (by kernel_rfl) (by kernel_rfl) (fun _ _ _ h => h) (Or.inr ⟨by kernel_rfl, rfl⟩) (by assumption) ?_
                change wpAnyH _ _ _ _ _ _ _ (Act.put _ (some 75) _) _
                try simp only [Act.put, List.setIfInBounds_toArray, List.set_cons_zero, List.set_cons_succ]
                refine wpAnyH_take (i := 12) rfl (by kernel_rfl) (by kernel_rfl) (by kernel_rfl) (fun _ _ _ h => h) (Or.inr ⟨by kernel_rfl, rfl⟩) (by assumption) ?_
                change wpAnyH _ _ _ _ _ _ _ (Act.put _ (some 76) _) _
                try simp only [Act.put, List.setIfInBounds_toArray, List.set_cons_zero, List.set_cons_succ]
                refine wpAnyH_take (i := 13) rfl (by kernel_rfl) (by kernel_rfl) (by kernel_rfl) (fun _ _ _ h => h) (Or.inr ⟨by kernel_rfl, rfl⟩) (by assumption) ?_
                change wpAnyH _ _ _ _ _ _ _ (Act.put _ (some 77) _) _
                try simp only [Act.put, List.setIfInBounds_toArray, List.set_cons_zero, List.set_cons_succ]
                refine wpAnyH_take (i := 14) rfl (by kernel_rfl) (by kernel_rfl) (by kernel_rfl) (fun _ _ _ h => h) (Or.inr ⟨by kernel_rfl, rfl⟩) (by assumption) ?_
                change wpAnyH _ _ _ _ _ _ _ (Act.put _ (some 78) _) _
                try simp only [Act.put, List.setIfInBounds_toArray, List.set_cons_zero, List.set_cons_succ]
                refine wpAnyH_take (i := 15) rfl (by kernel_rfl) (by kernel_rfl) (by kernel_rfl) (fun _ _ _ h => h) (Or.inr ⟨by kernel_rfl, rfl⟩) (by assumption) ?_
                change wpAnyH _ _ _ _ _ _ _ (Act.put _ (some 79) _) _
                try simp only [Act.put, List.setIfInBounds_toArray, List.set_cons_zero, List.set_cons_succ]
                refine wpAnyH_take (i := 16) rfl (by kernel_rfl) (by kernel_rfl) (by kernel_rfl) (fun _ _ _ h => h) (Or.inr ⟨by kernel_rfl, rfl⟩) (by assumption) ?_
                change wpAnyH _ _ _ _ _ _ _ (Act.put _ (some 80) _) _
                try simp only [Act.put, List.setIfInBounds_toArray, List.set_cons_zero, List.set_cons_succ]
                refine wpAnyH_take (i := 17) rfl (by kernel_rfl) (by kernel_rfl) (by kernel_rfl) (fun _ _ _ h => h) (Or.inr ⟨by kernel_rfl, rfl⟩) (by assumption) ?_
                change wpAnyH _ _ _ _ _ _ _ (Act.put _ (some 81) _) _
                try simp only [Act.put, List.setIfInBounds_toArray, List.set_cons_zero, List.set_cons_succ]
                refine wpAnyH_take (i := 18) (v := ?v18) rfl (by kernel_rfl) (by kernel_rfl) (by kernel_rfl) (fun _ _ _ h => h) (Or.inl ⟨by rfl, ?hy18⟩) (by assumption) ?_
                case hy18 =>
                  intro w hSw
                  (try dsimp only at hSw)
                  go_simp
                  all_goals with_reducible rfl
                change wpAnyH _ _ _ _ _ _ _ (Act.put _ (some 82) _) _
                try simp only [Act.put, List.setIfInBounds_toArray, List.set_cons_zero, List.set_cons_succ]
                refine wpAnyH_done (by kernel_rfl) ?_ _
                go_wp2_with fail
                go_meet
                exact ⟨by first | rfl | simp, HB4.out⟩
              case rest =>
                obtain ⟨rfl, hb⟩ := hcut
                have HB7 := hid (HBV.out _ hb)
                clear hb
                go_wp2
                go_ret
                exact ⟨by rw [HE.out]; rfl, HB7.out⟩
        · have i1 : ¬ (i : Int) < (s.to.length : Int) := by omega
          have HGT := hid (show goalsS s = true by rw [HI.out, List.drop_eq_nil_of_le (by omega)]; rfl)
          have HMD := hid (show mayS s = textS s by rw [HMC.out, HGT.out]; rfl)
          by_cases h4 : k = 4
          · have HE := hid (show R = 0 by rw [HR.out, HMD.out, HTX.out, if_pos h4]; simp; omega)
            subst h4
            go_wp2
            go_ret
            exact ⟨by rw [HE.out]; rfl, HBX.out⟩
          · have h4' : (k != 4) = true := by simp [h4]
            have n3 := HN3.out
            cases e3 : s.text.isEmpty with
            | false =>
              rw [e3] at n3
              have n3' : ¬ (S s.text).toList = [] := fun e => by rw [e] at n3; cases n3
              have HE := hid (show R = 11 by rw [HR.out, HMD.out, HTX.out, if_neg h4, e3]; rfl)
              clear e3 h4
              go_wp2
              go_ret
              exact ⟨by rw [HE.out]; rfl, HBX.out⟩
            | true =>
              rw [e3] at n3
              have n3' : (S s.text).toList = [] := List.isEmpty_iff.1 n3
              have HE := hid (show R = if g = true then 11 else 0 by rw [HR.out, HMD.out, HTX.out, if_neg h4, e3]; cases g <;> rfl)
              clear e3 h4
              cases g
              all_goals
                go_wp2
                go_ret
                exact ⟨by rw [HE.out]; rfl, HBX.out⟩
end Go.Proofs.Ytkdmccgfehmoaaa
