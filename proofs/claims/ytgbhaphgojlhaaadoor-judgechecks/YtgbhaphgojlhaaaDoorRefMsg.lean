/-
  What postroomref.MessageOf does: the walk.
-/
import Derived.Test.YtgbhaphgojlhaaaDoorRefIs
import Derived.Test.YtgbhaphgojlhaaaDoorLetParseX
import Derived.Deep.RegionLaw
namespace Go.Proofs.YtgbhaphgojlhaaaDoor
open Go.RowKit

theorem endAt_some {l a b : List UInt8} {k : Nat} (h : l.drop k = a ++ [13, 10] ++ b) (ha : hasEnd a = false) : endAt l k = ((k + a.length : Nat) : Int) := by
  unfold endAt
  rw [h, if_pos (hasEnd_yes a b), index_line ha]
  simp
theorem endAt_none {l : List UInt8} {k : Nat} (h : hasEnd (l.drop k) = false) : endAt l k = -1 := by
  unfold endAt; rw [h]; simp
theorem extract_mid (s : ByteArray) (k e : Nat) : (s.extract k e).data.toList = (s.data.toList.drop k).take (e - k) := by
  simp only [ByteArray.data_extract, Array.toList_extract]
theorem extract_tail (s : ByteArray) (k : Nat) : (s.extract k s.size).data.toList = s.data.toList.drop k := by
  rw [extract_mid, List.take_of_length_le]
  rw [List.length_drop, size_list]
  exact Nat.le_refl _

set_option maxHeartbeats 8000000 in
set_option maxRecDepth 100000 in
theorem messageOf_any (s : ByteArray) (w : World) (hs : s.size ≤ maxLen) :
    Calls Tryd.prog 29 #[.string s] w fun e w' => ∃ a c, e = .returned (parseV (parseM s.data.toList) a c) ∧ FieldsAt w' a (parseM s.data.toList).1 ∧ Below w.heap.size w w' := by
  unfold maxLen at hs
  have hB0 : Below w.heap.size w (w.alloc (.cells #[.slice none 0 0, .string ⟨#[]⟩] 46)) := (Below.refl _ _).alloc (Nat.le_refl _) _
  by_cases hbig : 2000 < s.size
  · have HP : Hid (parseM s.data.toList = ([], [], 0, 1)) := by unfold Hid parseM; rw [size_list, if_pos hbig]
    go_enter Tryd.func29, Tryd.ntmps29
    go_wp2
    exact bodyPost_ret (v := .tuple #[.agg #[.slice none 0 0, .string ⟨#[]⟩], .int .i64 0, .int .i64 1]) (by simp [results, Tryd.results29, go_sem]) rfl ⟨none, 0, by rw [parseV_bad HP.out], by rw [HP.out]; exact fields_nil _ _, by first | exact hB0 | exact (hB0.setCell (by simp) _).setCell (by simp) _⟩
  · have HP : Hid (parseM s.data.toList = parseR 0 [] s.data.toList) := by unfold Hid parseM; rw [size_list, if_neg hbig]
    have hs2 : s.size ≤ 2000 := by omega
    clear hs hbig
    go_enter Tryd.func29, Tryd.ntmps29
    go_wp2
    go_loopw [5, 6, 7] (fun v i l wr => ∃ (k : Nat) (raw : List F) (p : Nat), i = .int .i64 k ∧ l = .int .i64 p ∧ OwnF wr (w.heap.size + 1) v raw ∧ raw.length ≤ 30 ∧ k ≤ s.size ∧ p + (s.size - k) ≤ 2000 ∧ Hid (∀ f ∈ raw, f.2.length + (s.size - k) ≤ 2000) ∧ Hid (parseM s.data.toList = parseR p raw (s.data.toList.drop k)) ∧ Below (w.heap.size + 1) (w.alloc (.cells #[.slice none 0 0, .string ⟨#[]⟩] 46)) wr) (fun _ i _ _ => s.size - (intOf i).toNat)
    case atStart => exact ⟨0, [], 0, rfl, rfl, OwnF.nil _ _, by simp, by omega, by omega, by simp [Hid], by unfold Hid; rw [List.drop_zero]; exact HP.out, Below.refl _ _⟩
    case round =>
      obtain ⟨k, raw, p, rfl, rfl, hO, hr, hk, hpx, HB, HR, hB⟩ := hrel
      clear HP
      obtain ⟨a0, c0, rfl⟩ := hO.any
      have hz := hB.size
      simp only [World.size_alloc] at hz
      have hB1 : Below w.heap.size w wr := hB0.trans (hB.mono (by omega))
      have q0 : wr.cell? ⟨w.heap.size, 0, none⟩ = some (.slice none 0 0) := (hB.cell (by simp)).trans (by simp)
      have q1 : wr.cell? ⟨w.heap.size, 1, none⟩ = some (.string ⟨#[]⟩) := (hB.cell (by simp)).trans (by simp)
      have q2 : wr.frozen? ⟨w.heap.size, 0, none⟩ = false := (hB.frozen (by simp)).trans (by simp)
      have q3 : wr.frozen? ⟨w.heap.size, 1, none⟩ = false := (hB.frozen (by simp)).trans (by simp)
      cases hE : hasEnd (s.data.toList.drop k) with
      | false =>
        have HE : Hid _ := endAt_none hE
        have HQ : Hid (parseM s.data.toList = ([], [], (p : Int), 4)) := by unfold Hid; rw [HR.out]; exact parse_short hE
        clear hE
        go_wp2_with fail
        refine (lineEnd_any s k _ (by omega) hk).mono ?_
        rintro e u ⟨rfl, hu⟩
        have hu' := hu.symm
        subst hu'
        rw [HE.out]
        go_wp2
        exact bodyPost_ret (v := .tuple #[.agg #[.slice none 0 0, .string ⟨#[]⟩], .int .i64 p, .int .i64 4]) (by simp [results, Tryd.results29, go_sem, q0, q1]) rfl ⟨none, 0, by rw [parseV_bad HQ.out], by rw [HQ.out]; exact fields_nil _ _, by first | exact hB1 | exact (hB1.setCell (by simp) _).setCell (by simp) _⟩
      | true =>
        obtain ⟨a, b, hab, ha⟩ := cut_some hE
        have hlen : s.size - k = a.length + 2 + b.length := by
          have := congrArg List.length hab
          rw [List.length_drop, size_list] at this
          simp at this; omega
        obtain ⟨E, hEk⟩ : ∃ E, E = k + a.length := ⟨_, rfl⟩
        have HE : Hid (endAt s.data.toList k = (E : Int)) := by unfold Hid; rw [hEk]; exact endAt_some hab ha
        have hE1 : k ≤ E := by omega
        have hE2 : E + 2 ≤ s.size := by omega
        have j0 : (0 : Int) ≤ (k : Int) := by omega
        have j1 : (k : Int) ≤ (E : Int) := by omega
        have j2 : (E : Int) ≤ (s.size : Int) := by omega
        have j3 : ¬ (E : Int) < 0 := by omega
        have hTa : (s.extract k E).data.toList = a := by
          rw [extract_mid, hab, hEk]; simp
        have hTb : s.data.toList.drop (E + 2) = b := by
          have e : E + 2 = k + (a.length + 2) := by omega
          rw [e, ← List.drop_drop, hab, List.append_assoc, ← List.drop_drop]; simp
        have hTs : (s.extract k E).size = a.length := by rw [← size_list, hTa]
        clear hE
        by_cases h0 : a = []
        · have HQ : Hid (parseM s.data.toList = (raw.map trimF, b, 0, 0)) := by
            unfold Hid; rw [HR.out, hab, h0, List.nil_append]; exact parse_end _ _ _
          have hem : (s.extract k E).toList.isEmpty = true := by rw [Lib.toList_data, hTa, h0]; rfl
          have HBD : Hid (s.extract (E + 2) s.size = S b) := by unfold Hid; rw [← S_list (s.extract (E + 2) s.size), extract_tail, hTb]
          have HSm : Hid (∀ f ∈ raw, (S f.2).size ≤ 2000000) := by
            intro f hf; rw [size_S]; have := HB.out f hf; omega
          have hFo := OwnF.fields hO
          have j4 : (0 : Int) ≤ (E : Int) + 2 := by omega
          have j5 : (E : Int) + 2 ≤ (s.size : Int) := by omega
          have hw2 : ((E : Int) + 2).toNat = E + 2 := by omega
          obtain ⟨i0, hi, hz0, hz1, hz2⟩ := info_parts infoField
          obtain ⟨wo, hwo⟩ : ∃ wo, wo = wr := ⟨_, rfl⟩
          subst hwo
          clear hab hTa hTb hTs hlen h0 hO HB HR hEk
          go_wp2_with fail
          refine (lineEnd_any s k _ (by omega) hk).mono ?_
          rintro e u ⟨rfl, hu⟩
          have hu' := hu.symm
          subst hu'
          rw [HE.out]
          go_wp2
          go_loopw [12] (fun i wq => ∃ (j : Nat) (a1 : Option Addr) (c1 : Nat), j ≤ raw.length ∧ i = .int .i64 j ∧ wq.cell? ⟨wo.heap.size, 0, none⟩ = some (.slice a1 j c1) ∧ OwnF wq (wo.heap.size + 1) (.slice a1 j c1) ((raw.take j).map trimF) ∧ wq.cell? ⟨wo.heap.size, 1, none⟩ = some (.string (s.extract (E + 2) s.size)) ∧ (∀ o, wq.frozen? ⟨wo.heap.size, o, none⟩ = false) ∧ Below wo.heap.size wo wq ∧ wo.heap.size + 1 ≤ wq.heap.size) (fun i _ => raw.length - (intOf i).toNat)
          case atStart => exact ⟨0, none, 0, Nat.zero_le _, rfl, by simp, by simpa using OwnF.nil _ _, by simp, by intro o; simp, (Below.refl _ _).alloc (Nat.le_refl _) _, by simp⟩
          case round =>
            obtain ⟨j, a1, c1, hj, rfl, m0, hO2, m1, zf, hBo, hsz⟩ := hrel
            by_cases hlt : j < raw.length
            · obtain ⟨f, hf⟩ : ∃ f, raw[j]? = some f := ⟨_, List.getElem?_eq_getElem hlt⟩
              obtain ⟨b1, off, rfl, hbl, h1, h2⟩ := (hFo.below hBo) j f hf
              have hbl0 : b1 < wo.heap.size := by
                obtain ⟨b', off', e, hb', _⟩ := hFo j f hf
                simp only [Option.some.injEq, Addr.mk.injEq, and_true] at e
                omega
              have hsf := HSm.out f (List.mem_of_getElem? hf)
              have HSf : Hid _ := hsf
              have hlm : ((raw.take j).map trimF).length = j := by simp; omega
              have HM : Hid ((raw.take (j + 1)).map trimF = (raw.take j).map trimF ++ [trimF f]) := by unfold Hid; rw [take_some hf, List.map_append]; rfl
              have HK : Hid _ := hlm
              have hO' : World.ownsRow (wr.drew) (wo.heap.size + 1) 63 2 (.slice a1 j c1) j (cellsF ((raw.take j).map trimF)) := by
                have := hO2; unfold OwnF at this; rw [HK.out] at this; exact this
              have hrow : ∀ q, (Value.slice a1 j c1).ownBlock = some q → wo.heap.size + 1 ≤ q := fun q hq => (World.ownsRow.lt hO' q hq).1
              have i1 : (0 : Int) ≤ (j : Int) := by omega
              have i2 : (j : Int) < (raw.length : Int) := by omega
              have hszd : wo.heap.size + 1 ≤ wr.drew.heap.size := hsz
              have hszl : wo.heap.size < wr.heap.size := by omega
              clear hf hsf hO2 hlm
              go_wp2_with fail
              go_region_law
                (first
                  | (refine step_append_lies _ (by rfl) _ _ _ (by rfl) (wo.heap.size + 1) 63 i0 _ 2 32 Tryd.underlying44 hi hz0 hz1 hz2 rfl (by omega) (.slice a1 j c1) j (cellsF ((raw.take j).map trimF)) (by rfl) (by first | exact World.ownsRow.alloc hO' _ | exact (World.ownsRow.alloc (show World.ownsRow wr _ _ _ _ _ _ from hO') _).drew)
                      ⟨wr.heap.size, 0, none⟩ 1 1 [.string (S f.1), .string (S (trimW f.2))] (by rfl) (by rfl) (by first | exact cell_pair_new _ _ _ _ | exact cell_pair_new wr _ _ _) (by simp [Value.oneCell']) (by omega) (by unfold maxLen; omega) (by omega) (by simp; omega) _ rfl ?_
                     intro g cap w3 hown3 hgrow hat hlt3
                     obtain ⟨hB3⟩ : Nonempty (PLift (Below (wo.heap.size + 1) wr w3)) := by
                       first
                         | exact ⟨⟨(((Below.refl (wo.heap.size + 1) wr).alloc hsz _).drew).grown hgrow (by simp; omega) hrow⟩⟩
                         | exact ⟨⟨(((Below.refl (wo.heap.size + 1) wr).drew).alloc hsz _).grown hgrow (by simp; omega) hrow⟩⟩
                     have z3 : w3.frozen? ⟨wo.heap.size, 0, none⟩ = false := (hB3.down.frozen (by simp)).trans (zf 0)
                     have y0 : w3.cell? ⟨wo.heap.size, 0, none⟩ = some (.slice a1 j c1) := (hB3.down.cell (by simp)).trans m0
                     clear hgrow)
                  | (go_simp
                     go_at_call 44
                     refine (trimmed_is f.2 (trimW f.2) rfl HSf.out _).mono ?_
                     rintro e u ⟨rfl, hu⟩
                     have hu' := hu.symm
                     subst hu'))
              all_goals
                have y1 : w3.cell? ⟨wo.heap.size, 1, none⟩ = some (.string (s.extract (E + 2) s.size)) := (hB3.down.cell (by simp)).trans m1
                have hsz3 : wo.heap.size + 1 ≤ w3.heap.size := Nat.le_trans hsz hB3.down.size
                have HO : Hid (OwnF (w3.setCell ⟨wo.heap.size, 0, none⟩ (.slice (some ⟨g, 0, none⟩) (j + 1) cap)) (wo.heap.size + 1) (.slice (some ⟨g, 0, none⟩) (j + 1) cap) ((raw.take (j + 1)).map trimF)) := by
                  refine OwnF.far ?_ (by simp) _
                  unfold OwnF
                  rw [HM.out, cellsF_append, cellsF_one, List.length_append, HK.out]
                  exact hown3
                have HH : Hid _ := And.intro (World.cell?_setCell_same' w3 ⟨wo.heap.size, 0, none⟩ (.slice (some ⟨g, 0, none⟩) (j + 1) cap) (by rw [y0]; rfl)) (And.intro ((World.cell?_setCell_other w3 ⟨wo.heap.size, 0, none⟩ ⟨wo.heap.size, 1, none⟩ (.slice (some ⟨g, 0, none⟩) (j + 1) cap) (by simp)).trans y1) (And.intro (fun o => show (w3.setCell ⟨wo.heap.size, 0, none⟩ (.slice (some ⟨g, 0, none⟩) (j + 1) cap)).frozen? ⟨wo.heap.size, o, none⟩ = false by have := (hB3.down.frozen (p := ⟨wo.heap.size, o, none⟩) (by simp)).trans (zf o); simpa using this) ((hBo.trans (hB3.down.mono (by omega))).setCell (p := ⟨wo.heap.size, 0, none⟩) (by simp) (.slice (some ⟨g, 0, none⟩) (j + 1) cap))))
                clear hown3 zf
                go_wp2
                go_roundw
                case rel => first | exact ⟨j + 1, some ⟨g, 0, none⟩, cap, by omega, by go_num, HH.out.1, HO.out, HH.out.2.1, HH.out.2.2.1, HH.out.2.2.2, by simpa using hsz3⟩ | ((repeat apply Exists.intro); exact ⟨⟨j + 1, some ⟨g, 0, none⟩, cap, by omega, by go_num, HH.out.1, HO.out, HH.out.2.1, HH.out.2.2.1, HH.out.2.2.2, by simpa using hsz3⟩, rfl⟩) | (refine ⟨trivial, ?_⟩; (repeat apply Exists.intro); exact ⟨⟨j + 1, some ⟨g, 0, none⟩, cap, by omega, by go_num, HH.out.1, HO.out, HH.out.2.1, HH.out.2.2.1, HH.out.2.2.2, by simpa using hsz3⟩, rfl⟩)
                case measure => simp [intOf]; omega
            · have HT : Hid ((raw.take j).map trimF = raw.map trimF) := by unfold Hid; rw [List.take_of_length_le (by omega)]
              have hjl : j = raw.length := by omega
              have hml : (raw.map trimF).length = j := by simp [hjl]
              have HO : Hid (OwnF wr (wo.heap.size + 1) (.slice a1 (raw.map trimF).length c1) (raw.map trimF)) := by unfold Hid; rw [hml, ← HT.out]; exact hO2
              have HL : Hid _ := hml
              have r0 : wr.cell? ⟨w.heap.size, 0, none⟩ = some (.slice none 0 0) := cell_next q0 hBo
              have r1 : wr.cell? ⟨w.heap.size, 1, none⟩ = some (.string ⟨#[]⟩) := cell_next q1 hBo
              have hzo : w.heap.size < wo.heap.size := by omega
              have r2 : wr.frozen? ⟨w.heap.size, 0, none⟩ = false := (hBo.frozen (by simpa using hzo)).trans q2
              have r3 : wr.frozen? ⟨w.heap.size, 1, none⟩ = false := (hBo.frozen (by simpa using hzo)).trans q3
              have hBf := bnext hB1 hBo (Nat.le_refl _)
              clear hO2 hml hjl
              go_wp2
              refine bodyPost_ret (v := .tuple #[.agg #[.slice a1 j c1, .string (s.extract (E + 2) s.size)], .int .i64 0, .int .i64 0]) (by simp [results, Tryd.results29, go_sem, r0, r1]) rfl ⟨a1, c1, ?_, ?_, (hBf.setCell (by simp) _).setCell (by simp) _⟩
              · rw [HQ.out, HBD.out]; unfold parseV; rw [HL.out]
              · rw [HQ.out]
                refine OwnF.fields (B := wo.heap.size + 1) (c := c1) ?_
                exact (HO.out.far (p := ⟨w.heap.size, 0, none⟩) (by simp; omega) _).far (p := ⟨w.heap.size, 1, none⟩) (by simp; omega) _
        · have hap : 0 < a.length := List.length_pos_iff.2 h0
          have hT0 : 0 < (s.extract k E).size := by rw [hTs]; exact hap
          have hne : (s.extract k E).toList.isEmpty = false := by
            rw [Lib.toList_data, hTa]; cases a with | nil => exact absurd rfl h0 | cons c t => rfl
          obtain ⟨Bv, hBv⟩ : ∃ Bv, (a.head?.map blankB).getD false = Bv := ⟨_, rfl⟩
          have HBl : Hid (∀ h, blankB ((s.extract k E)[0]'h) = Bv) := by
            intro h
            have e : a.head? = some ((s.extract k E)[0]'h) := by rw [← hTa, List.head?_eq_getElem?]; exact get_list _ 0 h
            rw [← hBv, e]; rfl
          have hTz : (s.extract k E).size ≤ 2000 := by omega
          have hkE : k < E := by omega
          have hkE0 : 0 < E - k := by omega
          have hmin : min E s.size = E := by omega
          cases hg : goesOn raw a with
          | true =>
            have hBt : Bv = true := by rw [← hBv]; unfold goesOn at hg; simp only [Bool.and_eq_true] at hg; exact hg.2
            subst hBt
            have hr0 : raw ≠ [] := by rintro rfl; simp [goesOn] at hg
            have hrp : 0 < raw.length := List.length_pos_iff.2 hr0
            obtain ⟨g, cap, e, hBg, hgl⟩ := hO.form hr0
            simp only [Value.slice.injEq, true_and] at e
            obtain ⟨rfl, rfl⟩ := e
            obtain ⟨f, hf⟩ : ∃ f, raw[raw.length - 1]? = some f := ⟨_, List.getElem?_eq_getElem (by omega)⟩
            obtain ⟨bb, off, hae, _, h1, h2⟩ := (OwnF.fields hO) _ f hf
            simp only [Option.some.injEq, Addr.mk.injEq, and_true] at hae
            obtain ⟨rfl, rfl⟩ := hae
            rw [Nat.zero_add] at h1 h2
            have hfz : wr.frozen? ⟨g, (raw.length - 1) * 2 + 1, none⟩ = false := World.ownsRow.frozenAt hO _
            have hs2' : (S f.2).size ≤ 2000 := by rw [size_S]; have := HB.out f (List.mem_of_getElem? hf); omega
            have htk : takeF raw a = (addLast raw a, 0) := by unfold takeF; rw [if_pos hg]
            have HQ : Hid (parseM s.data.toList = parseR ((p + 1 : Nat) : Int) (addLast raw a) (s.data.toList.drop (E + 2))) := by
              unfold Hid; rw [HR.out, hab, parse_go ha h0 (by rw [htk]), htk, hTb]; simp
            have hbd := takeF_bd (raw := raw) (a := a) (m := b.length) hr (fun f hf => by have := HB.out f hf; omega) (by omega)
            rw [htk] at hbd
            have HN : Hid _ := hbd
            have HW : Hid (OwnF (wr.setCell ⟨g, (raw.length - 1) * 2 + 1, none⟩ (.string (S f.2 ++ s.extract k E))) (w.heap.size + 1) (.slice (some ⟨g, 0, none⟩) raw.length c0) (addLast raw a)) := by
              have hx : S f.2 ++ s.extract k E = S (f.2 ++ a) := by
                have e : (S f.2 ++ s.extract k E).data.toList = f.2 ++ a := by rw [ByteArray.data_append, Array.toList_append, list_S, hTa]
                rw [← S_list (S f.2 ++ s.extract k E), e]
              have := own_set hO ((raw.length - 1) * 2 + 1) (.string (S f.2 ++ s.extract k E))
              rw [hx, cellsF_set hf, ← addLast_eq hf] at this
              have el : (addLast raw a).length = raw.length := by rw [addLast_eq hf, List.length_set]
              unfold Hid OwnF
              rw [el, hx]
              exact this
            have HB2 : Hid (s.size - (E + 2) = b.length) := by unfold Hid; omega
            have hk1 : ((raw.length : Nat) : Int) - 1 = ((raw.length - 1 : Nat) : Int) := by omega
            clear hab hTa hTb hTs hEk hlen hg hBv hf hO htk hbd h0 hr0
            go_wp2_with fail
            refine (lineEnd_any s k _ (by omega) hk).mono ?_
            rintro e u ⟨rfl, hu⟩
            have hu' := hu.symm
            subst hu'
            rw [HE.out]
            go_wp2_with fail
            refine (blank_any _ _).mono ?_
            rintro e u ⟨rfl, hu⟩
            have hu' := hu.symm
            subst hu'
            rw [HBl.out]
            go_wp2
            go_roundw
            case rel => first | exact ⟨E + 2, addLast raw a, p + 1, by go_num, by go_num, HW.out, HN.out.1, by omega, by have := HB2.out; omega, by unfold Hid; rw [HB2.out]; exact HN.out.2, HQ.out, hB.setCell hBg _⟩ | ((repeat apply Exists.intro); exact ⟨⟨E + 2, addLast raw a, p + 1, by go_num, by go_num, HW.out, HN.out.1, by omega, by have := HB2.out; omega, by unfold Hid; rw [HB2.out]; exact HN.out.2, HQ.out, hB.setCell hBg _⟩, rfl⟩) | (refine ⟨trivial, ?_⟩; (repeat apply Exists.intro); exact ⟨⟨E + 2, addLast raw a, p + 1, by go_num, by go_num, HW.out, HN.out.1, by omega, by have := HB2.out; omega, by unfold Hid; rw [HB2.out]; exact HN.out.2, HQ.out, hB.setCell hBg _⟩, rfl⟩)
            case measure => simp [intOf]; omega
          | false =>
            have HTl : Hid ((s.extract k E).data.toList = a) := hTa
            have HTb : Hid _ := hTb
            have HGo : Hid _ := hg
            have HAb : Hid _ := hab
            have HA0 : Hid (a ≠ []) := h0
            have hcase : Bv = false ∨ (Bv = true ∧ (raw.length : Int) ≤ 0) := by
              cases hBB : Bv with
              | false => exact .inl rfl
              | true =>
                right
                refine ⟨rfl, ?_⟩
                rw [hBB] at hBv
                unfold goesOn at hg
                rw [hBv] at hg
                cases raw with
                | nil => simp
                | cons x t => simp at hg
            have HB2 : Hid (s.size - (E + 2) = b.length) := by unfold Hid; omega
            clear hg hBv hab hTa hTb h0 hTs hEk
            rcases hcase with hBf | ⟨hBt, hrl⟩
            · subst hBf
              go_wp2_with fail
              refine (lineEnd_any s k _ (by omega) hk).mono ?_
              rintro e u ⟨rfl, hu⟩
              have hu' := hu.symm
              subst hu'
              rw [HE.out]
              go_wp2_with fail
              refine (blank_any _ _).mono ?_
              rintro e u ⟨rfl, hu⟩
              have hu' := hu.symm
              subst hu'
              rw [HBl.out]
              go_wp2_with fail
              refine (colonAt_any (s.extract k E) _ (by omega)).mono ?_
              rintro e u ⟨rfl, hu⟩
              have hu' := hu.symm
              subst hu'
              clear HBl
              generalize ((s.extract k E)[0]'hT0) = cb
              obtain ⟨T, hT⟩ : ∃ T, T = s.extract k E := ⟨_, rfl⟩
              rw [← hT] at HTl hTz ⊢
              clear hT
              by_cases hcol : (58 : UInt8) ∈ a
              · obtain ⟨n, v, hnv, hn58⟩ := split_colon hcol
                have HC : Hid (Lib.indexByte T.data.toList 58 = ((n.length : Nat) : Int)) := by unfold Hid; rw [HTl.out, hnv, indexByte_hit hn58]
                have hcut : Lib.cut a [58] = (n, v, true) := by rw [hnv]; exact cut_colon hn58
                obtain ⟨m, hmn⟩ : ∃ m, m = n.length := ⟨_, rfl⟩
                have hTsz : T.size = n.length + 1 + v.length := by rw [← size_list, HTl.out, hnv]; simp; omega
                have hmT : m + 1 ≤ T.size := by omega
                have e1 : (T.extract 0 m).data.toList = n := by rw [extract_mid, HTl.out, hnv, hmn]; simp
                have e2 : (T.extract (m + 1) T.size).data.toList = v := by rw [extract_tail, HTl.out, hnv, hmn, ← List.drop_drop]; simp
                rw [HC.out, ← hmn]
                have j4 : (0 : Int) ≤ (m : Int) := by omega
                have j5 : (m : Int) ≤ (T.size : Int) := by omega
                have j6 : ¬ (m : Int) < 0 := by omega
                have j7 : (m : Int) + 1 ≤ (T.size : Int) := by omega
                have hw1 : IntKind.i64.wrap ((m : Int) + 1) = (m : Int) + 1 := by rw [IntKind.wrap_i64]; omega
                have hw2 : ((m : Int) + 1).toNat = m + 1 := by omega
                have hw3 : (0 : Int) ≤ (m : Int) + 1 := by omega
                have hz1 : (T.extract 0 m).size ≤ 2000 := by rw [← size_list, e1]; omega
                cases hnb : nameB n with
                | false =>
                  have HQ : Hid (parseM s.data.toList = ([], [], (p : Int), 3)) := by
                    have htk : takeF raw a = ([], 3) := by unfold takeF; rw [HGo.out, if_neg (by simp), hcut, if_pos (.inr hnb)]
                    unfold Hid; rw [HR.out, HAb.out, parse_bad ha HA0.out (by rw [htk]; decide), htk]
                  have HNb : Hid (nameB (T.extract 0 m).data.toList = false) := by unfold Hid; rw [e1]; exact hnb
                  clear hcut hTsz e1 e2 hnv hmn hnb
                  go_wp2_with fail
                  refine (nameMay_any (T.extract 0 m) _ (by unfold maxLen; omega)).mono ?_
                  rintro e u ⟨rfl, hu⟩
                  have hu' := hu.symm
                  subst hu'
                  rw [HNb.out]
                  go_wp2
                  exact bodyPost_ret (v := .tuple #[.agg #[.slice none 0 0, .string ⟨#[]⟩], .int .i64 p, .int .i64 3]) (by simp [results, Tryd.results29, go_sem, q0, q1]) rfl ⟨none, 0, by rw [parseV_bad HQ.out], by rw [HQ.out]; exact fields_nil _ _, by first | exact hB1 | exact (hB1.setCell (by simp) _).setCell (by simp) _⟩
                | true =>
                  have HNb : Hid (nameB (T.extract 0 m).data.toList = true) := by unfold Hid; rw [e1]; exact hnb
                  by_cases h30 : raw.length = 30
                  · have HQ : Hid (parseM s.data.toList = ([], [], (p : Int), 5)) := by
                      have htk : takeF raw a = ([], 5) := by unfold takeF; rw [HGo.out, if_neg (by simp), hcut, if_neg (by simp [hnb]), if_pos h30]
                      unfold Hid; rw [HR.out, HAb.out, parse_bad ha HA0.out (by rw [htk]; decide), htk]
                    have hb30 : ((raw.length : Int) == 30) = true := by simp; omega
                    clear hcut hTsz e1 e2 hnv hmn hnb h30
                    go_wp2_with fail
                    refine (nameMay_any (T.extract 0 m) _ (by unfold maxLen; omega)).mono ?_
                    rintro e u ⟨rfl, hu⟩
                    have hu' := hu.symm
                    subst hu'
                    rw [HNb.out]
                    go_wp2
                    exact bodyPost_ret (v := .tuple #[.agg #[.slice none 0 0, .string ⟨#[]⟩], .int .i64 p, .int .i64 5]) (by simp [results, Tryd.results29, go_sem, q0, q1]) rfl ⟨none, 0, by rw [parseV_bad HQ.out], by rw [HQ.out]; exact fields_nil _ _, by first | exact hB1 | exact (hB1.setCell (by simp) _).setCell (by simp) _⟩
                  · have htk : takeF raw a = (raw ++ [(n, v)], 0) := by unfold takeF; rw [HGo.out, if_neg (by simp), hcut, if_neg (by simp [hnb]), if_neg h30]
                    have HQ : Hid (parseM s.data.toList = parseR ((p + 1 : Nat) : Int) (raw ++ [(n, v)]) (s.data.toList.drop (E + 2))) := by
                      unfold Hid; rw [HR.out, HAb.out, parse_go ha HA0.out (by rw [htk]), htk, HTb.out]; simp
                    have hbd := takeF_bd (raw := raw) (a := a) (m := b.length) hr (fun f hf => by have := HB.out f hf; omega) (by omega)
                    rw [htk] at hbd
                    have HN : Hid _ := hbd
                    have hb30 : ((raw.length : Int) == 30) = false := by rw [beq_eq_false_iff_ne]; omega
                    have hr30 : raw.length < 30 := by omega
                    have HS1 : Hid (T.extract 0 m = S n) := by unfold Hid; rw [← S_list (T.extract 0 m), e1]
                    have HS2 : Hid (T.extract (m + 1) T.size = S v) := by unfold Hid; rw [← S_list (T.extract (m + 1) T.size), e2]
                    have hO' : World.ownsRow wr (w.heap.size + 1) 63 2 (.slice a0 raw.length c0) raw.length (cellsF raw) := hO
                    obtain ⟨i0, hi, hz0, hz1', hz2⟩ := info_parts infoField
                    clear hcut hTsz e1 e2 hnv hmn hnb h30 htk hbd
                    go_wp2_with fail
                    refine (nameMay_any (T.extract 0 m) _ (by unfold maxLen; omega)).mono ?_
                    rintro e u ⟨rfl, hu⟩
                    have hu' := hu.symm
                    subst hu'
                    rw [HNb.out]
                    go_wp2
                    go_region_law
                      (refine step_append_lies _ (by rfl) _ _ _ (by rfl) (w.heap.size + 1) 63 i0 _ 2 32 Tryd.underlying44 hi hz0 hz1' hz2 rfl (by omega) (.slice a0 raw.length c0) raw.length (cellsF raw) (by rfl) (by first | exact World.ownsRow.alloc (show World.ownsRow wr.drew _ _ _ _ _ _ from hO') _ | exact (World.ownsRow.alloc hO' _).drew)
                         ⟨wr.heap.size, 0, none⟩ 1 1 [.string (T.extract 0 m), .string (T.extract (m + 1) T.size)] (by rfl) (by rfl) (by first | exact cell_pair_new _ _ _ _ | exact cell_pair_new wr _ _ _) (by simp [Value.oneCell']) (by omega) (by unfold maxLen; omega) (by omega) (by simp; omega) _ rfl ?_
                       intro g cap w3 hown3 hgrow hat hlt3
                       obtain ⟨hB3⟩ : Nonempty (PLift (Below (w.heap.size + 1) wr w3)) := by
                         first
                           | exact ⟨⟨(((Below.refl (w.heap.size + 1) wr).alloc hz _).drew).grown hgrow (by simp; omega) (fun j hj => (World.ownsRow.lt hO' j hj).1)⟩⟩
                           | exact ⟨⟨(((Below.refl (w.heap.size + 1) wr).drew).alloc hz _).grown hgrow (by simp; omega) (fun j hj => (World.ownsRow.lt hO' j hj).1)⟩⟩
                       clear hgrow)
                    all_goals
                      have HO3 : Hid (OwnF w3 (w.heap.size + 1) (.slice (some ⟨g, 0, none⟩) (raw.length + 1) cap) (raw ++ [(n, v)])) := by
                        unfold Hid OwnF
                        rw [cellsF_append, cellsF_one, List.length_append]
                        rw [HS1.out, HS2.out] at hown3
                        exact hown3
                      clear hown3
                      go_wp2
                      go_roundw
                      case rel => first | exact ⟨E + 2, raw ++ [(n, v)], p + 1, by go_num, by go_num, HO3.out, HN.out.1, by omega, by have := HB2.out; omega, by unfold Hid; rw [HB2.out]; exact HN.out.2, HQ.out, hB.trans hB3.down⟩ | ((repeat apply Exists.intro); exact ⟨⟨E + 2, raw ++ [(n, v)], p + 1, by go_num, by go_num, HO3.out, HN.out.1, by omega, by have := HB2.out; omega, by unfold Hid; rw [HB2.out]; exact HN.out.2, HQ.out, hB.trans hB3.down⟩, rfl⟩) | (refine ⟨trivial, ?_⟩; (repeat apply Exists.intro); exact ⟨⟨E + 2, raw ++ [(n, v)], p + 1, by go_num, by go_num, HO3.out, HN.out.1, by omega, by have := HB2.out; omega, by unfold Hid; rw [HB2.out]; exact HN.out.2, HQ.out, hB.trans hB3.down⟩, rfl⟩)
                      case measure => simp [intOf]; omega
              · have HC : Hid (Lib.indexByte T.data.toList 58 = -1) := by unfold Hid; rw [HTl.out]; exact indexByte_miss hcol
                have HQ : Hid (parseM s.data.toList = ([], [], (p : Int), 3)) := by
                  have htk : takeF raw a = ([], 3) := by unfold takeF; rw [HGo.out, if_neg (by simp), cut_nocolon hcol, if_pos (.inl rfl)]
                  unfold Hid; rw [HR.out, HAb.out, parse_bad ha HA0.out (by rw [htk]; decide), htk]
                clear hcol
                rw [HC.out]
                go_wp2
                exact bodyPost_ret (v := .tuple #[.agg #[.slice none 0 0, .string ⟨#[]⟩], .int .i64 p, .int .i64 3]) (by simp [results, Tryd.results29, go_sem, q0, q1]) rfl ⟨none, 0, by rw [parseV_bad HQ.out], by rw [HQ.out]; exact fields_nil _ _, by first | exact hB1 | exact (hB1.setCell (by simp) _).setCell (by simp) _⟩
            · subst hBt
              go_wp2_with fail
              refine (lineEnd_any s k _ (by omega) hk).mono ?_
              rintro e u ⟨rfl, hu⟩
              have hu' := hu.symm
              subst hu'
              rw [HE.out]
              go_wp2_with fail
              refine (blank_any _ _).mono ?_
              rintro e u ⟨rfl, hu⟩
              have hu' := hu.symm
              subst hu'
              rw [HBl.out]
              go_wp2_with fail
              refine (colonAt_any (s.extract k E) _ (by omega)).mono ?_
              rintro e u ⟨rfl, hu⟩
              have hu' := hu.symm
              subst hu'
              clear HBl
              generalize ((s.extract k E)[0]'hT0) = cb
              obtain ⟨T, hT⟩ : ∃ T, T = s.extract k E := ⟨_, rfl⟩
              rw [← hT] at HTl hTz ⊢
              clear hT
              by_cases hcol : (58 : UInt8) ∈ a
              · obtain ⟨n, v, hnv, hn58⟩ := split_colon hcol
                have HC : Hid (Lib.indexByte T.data.toList 58 = ((n.length : Nat) : Int)) := by unfold Hid; rw [HTl.out, hnv, indexByte_hit hn58]
                have hcut : Lib.cut a [58] = (n, v, true) := by rw [hnv]; exact cut_colon hn58
                obtain ⟨m, hmn⟩ : ∃ m, m = n.length := ⟨_, rfl⟩
                have hTsz : T.size = n.length + 1 + v.length := by rw [← size_list, HTl.out, hnv]; simp; omega
                have hmT : m + 1 ≤ T.size := by omega
                have e1 : (T.extract 0 m).data.toList = n := by rw [extract_mid, HTl.out, hnv, hmn]; simp
                have e2 : (T.extract (m + 1) T.size).data.toList = v := by rw [extract_tail, HTl.out, hnv, hmn, ← List.drop_drop]; simp
                rw [HC.out, ← hmn]
                have j4 : (0 : Int) ≤ (m : Int) := by omega
                have j5 : (m : Int) ≤ (T.size : Int) := by omega
                have j6 : ¬ (m : Int) < 0 := by omega
                have j7 : (m : Int) + 1 ≤ (T.size : Int) := by omega
                have hw1 : IntKind.i64.wrap ((m : Int) + 1) = (m : Int) + 1 := by rw [IntKind.wrap_i64]; omega
                have hw2 : ((m : Int) + 1).toNat = m + 1 := by omega
                have hw3 : (0 : Int) ≤ (m : Int) + 1 := by omega
                have hz1 : (T.extract 0 m).size ≤ 2000 := by rw [← size_list, e1]; omega
                cases hnb : nameB n with
                | false =>
                  have HQ : Hid (parseM s.data.toList = ([], [], (p : Int), 3)) := by
                    have htk : takeF raw a = ([], 3) := by unfold takeF; rw [HGo.out, if_neg (by simp), hcut, if_pos (.inr hnb)]
                    unfold Hid; rw [HR.out, HAb.out, parse_bad ha HA0.out (by rw [htk]; decide), htk]
                  have HNb : Hid (nameB (T.extract 0 m).data.toList = false) := by unfold Hid; rw [e1]; exact hnb
                  clear hcut hTsz e1 e2 hnv hmn hnb
                  go_wp2_with fail
                  refine (nameMay_any (T.extract 0 m) _ (by unfold maxLen; omega)).mono ?_
                  rintro e u ⟨rfl, hu⟩
                  have hu' := hu.symm
                  subst hu'
                  rw [HNb.out]
                  go_wp2
                  exact bodyPost_ret (v := .tuple #[.agg #[.slice none 0 0, .string ⟨#[]⟩], .int .i64 p, .int .i64 3]) (by simp [results, Tryd.results29, go_sem, q0, q1]) rfl ⟨none, 0, by rw [parseV_bad HQ.out], by rw [HQ.out]; exact fields_nil _ _, by first | exact hB1 | exact (hB1.setCell (by simp) _).setCell (by simp) _⟩
                | true =>
                  have HNb : Hid (nameB (T.extract 0 m).data.toList = true) := by unfold Hid; rw [e1]; exact hnb
                  by_cases h30 : raw.length = 30
                  · have HQ : Hid (parseM s.data.toList = ([], [], (p : Int), 5)) := by
                      have htk : takeF raw a = ([], 5) := by unfold takeF; rw [HGo.out, if_neg (by simp), hcut, if_neg (by simp [hnb]), if_pos h30]
                      unfold Hid; rw [HR.out, HAb.out, parse_bad ha HA0.out (by rw [htk]; decide), htk]
                    have hb30 : ((raw.length : Int) == 30) = true := by simp; omega
                    clear hcut hTsz e1 e2 hnv hmn hnb h30
                    go_wp2_with fail
                    refine (nameMay_any (T.extract 0 m) _ (by unfold maxLen; omega)).mono ?_
                    rintro e u ⟨rfl, hu⟩
                    have hu' := hu.symm
                    subst hu'
                    rw [HNb.out]
                    go_wp2
                    exact bodyPost_ret (v := .tuple #[.agg #[.slice none 0 0, .string ⟨#[]⟩], .int .i64 p, .int .i64 5]) (by simp [results, Tryd.results29, go_sem, q0, q1]) rfl ⟨none, 0, by rw [parseV_bad HQ.out], by rw [HQ.out]; exact fields_nil _ _, by first | exact hB1 | exact (hB1.setCell (by simp) _).setCell (by simp) _⟩
                  · have htk : takeF raw a = (raw ++ [(n, v)], 0) := by unfold takeF; rw [HGo.out, if_neg (by simp), hcut, if_neg (by simp [hnb]), if_neg h30]
                    have HQ : Hid (parseM s.data.toList = parseR ((p + 1 : Nat) : Int) (raw ++ [(n, v)]) (s.data.toList.drop (E + 2))) := by
                      unfold Hid; rw [HR.out, HAb.out, parse_go ha HA0.out (by rw [htk]), htk, HTb.out]; simp
                    have hbd := takeF_bd (raw := raw) (a := a) (m := b.length) hr (fun f hf => by have := HB.out f hf; omega) (by omega)
                    rw [htk] at hbd
                    have HN : Hid _ := hbd
                    have hb30 : ((raw.length : Int) == 30) = false := by rw [beq_eq_false_iff_ne]; omega
                    have hr30 : raw.length < 30 := by omega
                    have HS1 : Hid (T.extract 0 m = S n) := by unfold Hid; rw [← S_list (T.extract 0 m), e1]
                    have HS2 : Hid (T.extract (m + 1) T.size = S v) := by unfold Hid; rw [← S_list (T.extract (m + 1) T.size), e2]
                    have hO' : World.ownsRow wr (w.heap.size + 1) 63 2 (.slice a0 raw.length c0) raw.length (cellsF raw) := hO
                    obtain ⟨i0, hi, hz0, hz1', hz2⟩ := info_parts infoField
                    clear hcut hTsz e1 e2 hnv hmn hnb h30 htk hbd
                    go_wp2_with fail
                    refine (nameMay_any (T.extract 0 m) _ (by unfold maxLen; omega)).mono ?_
                    rintro e u ⟨rfl, hu⟩
                    have hu' := hu.symm
                    subst hu'
                    rw [HNb.out]
                    go_wp2
                    go_region_law
                      (refine step_append_lies _ (by rfl) _ _ _ (by rfl) (w.heap.size + 1) 63 i0 _ 2 32 Tryd.underlying44 hi hz0 hz1' hz2 rfl (by omega) (.slice a0 raw.length c0) raw.length (cellsF raw) (by rfl) (by first | exact World.ownsRow.alloc (show World.ownsRow wr.drew _ _ _ _ _ _ from hO') _ | exact (World.ownsRow.alloc hO' _).drew)
                         ⟨wr.heap.size, 0, none⟩ 1 1 [.string (T.extract 0 m), .string (T.extract (m + 1) T.size)] (by rfl) (by rfl) (by first | exact cell_pair_new _ _ _ _ | exact cell_pair_new wr _ _ _) (by simp [Value.oneCell']) (by omega) (by unfold maxLen; omega) (by omega) (by simp; omega) _ rfl ?_
                       intro g cap w3 hown3 hgrow hat hlt3
                       obtain ⟨hB3⟩ : Nonempty (PLift (Below (w.heap.size + 1) wr w3)) := by
                         first
                           | exact ⟨⟨(((Below.refl (w.heap.size + 1) wr).alloc hz _).drew).grown hgrow (by simp; omega) (fun j hj => (World.ownsRow.lt hO' j hj).1)⟩⟩
                           | exact ⟨⟨(((Below.refl (w.heap.size + 1) wr).drew).alloc hz _).grown hgrow (by simp; omega) (fun j hj => (World.ownsRow.lt hO' j hj).1)⟩⟩
                       clear hgrow)
                    all_goals
                      have HO3 : Hid (OwnF w3 (w.heap.size + 1) (.slice (some ⟨g, 0, none⟩) (raw.length + 1) cap) (raw ++ [(n, v)])) := by
                        unfold Hid OwnF
                        rw [cellsF_append, cellsF_one, List.length_append]
                        rw [HS1.out, HS2.out] at hown3
                        exact hown3
                      clear hown3
                      go_wp2
                      go_roundw
                      case rel => first | exact ⟨E + 2, raw ++ [(n, v)], p + 1, by go_num, by go_num, HO3.out, HN.out.1, by omega, by have := HB2.out; omega, by unfold Hid; rw [HB2.out]; exact HN.out.2, HQ.out, hB.trans hB3.down⟩ | ((repeat apply Exists.intro); exact ⟨⟨E + 2, raw ++ [(n, v)], p + 1, by go_num, by go_num, HO3.out, HN.out.1, by omega, by have := HB2.out; omega, by unfold Hid; rw [HB2.out]; exact HN.out.2, HQ.out, hB.trans hB3.down⟩, rfl⟩) | (refine ⟨trivial, ?_⟩; (repeat apply Exists.intro); exact ⟨⟨E + 2, raw ++ [(n, v)], p + 1, by go_num, by go_num, HO3.out, HN.out.1, by omega, by have := HB2.out; omega, by unfold Hid; rw [HB2.out]; exact HN.out.2, HQ.out, hB.trans hB3.down⟩, rfl⟩)
                      case measure => simp [intOf]; omega
              · have HC : Hid (Lib.indexByte T.data.toList 58 = -1) := by unfold Hid; rw [HTl.out]; exact indexByte_miss hcol
                have HQ : Hid (parseM s.data.toList = ([], [], (p : Int), 3)) := by
                  have htk : takeF raw a = ([], 3) := by unfold takeF; rw [HGo.out, if_neg (by simp), cut_nocolon hcol, if_pos (.inl rfl)]
                  unfold Hid; rw [HR.out, HAb.out, parse_bad ha HA0.out (by rw [htk]; decide), htk]
                clear hcol
                rw [HC.out]
                go_wp2
                exact bodyPost_ret (v := .tuple #[.agg #[.slice none 0 0, .string ⟨#[]⟩], .int .i64 p, .int .i64 3]) (by simp [results, Tryd.results29, go_sem, q0, q1]) rfl ⟨none, 0, by rw [parseV_bad HQ.out], by rw [HQ.out]; exact fields_nil _ _, by first | exact hB1 | exact (hB1.setCell (by simp) _).setCell (by simp) _⟩
end Go.Proofs.YtgbhaphgojlhaaaDoor
