/-
  A letter that is too long is refused for each to whom it goes, and is nowhere: walked.
-/
import Derived.Test.YtlfgemnmfhknfaaGreatDoorYQPoTp3
import Derived.Laws.OwnMore
namespace Go.Proofs.YtlfgemnmfhknfaaGreatDoor
open Go.RowKit Go.Proofs
theorem jga (m k : Nat) : lgI m (k + 1) = lgI m k ++ if lgB m k = true then [k] else [] := by
  unfold lgI; rw [List.range_succ, List.filter_append]
  congr 1
  cases h : lgB m k <;> simp [List.filter, h]
theorem jm5 (k : Nat) : (⟨#[82, 67, 80, 84, 32, 84, 79, 58, 60]⟩ : ByteArray) ++ S (annL k) ++ ⟨#[64, 98, 62, 13, 10]⟩ = S (lgTo (annL k) ++ crL) := by
  show S [82, 67, 80, 84, 32, 84, 79, 58, 60] ++ S (annL k) ++ S [64, 98, 62, 13, 10] = _
  rw [jhs, jhs]
  simp [lgTo, crL]
theorem jlj {m k : Nat} (h : lgB m k = true) : S (jC (lgH m k)) ++ S (lgTo (annL k) ++ crL) = S (jC (lgH m (k + 1))) ∧ (lgI m (k + 1)).length = (lgI m k).length + 1 := by
  have e := jga m k; rw [if_pos h] at e; refine ⟨?_, by rw [e]; simp⟩; rw [jhs]; unfold lgH; rw [e, List.map_append, ← List.append_assoc, jeC]
  simp [jC]
theorem jm9 {m k : Nat} (h : lgB m k = false) : lgH m (k + 1) = lgH m k ∧ lgI m (k + 1) = lgI m k := by
  have e : lgI m (k + 1) = lgI m k := by rw [jga m k, if_neg (by rw [h]; decide), List.append_nil]
  exact ⟨by unfold lgH; rw [e], e⟩
theorem jiY {m k : Nat} (hm : m < 4) (hk : k ≤ 3) : (jC (lgH m k)).length ≤ 200 ∧ (lgI m k).length ≤ 3 := by
  refine ⟨?_, Nat.le_trans (by unfold lgI; exact List.length_filter_le _ _) (by simpa using hk)⟩; obtain rfl | rfl | rfl | rfl : k = 0 ∨ k = 1 ∨ k = 2 ∨ k = 3 := by omega
  all_goals match m, hm with | 0, _ | 1, _ | 2, _ | 3, _ => decide
def lgAj (m j : Nat) : List Acu := linA 0 (lgD m) :: List.replicate j (linA 0 [xl])
theorem jhV (m j : Nat) : lgAj m (j + 1) = lgAj m j ++ [linA 0 [xl]] := by unfold lgAj; rw [List.replicate_succ']; rfl
theorem jkd (m k : Nat) : lgAj m k ++ [linA 0 [[], [46]], jdp] = lgA m k := rfl
theorem IntsM.at {Q : Nat → Prop} {w : World} {v : Value} {l : List Int} (h : IntsM Q w v l) (hl : 0 < l.length) : ∃ b o c, v = .slice (some ⟨b, o, none⟩) l.length c ∧ ∀ (i : Nat) x, l[i]? = some x → w.cell? ⟨b, o + i, none⟩ = some (.int .i64 x) := by
  obtain ⟨a, c, hv, _, hr⟩ := h; obtain ⟨b, o, cs, ha, _⟩ := hr 0 _ (List.getElem?_eq_getElem hl); refine ⟨b, o, c, by rw [hv, ha], fun i x hx => ?_⟩; obtain ⟨b', o', cs', ha', _, _, _, hc, hP⟩ := hr i x hx; rw [ha] at ha'; cases ha'; have hP : cs' = [.int .i64 x] := hP; have := hc 0 _ (by rw [hP]; rfl)
  simpa using this
theorem jmr {A : Type} (a b : A) (n i : Nat) (x : A) (hi : i < n) : (List.replicate (2 + n) a ++ [x] ++ List.replicate n b)[3 + n + i]? = some b := by
  rw [List.getElem?_append_right (by simp; omega), List.getElem?_replicate, if_pos (by simp; omega)]
set_option linter.unusedSimpArgs false in
set_option maxHeartbeats 8000000 in
set_option maxRecDepth 100000 in
theorem topLarge_walk (w : World) (hm : TabsM w) (n : Int) (hn : (Lit.int .i64 n).wf = true) (who : Int) (hw : (Lit.int .i64 who).wf = true) :
    Calls Tryz.prog 4 #[.int .i64 n, .int .i64 who] w fun e w' => e = .returned (.bool true) ∧ Below w.heap.size w w' := by
  have HM := hid hm; obtain ⟨i0, hi, hz0, hz1, hz2⟩ := info_parts jm0; have h6 := jf7 n 6 (by decide); have h4 := jf7 who 4 (by decide); have HP6 := hid (fun u => jc9 n 6 u hn (by decide) (by decide)); have HP4 := hid (fun u => jc9 who 4 u hw (by decide) (by decide)); generalize jct n 6 = q at *; generalize jct who 4 = p at *; have HXL := hid (show (⟨#[120, 58, 32, 48, 49, 50, 51, 52, 53, 54, 55, 56, 57, 48, 49, 50, 51, 52, 53, 54, 55, 56, 57, 48, 49, 50, 51, 52, 53, 54, 55, 56, 57, 48, 49, 50, 51, 52, 53, 54, 55, 56, 57, 48, 49, 50, 51, 52, 53, 54, 55, 56, 57, 48, 49, 50, 51, 52, 53, 54, 55, 56, 57, 48, 49, 50, 51, 52, 53, 54, 55, 56, 57, 48, 49, 50, 51, 52, 53, 54, 55, 56, 57, 48, 49, 50, 51, 52, 53, 54, 55, 56, 57, 48, 49, 50, 51, 52, 53, 54, 55, 56, 57, 13, 10]⟩ : ByteArray) = S (jC [xl]) by kernel_rfl); clear hm hn hw; have hq6 : (q : Int) < 6 := by omega
  have hq0 : (0 : Int) ≤ (q : Int) := by omega
  go_enter Tryz.func4, Tryz.ntmps4; go_wp2_with fail; refine (HP6.out _).mono ?_; rintro e u ⟨rfl, hu⟩; have hu' := hu.symm; subst hu'; clear hu; have HS0 := hid (show (⟨#[76, 72, 76, 79, 32, 97, 13, 10, 77, 65, 73, 76, 32, 70, 82, 79, 77, 58, 60, 97, 64, 98, 62, 13, 10]⟩ : ByteArray) = S (jC (lgH p 0)) from rfl); go_wp2; rw [HS0.out]
  go_loopw [6, 7, 8] (fun s m i wr => ∃ k : Nat, k ≤ 3 ∧ s = .string (S (jC (lgH p k))) ∧ m = .int .i64 (lgI p k).length ∧ i = .int .i64 k ∧ Hid (Below w.heap.size w wr)) (fun _ _ i _ => 3 - (intOf i).toNat)
  case atStart => exact ⟨0, Nat.zero_le _, rfl, rfl, rfl, Below.refl _ _⟩
  case round =>
    obtain ⟨k, hk, rfl, rfl, rfl, HB⟩ := hrel; obtain ⟨hsz, hmz⟩ := jiY h4 hk; have hxs : (S (jC (lgH p k))).size ≤ 200 := by rw [jf]; exact hsz
    have hmi : ((lgI p k).length : Int) ≤ 3 := by omega
    have hm0 : (0 : Int) ≤ ((lgI p k).length : Int) := by omega
    have HSZ := hid hsz; clear hsz
    by_cases hlt : k < 3
    · have i1 : (k : Int) < 3 := by omega
      have hget := jmW hlt; have hk0 : (0 : Int) ≤ (k : Int) := by omega
      have hsa := jkv k; have hts : (S (lgTo (annL k) ++ crL)).size ≤ 100 := by
        rw [jf]; rw [jf] at hsa; simp only [List.length_append, lgTo, crL, List.length_cons, List.length_nil]; omega
      have HTS := hid (jm5 k)
      by_cases hkz : k = 0
      · subst hkz; obtain ⟨hy1, hy2⟩ := jlj (m := p) (k := 0) rfl; have HY1 := hid hy1; have HY2 := hid hy2; clear hy1 hy2; go_wp2
        go_roundw
        case rel => exact ⟨1, by omega, by rw [← HY1.out, ← HTS.out], by rw [show (lgI p 1).length = _ from HY2.out]; go_num, by go_num, hid (HB.out.alloc HB.out.size _)⟩
        case measure => simp [intOf]
      · obtain ⟨j, rfl⟩ : ∃ j, k = j + 1 := ⟨k - 1, by omega⟩; have hj2 : j < 2 := by omega
        have hbit := jmM (p := p) (j := j) (by omega) (by omega); have hz : ((j : Int) + 1 == 0) = false := by
          rw [beq_eq_false_iff_ne]; omega
        have hz' : ¬ (j : Int) + 1 = 0 := by omega
        have hj0 : (0 : Int) ≤ (j : Int) := by omega
        have HJ := hid (show lgB p (j + 1) = p.testBit j from by unfold lgB; simp); cases hb : p.testBit j with
        | true =>
          obtain ⟨hy1, hy2⟩ := jlj (m := p) (k := j + 1) (by rw [HJ.out]; exact hb); have HY1 := hid hy1; have HY2 := hid hy2; rw [hb] at hbit; clear hb hy1 hy2 hkz; go_wp2_with fail; refine (HP4.out _).mono ?_; rintro e u ⟨rfl, hu⟩; have hu' := hu.symm; subst hu'; clear hu; go_wp2
          go_roundw
          case rel => exact ⟨j + 1 + 1, by omega, by rw [← HY1.out, ← HTS.out], by rw [HY2.out]; go_num, by go_num, hid (HB.out.alloc HB.out.size _)⟩
          case measure => simp [intOf]; omega
        | false =>
          obtain ⟨hy1, hy2⟩ := jm9 (m := p) (k := j + 1) (by rw [HJ.out]; exact hb); have HY1 := hid hy1; have HY2 := hid hy2; rw [hb] at hbit; clear hb hy1 hy2 hkz; go_wp2_with fail; refine (HP4.out _).mono ?_; rintro e u ⟨rfl, hu⟩; have hu' := hu.symm; subst hu'; clear hu; go_wp2
          go_roundw
          case rel => exact ⟨j + 1 + 1, by omega, by rw [HY1.out], by rw [HY2.out], by go_num, HB⟩
          case measure => simp [intOf]; omega
    · have i1 : ¬ (k : Int) < 3 := by omega
      obtain rfl : k = 3 := by omega
      have HD := hid (show S (jC (lgH p 3)) ++ (⟨#[68, 65, 84, 65, 13, 10]⟩ : ByteArray) = S (jC (lgD p)) from by
        show S (jC (lgH p 3)) ++ S [68, 65, 84, 65, 13, 10] = _
        rw [jhs]; unfold lgD; rw [jeC]; rfl)
      have HN3 := hid (jiY h4 (Nat.le_refl 3)).2; generalize hmm : (lgI p 3).length = mm at *; have HMM := hid hmm; obtain ⟨V, hV⟩ : ∃ V, V = wr := ⟨_, rfl⟩; subst hV; clear hmm; go_upto_region 12 with fail
      rw [HD.out]; obtain ⟨kk, hkk⟩ : ∃ kk, kk = 22 + q := ⟨_, rfl⟩; have hk1 : 22 ≤ kk ∧ kk ≤ 27 := by omega
      have HKE := hid (show ((22 : Int) + (q : Int)) = (kk : Int) by omega); rw [HKE.out]; obtain ⟨V1, hV1⟩ : ∃ V1, V1 = V.alloc (.cells (acuC (linA 0 (lgD p))).toArray 32) := ⟨_, rfl⟩; have HO1 := hid (show V1.ownsRow w.heap.size 32 11 (.slice (some ⟨V.heap.size, 0, none⟩) 1 1) 1 ((lgAj p 0).map acuC).flatten from by
        rw [hV1]; exact World.ownsRow_lit V (acuC (linA 0 (lgD p))).toArray 1 HB.out.size (by unfold maxLen; decide) rfl)
      have HB1 := hid (show Below w.heap.size w V1 from by rw [hV1]; exact HB.out.alloc HB.out.size _); have HV1 := hid hV1; have HVE := hid (show V1 = V.alloc (.cells #[.int .i64 1, .int .i64 0, .int .i64 0, .int .i64 0, .string (S (jC (lgD p))), .int .i64 0, .string ⟨#[]⟩, .int .i64 0, .int .i64 0, .string ⟨#[]⟩, .string ⟨#[]⟩] 32) from hV1); clear hV1 hkk; rw [← HVE.out]; go_wp2
      go_loopw [9, 10] (fun l i wr => ∃ (j : Nat) (a9 : Option Addr) (c9 : Nat), j ≤ kk ∧ i = .int .i64 j ∧ l = .slice a9 (j + 1) c9 ∧ Hid (wr.ownsRow w.heap.size 32 11 (.slice a9 (j + 1) c9) (j + 1) ((lgAj p j).map acuC).flatten) ∧ Hid (Below w.heap.size w wr)) (fun _ i _ => kk - (intOf i).toNat)
      case atStart => exact ⟨0, _, 1, Nat.zero_le _, rfl, rfl, HO1, HB1⟩
      case round =>
        obtain ⟨j, a9, c9, hj, rfl, rfl, HO, HBj⟩ := hrel
        by_cases hlt : j < kk
        · have j1 : (j : Int) < (kk : Int) := by omega
          have j0 : (0 : Int) ≤ (j : Int) := by omega
          go_wp2_with (first
            | (at_builtin; rw [HXL.out]; refine wpList_append_lies _ rfl _ _ 23 rfl w.heap.size 32 i0 _ 11 120 Tryz.underlying23 hi hz0 hz1 hz2 rfl (by omega) (.slice a9 (j + 1) c9) (j + 1) (((lgAj p j).map acuC).flatten) rfl (World.ownsRow.alloc HO.out _) ⟨wr.heap.size, 0, none⟩ 1 1 [.int .i64 1, .int .i64 0, .int .i64 0, .int .i64 0, .string (S (jC [xl])), .int .i64 0, .string ⟨#[]⟩, .int .i64 0, .int .i64 0, .string ⟨#[]⟩, .string ⟨#[]⟩] rfl rfl (zI wr [.int .i64 1, .int .i64 0, .int .i64 0, .int .i64 0, .string (S (jC [xl])), .int .i64 0, .string ⟨#[]⟩, .int .i64 0, .int .i64 0, .string ⟨#[]⟩, .string ⟨#[]⟩] _) ?c1 (by omega) ?c2 ?c3 ?c4 _ rfl ?_)
            | fail)
          case c1 => simp [Value.oneCell']
          case c2 => unfold maxLen; omega
          case c3 => omega
          case c4 => have := HBj.out.size; simp; omega
          intro gm cap w4 hown hgrow hat hlt4; have HB4 := hid (show Below w.heap.size w w4 from (HBj.out.alloc HBj.out.size _).grown hgrow (by have := HBj.out.size; simp; omega) (fun j hj => (World.ownsRow.lt HO.out j hj).1)); have HO4 := hid (show w4.ownsRow w.heap.size 32 11 (.slice (some ⟨gm, 0, none⟩) (j + 1 + 1) cap) (j + 1 + 1) ((lgAj p (j + 1)).map acuC).flatten by
            rw [jhV, jjP]; exact hown)
          clear hown hgrow hat; go_wp2
          go_roundw
          case rel => first | exact ⟨j + 1, _, cap, by omega, by go_num, rfl, HO4, HB4⟩ | ((repeat apply Exists.intro); exact ⟨⟨j + 1, _, cap, by omega, by go_num, rfl, HO4, HB4⟩, rfl⟩)
          case measure => simp [intOf]; omega
        · have j1 : ¬ (j : Int) < (kk : Int) := by omega
          obtain rfl : j = kk := by omega
          obtain ⟨U, hU⟩ : ∃ U, U = wr := ⟨_, rfl⟩; subst hU; have hcn : ∀ (v : World), ∀ (i : Nat) u, ([.int .i64 1, .int .i64 0, .int .i64 0, .int .i64 0, .string ⟨#[13, 10, 46, 13, 10]⟩, .int .i64 0, .string ⟨#[]⟩, .int .i64 0, .int .i64 0, .string ⟨#[]⟩, .string ⟨#[]⟩, .int .i64 2, .int .i64 0, .int .i64 0, .int .i64 0, .string ⟨#[]⟩, .int .i64 0, .string ⟨#[]⟩, .int .i64 0, .int .i64 0, .string ⟨#[]⟩, .string ⟨#[]⟩] : List Value)[i]? = some u → (v.alloc (.cells #[.int .i64 1, .int .i64 0, .int .i64 0, .int .i64 0, .string ⟨#[13, 10, 46, 13, 10]⟩, .int .i64 0, .string ⟨#[]⟩, .int .i64 0, .int .i64 0, .string ⟨#[]⟩, .string ⟨#[]⟩, .int .i64 2, .int .i64 0, .int .i64 0, .int .i64 0, .string ⟨#[]⟩, .int .i64 0, .string ⟨#[]⟩, .int .i64 0, .int .i64 0, .string ⟨#[]⟩, .string ⟨#[]⟩] 32)).cell? ((⟨v.heap.size, 0, none⟩ : Addr).add i) = some u := fun v => zI v _ _
          go_wp2_with (first
            | (at_builtin; refine wpList_append_lies _ rfl _ _ 23 rfl w.heap.size 32 i0 _ 11 120 Tryz.underlying23 hi hz0 hz1 hz2 rfl (by omega) (.slice a9 (j + 1) c9) (j + 1) (((lgAj p j).map acuC).flatten) rfl (World.ownsRow.alloc HO.out _) ⟨U.heap.size, 0, none⟩ 2 2 [.int .i64 1, .int .i64 0, .int .i64 0, .int .i64 0, .string ⟨#[13, 10, 46, 13, 10]⟩, .int .i64 0, .string ⟨#[]⟩, .int .i64 0, .int .i64 0, .string ⟨#[]⟩, .string ⟨#[]⟩, .int .i64 2, .int .i64 0, .int .i64 0, .int .i64 0, .string ⟨#[]⟩, .int .i64 0, .string ⟨#[]⟩, .int .i64 0, .int .i64 0, .string ⟨#[]⟩, .string ⟨#[]⟩] rfl rfl (hcn U) ?c1 (by omega) ?c2 ?c3 ?c4 _ rfl ?_)
            | fail)
          case c1 => simp [Value.oneCell']
          case c2 => unfold maxLen; omega
          case c3 => omega
          case c4 => have := HBj.out.size; simp; omega
          intro gm cap w4 hown hgrow hat hlt4; have HB4 := hid (show Below w.heap.size w w4 from (HBj.out.alloc HBj.out.size _).grown hgrow (by have := HBj.out.size; simp; omega) (fun j hj => (World.ownsRow.lt HO.out j hj).1)); have HA4 := hid (show AcsM (fun _ => True) w4 (.slice (some ⟨gm, 0, none⟩) (lgA p j).length cap) (lgA p j) from by
            have e : (lgA p j).length = j + 1 + 2 := by rw [jcb]
            rw [e]; have ho : w4.ownsRow w.heap.size 32 11 (.slice (some ⟨gm, 0, none⟩) (j + 1 + 2) cap) (j + 1 + 2) ((lgA p j).map acuC).flatten := by
              rw [← jkd, List.map_append, List.flatten_append]; exact hown
            exact jdi (css := (lgA p j).map acuC) ho e.symm (by unfold maxLen; omega) (by simp) (fun cs h => by
              obtain ⟨x, _, rfl⟩ := List.mem_map.1 h; rfl) (fun i x cs h1 h2 => by
              rw [List.getElem?_map, h1] at h2; cases h2; rfl) fun _ _ => trivial)
          have HRN := hid (show Calls Tryz.prog 7 #[.slice (some ⟨gm, 0, none⟩) (j + 1 + 2) cap] w4 (RanP w4 (lgW p j (lgA p j).length)) from by
            have h := jmE (fun _ => True) (some ⟨gm, 0, none⟩) cap p j h4 (by omega) w4 (HM.out.next HB4.out) HA4.out; rw [show (lgA p j).length = j + 1 + 2 from jcb p j] at h; rw [show (lgA p j).length = j + 1 + 2 from jcb p j]; exact h)
          obtain ⟨tl0, hsf⟩ := jlW p j h4 (by omega); rw [HMM.out] at tl0; obtain ⟨R, hR⟩ : ∃ R, R = lgW p j (lgA p j).length := ⟨_, rfl⟩; rw [← hR] at HRN tl0 hsf; clear hown hgrow hat hR HA4; go_wp2_with fail; refine HRN.out.mono ?_; rintro e w2 ⟨ac, cc, ao, co, as_, cs, rfl, hO2, hb2⟩; obtain ⟨q0, p0, z0, rfl, _, _, _, hz0', v0, rfl, hv0⟩ : ∃ b o cs, ac = some ⟨b, o, none⟩ ∧ b < w2.heap.size ∧ w4.heap.size ≤ b ∧ cs.length = 1 ∧ (∀ (j : Nat) u, cs[j]? = some u → w2.cell? ⟨b, o + 0 * 1 + j, none⟩ = some u) ∧ ∃ v, cs = [v] ∧ IntsM (w4.heap.size ≤ ·) w2 v R.c0.told := by
            obtain ⟨_, _, e, _, hr⟩ := hO2.co; cases e; exact hr 0 _ rfl
          have y0 := hz0' 0 _ rfl; simp only [Nat.zero_mul, Nat.add_zero] at y0; have hlen : R.c0.told.length = 3 + 2 * mm := by rw [tl0]; simp; omega
          obtain ⟨b0, o0, d0, rfl, hat0⟩ := hv0.at (by omega); rw [hlen] at y0; have hat1 : ∀ i, i < mm → w2.cell? ⟨b0, o0 + (3 + mm + i), none⟩ = some (.int .i64 552) := fun i hi => hat0 _ _ (by rw [tl0]; exact jmr _ _ _ _ _ hi)
          have hs2 := hO2.sf; rw [hsf] at hs2; have HS2 := hid hs2; have HB2 := hid (HB4.out.trans (hb2.mono HB4.out.size)); clear hO2 hb2 hz0' hv0 hs2 tl0 hsf hat0 hlen; obtain ⟨W3, hW3⟩ : ∃ W3, W3 = w2.alloc (.cells #[.bool R.up, .slice (some ⟨q0, p0, none⟩) 3 cc, .slice ao 3 co, .slice as_ 3 cs, .int .i64 R.waits] 37) := ⟨_, rfl⟩; have hb3 : Below w2.heap.size w2 W3 := by rw [hW3]; exact (Below.refl _ _).alloc (Nat.le_refl _) _
          have hx3 : W3.heap[w2.heap.size]? = some (.cells #[.bool R.up, .slice (some ⟨q0, p0, none⟩) 3 cc, .slice ao 3 co, .slice as_ 3 cs, .int .i64 R.waits] 37) := by rw [hW3]; exact heap_alloc_new w2 _
          have x1 : W3.cell? ⟨w2.heap.size, 1, none⟩ = some (.slice (some ⟨q0, p0, none⟩) 3 cc) := by simp [World.cell?, hx3]
          have x3 : W3.cell? ⟨w2.heap.size, 3, none⟩ = some (.slice as_ 3 cs) := by simp [World.cell?, hx3]
          have w0' := ja y0 hb3; have HC3 := hid (show ∀ u, Below W3.heap.size W3 u → u.cell? ⟨w2.heap.size, 1, none⟩ = some (.slice (some ⟨q0, p0, none⟩) 3 cc) ∧ u.cell? ⟨w2.heap.size, 3, none⟩ = some (.slice as_ 3 cs) ∧ u.cell? ⟨q0, p0, none⟩ = some (.slice (some ⟨b0, o0, none⟩) (3 + 2 * mm) d0) from fun u hu => ⟨ja x1 hu, ja x3 hu, ja w0' hu⟩); have HA3 := hid (show ∀ u, Below W3.heap.size W3 u → ∀ i, i < mm → u.cell? ⟨b0, o0 + (3 + mm + i), none⟩ = some (.int .i64 552) from fun u hu i hi => ja (ja (hat1 i hi) hb3) hu); have HS3 := hid (show ∀ u, Below W3.heap.size W3 u → RowM (w4.heap.size ≤ ·) 2 (SttV (w4.heap.size ≤ ·) u) u (.slice as_ 3 cs) [inbS, inbS, inbS] from fun u hu => RowM.imp HS2.out (fun _ h => h) (Keeps.of_below (hb3.trans (hu.mono hb3.size))) fun s cs h => by
            obtain ⟨vb, vs, e, h⟩ := h; exact ⟨vb, vs, e, h.next (hb3.trans (hu.mono hb3.size))⟩)
          have HB3 := hid (HB2.out.trans (hb3.mono HB2.out.size)); have HW3 := hid hW3; have HFR := hid (fun u => jis u); have HMI := hid (show (mm : Int) ≤ 3 ∧ (0 : Int) ≤ (mm : Int) by have := HN3.out; omega); obtain ⟨hmi3, hmi0⟩ := HMI.out; have hw1 : IntKind.i64.wrap (2 * (mm : Int)) = 2 * (mm : Int) := by rw [IntKind.wrap_i64]; omega
          have hw2 : IntKind.i64.wrap (3 + 2 * (mm : Int)) = 3 + 2 * (mm : Int) := by rw [IntKind.wrap_i64]; omega
          clear hb3 hx3 hW3 x1 x3 w0' y0 HS2 hat1; go_upto_region 18 with fail
          rw [← HW3.out]; refine wp_region_held_drew (S := fun u => u.cell? ⟨w2.heap.size, 1, none⟩ = some (.slice (some ⟨q0, p0, none⟩) 3 cc) ∧ u.cell? ⟨w2.heap.size, 3, none⟩ = some (.slice as_ 3 cs) ∧ u.cell? ⟨q0, p0, none⟩ = some (.slice (some ⟨b0, o0, none⟩) (3 + 2 * mm) d0)) (by kernel_rfl) ?_ (fun hHeld => ?_)
          · exact HC3.out _ (Below.refl _ _).drew
          refine wpAnyH_take (i := 0) (v := ?v1) rfl (by kernel_rfl) (by kernel_rfl) (by kernel_rfl) (fun _ _ _ h => h) (Or.inl ⟨by rfl, ?hy1⟩) (by assumption) ?_
          case hy1 =>
            intro w hSw
            (try dsimp only at hSw)
            go_simp
            all_goals with_reducible rfl
          change wpAnyH _ _ _ _ _ _ _ (Act.put _ (some 66) _) _
          try simp only [Act.put, List.setIfInBounds_toArray, List.set_cons_zero, List.set_cons_succ]
          refine wpAnyH_take (i := 1) (v := ?v2) rfl (by kernel_rfl) (by kernel_rfl) (by kernel_rfl) (fun _ _ _ h => h) (Or.inl ⟨by rfl, ?hy2⟩) (by assumption) ?_
          case hy2 =>
            intro w hSw
            (try dsimp only at hSw)
            go_simp
            all_goals with_reducible rfl
          change wpAnyH _ _ _ _ _ _ _ (Act.put _ (some 67) _) _
          try simp only [Act.put, List.setIfInBounds_toArray, List.set_cons_zero, List.set_cons_succ]
          refine wpAnyH_take (i := 2) (v := ?v3) rfl (by kernel_rfl) (by kernel_rfl) (by kernel_rfl) (fun _ _ _ h => h) (Or.inl ⟨by rfl, ?hy3⟩) (by assumption) ?_
          case hy3 =>
            intro w hSw
            (try dsimp only at hSw)
            go_simp
            all_goals with_reducible rfl
          change wpAnyH _ _ _ _ _ _ _ (Act.put _ (some 68) _) _
          try simp only [Act.put, List.setIfInBounds_toArray, List.set_cons_zero, List.set_cons_succ]
          refine wpAnyH_take (i := 3) (v := ?v4) rfl (by kernel_rfl) (by kernel_rfl) (by kernel_rfl) (fun _ _ _ h => h) (Or.inl ⟨by rfl, ?hy4⟩) (by assumption) ?_
          case hy4 =>
            intro w hSw
            (try dsimp only at hSw)
            go_simp
            all_goals with_reducible rfl
          change wpAnyH _ _ _ _ _ _ _ (Act.put _ (some 69) _) _
          try simp only [Act.put, List.setIfInBounds_toArray, List.set_cons_zero, List.set_cons_succ]
          refine wpAnyH_take (i := 4) (v := ?v5) rfl (by kernel_rfl) (by kernel_rfl) (by kernel_rfl) (fun _ _ _ h => h) (Or.inl ⟨by rfl, ?hy5⟩) (by assumption) ?_
          case hy5 =>
            intro w hSw
            (try dsimp only at hSw)
            go_simp
            all_goals with_reducible rfl
          change wpAnyH _ _ _ _ _ _ _ (Act.put _ (some 70) _) _
          try simp only [Act.put, List.setIfInBounds_toArray, List.set_cons_zero, List.set_cons_succ]
          refine wpAnyH_take (i := 5) (v := ?v6) rfl (by kernel_rfl) (by kernel_rfl) (by kernel_rfl) (fun _ _ _ h => h) (Or.inl ⟨by rfl, ?hy6⟩) (by assumption) ?_
          case hy6 =>
            intro w hSw
            (try dsimp only at hSw)
            go_simp
            all_goals with_reducible rfl
          change wpAnyH _ _ _ _ _ _ _ (Act.put _ (some 71) _) _
          try simp only [Act.put, List.setIfInBounds_toArray, List.set_cons_zero, List.set_cons_succ]
          refine wpAnyH_take (i := 6) (v := ?v7) rfl (by kernel_rfl) (by kernel_rfl) (by kernel_rfl) (fun _ _ _ h => h) (Or.inl ⟨by rfl, ?hy7⟩) (by assumption) ?_
          case hy7 =>
            intro w hSw
            (try dsimp only at hSw)
            go_simp
            all_goals with_reducible rfl
          change wpAnyH _ _ _ _ _ _ _ (Act.put _ (some 72) _) _
          try simp only [Act.put, List.setIfInBounds_toArray, List.set_cons_zero, List.set_cons_succ]
          refine wpAnyH_take (i := 7) (v := ?v8) rfl (by kernel_rfl) (by kernel_rfl) (by kernel_rfl) (fun _ _ _ h => h) (Or.inl ⟨by rfl, ?hy8⟩) (by assumption) ?_
          case hy8 =>
            intro w hSw
            (try dsimp only at hSw)
            go_simp
            all_goals with_reducible rfl
          change wpAnyH _ _ _ _ _ _ _ (Act.put _ (some 73) _) _
          try simp only [Act.put, List.setIfInBounds_toArray, List.set_cons_zero, List.set_cons_succ]
          refine wpAnyH_take (i := 8) (v := ?v9) rfl (by kernel_rfl) (by kernel_rfl) (by kernel_rfl) (fun _ _ _ h => h) (Or.inl ⟨by rfl, ?hy9⟩) (by assumption) ?_
          case hy9 =>
            intro w hSw
            (try dsimp only at hSw)
            go_simp
            all_goals with_reducible rfl
          change wpAnyH _ _ _ _ _ _ _ (Act.put _ (some 74) _) _
          try simp only [Act.put, List.setIfInBounds_toArray, List.set_cons_zero, List.set_cons_succ]
          refine wpAnyH_take (i := 9) (v := ?v10) rfl (by kernel_rfl) (by kernel_rfl) (by kernel_rfl) (fun _ _ _ h => h) (Or.inl ⟨by rfl, ?hy10⟩) (by assumption) ?_
          case hy10 =>
            intro w hSw
            (try dsimp only at hSw)
            go_simp
            all_goals with_reducible rfl
          change wpAnyH _ _ _ _ _ _ _ (Act.put _ (some 75) _) _
          try simp only [Act.put, List.setIfInBounds_toArray, List.set_cons_zero, List.set_cons_succ]
          refine wpAnyH_take (i := 10) (v := ?v11) rfl (by kernel_rfl) (by kernel_rfl) (by kernel_rfl) (fun _ _ _ h => h) (Or.inl ⟨by rfl, ?hy11⟩) (by assumption) ?_
          case hy11 =>
            intro w hSw
            (try dsimp only at hSw)
            go_simp
            all_goals with_reducible rfl
          change wpAnyH _ _ _ _ _ _ _ (Act.put _ (some 76) _) _
          try simp only [Act.put, List.setIfInBounds_toArray, List.set_cons_zero, List.set_cons_succ]
          refine wpAnyH_take (i := 11) (v := ?v12) rfl (by kernel_rfl) (by kernel_rfl) (by kernel_rfl) (fun _ _ _ h => h) (Or.inl ⟨by rfl, ?hy12⟩) (by assumption) ?_
          case hy12 =>
            intro w hSw
            (try dsimp only at hSw)
            go_simp
            all_goals with_reducible rfl
          change wpAnyH _ _ _ _ _ _ _ (Act.put _ (some 77) _) _
          try simp only [Act.put, List.setIfInBounds_toArray, List.set_cons_zero, List.set_cons_succ]
          refine wpAnyH_take (i := 12) (v := ?v13) rfl (by kernel_rfl) (by kernel_rfl) (by kernel_rfl) (fun _ _ _ h => h) (Or.inl ⟨by rfl, ?hy13⟩) (by assumption) ?_
          case hy13 =>
            intro w hSw
            (try dsimp only at hSw)
            go_simp
            all_goals with_reducible rfl
          change wpAnyH _ _ _ _ _ _ _ (Act.put _ (some 78) _) _
          try simp only [Act.put, List.setIfInBounds_toArray, List.set_cons_zero, List.set_cons_succ]
          refine wpAnyH_take (i := 13) (v := ?v14) rfl (by kernel_rfl) (by kernel_rfl) (by kernel_rfl) (fun _ _ _ h => h) (Or.inl ⟨by rfl, ?hy14⟩) (by assumption) ?_
          case hy14 =>
            intro w hSw
            (try dsimp only at hSw)
            go_simp
            all_goals with_reducible rfl
          change wpAnyH _ _ _ _ _ _ _ (Act.put _ (some 79) _) _
          try simp only [Act.put, List.setIfInBounds_toArray, List.set_cons_zero, List.set_cons_succ]
          refine wpAnyH_take (i := 14) (v := ?v15) rfl (by kernel_rfl) (by kernel_rfl) (by kernel_rfl) (fun _ _ _ h => h) (Or.inl ⟨by rfl, ?hy15⟩) (by assumption) ?_
          case hy15 =>
            intro w hSw
            (try dsimp only at hSw)
            go_simp
            all_goals with_reducible rfl
          change wpAnyH _ _ _ _ _ _ _ (Act.put _ (some 80) _) _
          try simp only [Act.put, List.setIfInBounds_toArray, List.set_cons_zero, List.set_cons_succ]
          refine wpAnyH_take (i := 15) (v := ?v16) rfl (by kernel_rfl) (by kernel_rfl) (by kernel_rfl) (fun _ _ _ h => h) (Or.inl ⟨by rfl, ?hy16⟩) (by assumption) ?_
          case hy16 =>
            intro w hSw
            (try dsimp only at hSw)
            go_simp
            all_goals with_reducible rfl
          change wpAnyH _ _ _ _ _ _ _ (Act.put _ (some 81) _) _
          try simp only [Act.put, List.setIfInBounds_toArray, List.set_cons_zero, List.set_cons_succ]
          refine wpAnyH_ready (rs := [16]) (by kernel_rfl) (by simp) ?_; refine AllReadyH.cons rfl (fun K hK => ?_) AllReadyH.nil
          go_simp
          refine (HFR.out _).mono ?_; rintro e u ⟨fa, fc, rfl, hF, hu⟩; have HBF := hid (show Below W3.heap.size W3 u from ((Below.refl _ W3).drew).trans hu); have HSA := hid (jiV _ _ as_ fa cs fc [inbS, inbS, inbS] u (HS3.out u HBF.out) hF); clear hF hu; go_wp2_with fail; refine hK.out _ _ ?_ (fun hHeld => ?_)
          · exact HC3.out _ HBF.out
          clear hK K
          try simp only [Act.put, List.setIfInBounds_toArray, List.set_cons_zero, List.set_cons_succ]
          refine wpAnyH_ready (rs := [17]) (by kernel_rfl) (by simp) ?_; refine AllReadyH.cons rfl (fun K hK => ?_) AllReadyH.nil
          go_simp
          refine HSA.out.mono ?_; rintro e u2 ⟨rfl, hu2⟩; have HBG := hid (HBF.out.trans (hu2.mono HBF.out.size)); clear hu2; go_wp2_with fail; refine hK.out _ _ ?_ (fun hHeld => ?_)
          · exact HC3.out _ HBG.out
          clear hK K
          try simp only [Act.put, List.setIfInBounds_toArray, List.set_cons_zero, List.set_cons_succ]
          refine wpAnyH_take (i := 18) (v := ?v17) rfl (by kernel_rfl) (by kernel_rfl) (by kernel_rfl) (fun _ _ _ h => h) (Or.inl ⟨by rfl, ?hy17⟩) (by assumption) ?_
          case hy17 =>
            intro w hSw
            (try dsimp only at hSw)
            go_simp
            all_goals with_reducible rfl
          change wpAnyH _ _ _ _ _ _ _ (Act.put _ (some 84) _) _
          try simp only [Act.put, List.setIfInBounds_toArray, List.set_cons_zero, List.set_cons_succ]
          refine wpAnyH_take (i := 19) (v := ?v18) rfl (by kernel_rfl) (by kernel_rfl) (by kernel_rfl) (fun _ _ _ h => h) (Or.inl ⟨by rfl, ?hy18⟩) (by assumption) ?_
          case hy18 =>
            intro w hSw
            (try dsimp only at hSw)
            go_simp
            all_goals with_reducible rfl
          change wpAnyH _ _ _ _ _ _ _ (Act.put _ (some 85) _) _
          try simp only [Act.put, List.setIfInBounds_toArray, List.set_cons_zero, List.set_cons_succ]
          refine wpAnyH_done (by kernel_rfl) ?_ _; obtain ⟨m1, m3, m0⟩ := HC3.out _ HBG.out; go_wp2_with fail
          go_loopw [13] (fun i wr => ∃ t : Nat, t ≤ mm ∧ i = .int .i64 t ∧ Hid (wr = u2)) (fun i _ => mm - (intOf i).toNat)
          case atStart => exact ⟨0, Nat.zero_le _, rfl, hid rfl⟩
          case round =>
            obtain ⟨t, ht, rfl, HWR⟩ := hrel; have hwr := HWR.out; subst hwr
            by_cases htl : t < mm
            · have t1 : (t : Int) < (mm : Int) := by omega
              have t0 : (0 : Int) ≤ (t : Int) := by omega
              have hc := HA3.out _ HBG.out t htl; have hix : (3 + mm + t : Nat) < 3 + 2 * mm := by omega
              go_wp2
              go_roundw
              case rel => exact ⟨t + 1, by omega, by go_num, by first | exact hid rfl | exact hid trivial⟩
              case measure => simp [intOf]; omega
            · have t1 : ¬ (t : Int) < (mm : Int) := by omega
              go_wp2; go_ret; exact ⟨rfl, HB3.out.trans (HBG.out.mono HB3.out.size)⟩
end Go.Proofs.YtlfgemnmfhknfaaGreatDoor
