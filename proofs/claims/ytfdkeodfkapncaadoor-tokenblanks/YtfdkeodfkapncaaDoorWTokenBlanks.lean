/-
  Blanks and comments between tokens say nothing: walked.
-/
import Derived.Test.YtfdkeodfkapncaaDoorTokJoin
import Derived.Test.YtfdkeodfkapncaaDoorTokCut
import Derived.Test.YtfdkeodfkapncaaDoorTokMore
import Derived.Test.YtfdkeodfkapncaaDoorPcsFlat
import Derived.Test.YtfdkeodfkapncaaDoorTokSame
import Derived.Test.YtfdkeodfkapncaaDoorTokNums
import Derived.WalkArith
namespace Go.Proofs.YtfdkeodfkapncaaDoor
open Go.RowKit Go.Proofs

def blankAt (k : Nat) : List UInt8 := blanksT.getD k []
def blanksV : Array Value := #[.string ⟨#[32]⟩, .string ⟨#[9]⟩, .string ⟨#[13, 10]⟩, .string ⟨#[47, 42, 32, 97, 59, 32, 42, 47]⟩, .string ⟨#[47, 42, 42, 47, 32]⟩, .string ⟨#[35, 32, 98, 32, 123, 10]⟩, .string ⟨#[10, 35, 10]⟩]
theorem blanks_cell (w : World) (t : TypeId) (k : Nat) (h : k < 7) : (w.alloc (.cells blanksV t)).cell? ⟨w.heap.size, k, none⟩ = some (.string (S (blankAt k))) := by
  have : k = 0 ∨ k = 1 ∨ k = 2 ∨ k = 3 ∨ k = 4 ∨ k = 5 ∨ k = 6 := by omega
  rcases this with rfl | rfl | rfl | rfl | rfl | rfl | rfl <;> simp [blanksV] <;> rfl
theorem blank_mem {k : Nat} (h : k < 7) : blankAt k ∈ blanksT := by
  have hl : k < blanksT.length := h
  have e : blankAt k = blanksT[k] := by unfold blankAt; simp [List.getD, hl]
  rw [e]; exact List.getElem_mem hl
/-- What has been put together of the first tokens. -/
def Xs (T : List Tok) (k : Nat) (xs : List (Tok × List UInt8)) : Prop :=
  xs.map (·.1) = T.take k ∧ ∀ x ∈ xs, faultT x.1 = 0 ∧ between x.2 ∧ (textT x.1).length ≤ 62 ∧ x.2.length ≤ 25
theorem Xs.len {T : List Tok} {k : Nat} {xs : List (Tok × List UInt8)} (h : Xs T k xs) (hk : k ≤ T.length) : xs.length = k := by
  have := congrArg List.length h.1
  rw [List.length_map, List.length_take] at this; omega
theorem flat_le {xs : List (Tok × List UInt8)} (h : ∀ x ∈ xs, (textT x.1).length ≤ 62 ∧ x.2.length ≤ 25) : (flatT xs).length ≤ xs.length * 87 := by
  induction xs with
  | nil => simp [flatT]
  | cons x xs ih =>
    have h1 := h x (by simp)
    have h2 := ih (fun y hy => h y (by simp [hy]))
    simp only [flatT, List.map_cons, List.flatten_cons, List.length_append, List.length_cons] at h2 ⊢
    omega
theorem flat_snoc (xs : List (Tok × List UInt8)) (t : Tok) (b : List UInt8) : flatT (xs ++ [(t, b)]) = flatT xs ++ (textT t ++ b) := by simp [flatT]
theorem Xs.step {T : List Tok} {k : Nat} {xs : List (Tok × List UInt8)} {t : Tok} {bl : List UInt8} (h : Xs T k xs) (ht : T[k]? = some t) (hf : faultT t = 0) (hl : (textT t).length ≤ 62) (hs : Sil bl) (hb : bl.length ≤ 24) : Xs T (k + 1) (xs ++ [(t, 32 :: bl)]) := by
  refine ⟨by rw [List.map_append, h.1, take_some ht]; rfl, fun x hx => ?_⟩
  rcases List.mem_append.1 hx with hx | hx
  · exact h.2 x hx
  · rw [List.mem_singleton] at hx
    subst hx
    exact ⟨hf, between_more hs, hl, by simp; omega⟩
theorem one_join {t : Tok} (hf : faultT t = 0) (hl : (textT t).length ≤ 62) : joinM [t] = (textT t ++ [32], 0) := by
  have := joinM_lawful (ts := [t]) (fun x hx => by rw [List.mem_singleton.1 hx]; exact hf) (by simp) (by simp [flatT]; omega)
  rw [this]
  simp [flatT]
theorem wrap_wf (x : Int) : (Lit.int .i64 (wrap64 x)).wf = true := by
  refine WalkArith.wf_i64 ?_
  unfold wrap64
  omega

set_option maxHeartbeats 32000000 in
set_option maxRecDepth 100000 in
theorem tokenBlanks_walk (w : World) (hE : Env w) (a : Option Addr) (c : Nat) (ps : List Pce) (hF : PcsAt w a ps) (_ : ps.length ≤ maxLen) (hX : ∀ x ∈ ps, PceOk x) (an : Option Addr) (cn : Nat) (ns : List Int) (hFn : NumsAt w an ns) (_ : ns.length ≤ maxLen) (hXn : ∀ z ∈ ns, (Lit.int .i64 z).wf = true) :
    Calls Tryd.prog 5 #[.slice a ps.length c, .slice an ns.length cn] w fun e w' => e = .returned (.bool true) ∧ Below w.heap.size w w' := by
  have HX : Hid _ := hX
  have HF : Hid (PcsAt w a ps) := hF
  have HE : Hid (Env w) := hE
  have HFn : Hid (NumsAt w an ns) := hFn
  have HXn : Hid _ := hXn
  obtain ⟨T, hT⟩ : ∃ T, T = pcsT ps 15 := ⟨_, rfl⟩
  have hTl : T.length ≤ 15 := by rw [hT]; unfold pcsT; rw [List.length_map, List.length_take]; omega
  have HTP : Hid (∀ t ∈ T, faultT t = 0 ∧ (textT t).length ≤ 62 ∧ t.text.length ≤ maxLen) := by
    unfold Hid; rw [hT]
    intro t ht
    obtain ⟨p, _, rfl⟩ := List.mem_map.1 ht
    exact ⟨pieceT_ok p, pieceT_size p, by have := pieceT_text p; unfold maxLen; omega⟩
  have HT : Hid _ := hT
  clear hX hF hE hT hFn hXn
  go_enter Tryd.func5, Tryd.ntmps5
  go_wp2_with fail
  refine (tokens_any a c ps 15 _ HF.out HX.out (by decide)).mono ?_
  rw [← HT.out]
  rintro e w1 ⟨a1, c1, rfl, hcap, hA1, hb1⟩
  obtain ⟨w2, hw2⟩ : ∃ w2, w2 = w1.alloc (.cells blanksV 9) := ⟨_, rfl⟩
  have b2 : Below w1.heap.size w1 w2 := by rw [hw2]; exact (Below.refl _ _).alloc (Nat.le_refl _) _
  have HB2 : Hid (Below w.heap.size w w2) := hb1.trans (b2.mono hb1.size)
  have HA2 : Hid (ToksAt w2 a1 T) := hA1.below b2
  have HE2 : Hid (Env w2) := (HE.out.below hb1).below b2
  have HN2 : Hid (NumsAt w2 an ns) := (HFn.out.below hb1).below b2
  have HBL : Hid (∀ k, k < 7 → w2.cell? ⟨w1.heap.size, k, none⟩ = some (.string (S (blankAt k)))) := by
    unfold Hid; intro k hk; rw [hw2]; exact blanks_cell w1 _ k hk
  have HW2 : Hid (w2 = w1.alloc (.cells #[.string ⟨#[32]⟩, .string ⟨#[9]⟩, .string ⟨#[13, 10]⟩, .string ⟨#[47, 42, 32, 97, 59, 32, 42, 47]⟩, .string ⟨#[47, 42, 42, 47, 32]⟩, .string ⟨#[35, 32, 98, 32, 123, 10]⟩, .string ⟨#[10, 35, 10]⟩] 9)) := by unfold Hid; rw [hw2]; rfl
  clear hb1 hA1 b2 hw2
  go_wp2
  rw [← HW2.out]
  go_loopw [7, 8] (fun s i wr => ∃ (k : Nat) (xs : List (Tok × List UInt8)), k ≤ T.length ∧ i = .int .i64 k ∧ s = .string (S (flatT xs)) ∧ Hid (Xs T k xs) ∧ Hid (Below w2.heap.size w2 wr)) (fun _ i _ => T.length - (intOf i).toNat)
  case atStart => exact ⟨0, [], Nat.zero_le _, rfl, rfl, ⟨rfl, by simp⟩, Below.refl _ _⟩
  case round =>
    obtain ⟨k, xs, hk, rfl, rfl, HXs, HB⟩ := hrel
    have hfl : (flatT xs).length ≤ k * 87 := by
      have h1 := HXs.out.len hk
      have h2 := flat_le (xs := xs) (fun x hx => ⟨(HXs.out.2 x hx).2.2.1, (HXs.out.2 x hx).2.2.2⟩)
      rw [h1] at h2; exact h2
    have hfz : (S (flatT xs)).size ≤ 1305 := by rw [size_S]; omega
    by_cases hlt : k < T.length
    · obtain ⟨t, ht⟩ : ∃ t, T[k]? = some t := ⟨_, List.getElem?_eq_getElem hlt⟩
      obtain ⟨hf, hl, htl⟩ := HTP.out t (List.mem_of_getElem? ht)
      obtain ⟨b, o, rfl, hbl, d0, d1, d2⟩ := (HA2.out.below HB.out) k t ht
      have HO : Hid (ToksAt wr (some ⟨b, o + k * 3, none⟩) [t]) := by
        unfold Hid
        intro i x hx
        cases i with
        | zero => simp at hx; subst hx; exact ⟨b, o + k * 3, rfl, hbl, d0, d1, d2⟩
        | succ i => simp at hx
      have HJ : Hid (joinV (joinM [t]) = .tuple #[.string (S (textT t ++ [32])), .int .i64 0]) := by unfold Hid joinV; rw [one_join hf hl]
      have HTL : Hid (t.text.length ≤ maxLen) := htl
      have HEw : Hid (Env wr) := HE2.out.below HB.out
      have HTk : Hid _ := ht
      have HFt : Hid _ := hf
      have HLt : Hid _ := hl
      have htz : (S (textT t ++ [32])).size ≤ 63 := by rw [size_S]; simp; omega
      have HS0 : Hid (S (flatT xs) ++ S (textT t ++ [32]) = S (flatT xs ++ (textT t ++ 32 :: []))) := S_app _ _
      have i1 : (0 : Int) ≤ (k : Int) := by omega
      have i2 : (k : Int) ≤ (k : Int) + 1 := by omega
      have i3 : (k : Int) + 1 ≤ (c1 : Int) := by omega
      clear ht hf hl htl d0 d1 d2
      go_wp2_with fail
      refine (tjoin_any (some ⟨b, o + k * 3, none⟩) (c1 - k) [t] _ HEw.out HO.out (by intro y hy; rw [List.mem_singleton.1 hy]; exact HTL.out)).mono ?_
      rintro e wi ⟨rfl, hbi⟩
      rw [HJ.out]
      have HBi : Hid (Below w2.heap.size w2 wi) := HB.out.trans (hbi.mono HB.out.size)
      have HNi : Hid (NumsAt wi an ns) := HN2.out.below HBi.out
      have HBLi : Hid (∀ k, k < 7 → wi.cell? ⟨w1.heap.size, k, none⟩ = some (.string (S (blankAt k)))) := fun k hk => wcell_next (HBL.out k hk) HBi.out
      clear hbi
      go_wp2
      rw [HS0.out]
      go_loopw [7, 11] (fun s i wq => ∃ (j : Nat) (bl : List UInt8), j ≤ 3 ∧ i = .int .i64 j ∧ s = .string (S (flatT xs ++ (textT t ++ 32 :: bl))) ∧ Hid (Sil bl) ∧ bl.length ≤ 8 * j ∧ wq = wi) (fun _ i _ => 3 - (intOf i).toNat)
      case atStart => exact ⟨0, [], Nat.zero_le _, rfl, rfl, sil_nil, by simp, rfl⟩
      case round =>
        obtain ⟨j, bl, hj, rfl, rfl, HSil, hbl2, rfl⟩ := hrel
        have hwz : (S (flatT xs ++ (textT t ++ 32 :: bl))).size ≤ 1500 := by
          rw [size_S]; have := HLt.out; simp; omega
        by_cases hjl : j < ns.length ∧ j < 3
        · obtain ⟨hj1, hj2⟩ := hjl
          have j1 : (j : Int) < (ns.length : Int) := by omega
          have j2 : (j : Int) < 3 := by omega
          have j3 : (0 : Int) ≤ (j : Int) := by omega
          obtain ⟨z, hz⟩ : ∃ z, ns[j]? = some z := ⟨_, List.getElem?_eq_getElem hj1⟩
          have hzw := HXn.out z (List.mem_of_getElem? hz)
          obtain ⟨bn, on, rfl, _, x0⟩ := HNi.out j z hz
          clear hz
          go_wp2_with fail
          obtain ⟨y, hy⟩ : ∃ y, y = wrap64 (z + (k : Int) % 7) := ⟨_, rfl⟩
          rw [← hy]
          have HY : Hid ((Lit.int .i64 y).wf = true) := by unfold Hid; rw [hy]; exact wrap_wf _
          clear hy
          obtain ⟨m, hm⟩ : ∃ m, m = pickN y 7 := ⟨_, rfl⟩
          have hm7 : m < 7 := by rw [hm]; exact pickN_lt y 7 (by decide)
          have HMM : Hid _ := hm
          clear hm
          refine (picked_any y 7 _ HY.out (by decide) (by decide)).mono ?_
          rintro e u ⟨rfl, hu⟩
          have hu' := hu.symm
          subst hu'
          rw [← HMM.out]
          have xb := HBLi.out m hm7
          have m1 : (0 : Int) ≤ (m : Int) := by omega
          have m2 : (m : Int) < 7 := by omega
          have hbm := blanks_short _ (blank_mem hm7)
          have hbz : (S (blankAt m)).size ≤ 8 := by rw [size_S]; exact hbm
          have HS1 : Hid (S (flatT xs ++ (textT t ++ 32 :: bl)) ++ S (blankAt m) = S (flatT xs ++ (textT t ++ 32 :: (bl ++ blankAt m)))) := by
            unfold Hid; rw [S_app]; congr 1; simp
          have HSil2 : Hid (Sil (bl ++ blankAt m)) := sil_app HSil.out (blanks_sil _ (blank_mem hm7))
          have hbl3 : (bl ++ blankAt m).length ≤ 8 * (j + 1) := by rw [List.length_append]; omega
          go_wp2
          rw [HS1.out]
          go_roundw
          case rel => exact ⟨j + 1, bl ++ blankAt m, by omega, by go_num, rfl, HSil2, hbl3, by first | rfl | trivial⟩
          case measure => simp [intOf]; omega
        · have HXs2 : Hid (Xs T (k + 1) (xs ++ [(t, 32 :: bl)])) := HXs.out.step HTk.out HFt.out HLt.out HSil.out (by omega)
          have HFl : Hid (flatT xs ++ (textT t ++ 32 :: bl) = flatT (xs ++ [(t, 32 :: bl)])) := (flat_snoc xs t (32 :: bl)).symm
          by_cases hj1 : j < ns.length
          · have j1 : (j : Int) < (ns.length : Int) := by omega
            have j2 : ¬ (j : Int) < 3 := by omega
            go_wp2
            rw [HFl.out]
            go_roundw
            case rel => exact ⟨k + 1, xs ++ [(t, 32 :: bl)], by omega, by go_num, rfl, HXs2, HBi⟩
            case measure => simp [intOf]; omega
          · have j1 : ¬ (j : Int) < (ns.length : Int) := by omega
            go_wp2
            rw [HFl.out]
            go_roundw
            case rel => exact ⟨k + 1, xs ++ [(t, 32 :: bl)], by omega, by go_num, rfl, HXs2, HBi⟩
            case measure => simp [intOf]; omega
    · have i1 : ¬ (k : Int) < (T.length : Int) := by omega
      have hkT : k = T.length := by omega
      have HXT : Hid (xs.map (·.1) = T) := by unfold Hid; rw [HXs.out.1, hkT, List.take_of_length_le (Nat.le_refl _)]
      have HLx : Hid (xs.length ≤ 15) := by unfold Hid; have := HXs.out.len hk; omega
      have HC1 : Hid (cutM (flatT xs) = (T, 0, 0)) := by
        unfold Hid
        rw [cut_all (fun x hx => ⟨(HXs.out.2 x hx).1, (HXs.out.2 x hx).2.1⟩) (by have := HLx.out; omega) (by omega), HXT.out]
      have HC2 : Hid (cutM [47, 42, 32, 97, 32, 42, 47, 32, 35, 32, 98] = ([], 0, 0)) := none_cut
      have HC3 : Hid (cutM (flatT xs ++ [47, 42]) = ([], ((flatT xs).length : Int), 4)) := by
        unfold Hid
        exact cut_bad (fun x hx => ⟨(HXs.out.2 x hx).1, (HXs.out.2 x hx).2.1⟩) (by have := HLx.out; omega) (fun q _ => open_cut q) (by rw [List.length_append]; simp; omega)
      have HS2 : Hid (S (flatT xs) ++ (⟨#[47, 42]⟩ : ByteArray) = S (flatT xs ++ [47, 42])) := S_app _ [47, 42]
      have HSZ : Hid (((flatT xs).length : Int) = ((S (flatT xs)).size : Int)) := by unfold Hid; rw [size_S]
      have HE3 : Hid (Env wr) := HE2.out.below HB.out
      have HA3 : Hid (ToksAt wr a1 T) := HA2.out.below HB.out
      have HB3 : Hid (Below w.heap.size w wr) := HB2.out.trans (HB.out.mono HB2.out.size)
      clear hkT
      go_wp2_with fail
      refine (tcut_any (flatT xs) _ HE3.out.1).mono ?_
      rw [HC1.out]
      rintro e w4 ⟨a4, c4, rfl, hA4, hb4⟩
      have HB4 : Hid (Below w.heap.size w w4) := HB3.out.trans (hb4.mono HB3.out.size)
      have HE4 : Hid (Env w4) := HE3.out.below hb4
      have HA4 : Hid (ToksAt w4 a1 T) := HA3.out.below hb4
      have HG4 : Hid (ToksAt w4 a4 T) := hA4
      clear hb4 hA4
      go_wp2_with fail
      refine (tcut_any [47, 42, 32, 97, 32, 42, 47, 32, 35, 32, 98] _ HE4.out.1).mono ?_
      rw [HC2.out]
      rintro e w5 ⟨a5, c5, rfl, _, hb5⟩
      have HB5 : Hid (Below w.heap.size w w5) := HB4.out.trans (hb5.mono HB4.out.size)
      have HE5 : Hid (Env w5) := HE4.out.below hb5
      have HA5 : Hid (ToksAt w5 a1 T) := HA4.out.below hb5
      have HG5 : Hid (ToksAt w5 a4 T) := HG4.out.below hb5
      clear hb5
      go_wp2_with fail
      rw [HS2.out]
      refine (tcut_any _ _ HE5.out.1).mono ?_
      rw [HC3.out]
      rintro e w6 ⟨a6, c6, rfl, _, hb6⟩
      have HB6 : Hid (Below w.heap.size w w6) := HB5.out.trans (hb6.mono HB5.out.size)
      have HA6 : Hid (ToksAt w6 a1 T) := HA5.out.below hb6
      have HG6 : Hid (ToksAt w6 a4 T) := HG5.out.below hb6
      clear hb6
      simp only
      rw [HSZ.out]
      go_wp2_with fail
      refine (sameK_any a1 a4 c1 c4 T _ HA6.out HG6.out (by omega)).mono ?_
      rintro e w7 ⟨rfl, hb7⟩
      go_wp2
      go_ret
      exact ⟨ret_bool (by first | rfl | simp), HB6.out.trans (hb7.mono HB6.out.size)⟩
end Go.Proofs.YtfdkeodfkapncaaDoor
