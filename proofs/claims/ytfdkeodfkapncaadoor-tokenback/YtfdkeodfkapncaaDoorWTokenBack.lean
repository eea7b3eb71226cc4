/-
  Tokens are cut as they were joined: walked.
-/
import Derived.Test.YtfdkeodfkapncaaDoorTokKeep
import Derived.Test.YtfdkeodfkapncaaDoorTokJoin
import Derived.Test.YtfdkeodfkapncaaDoorTokCut
import Derived.Test.YtfdkeodfkapncaaDoorPcsFlat
import Derived.Test.YtfdkeodfkapncaaDoorTokSame
namespace Go.Proofs.YtfdkeodfkapncaaDoor
open Go.RowKit Go.Proofs

def tokA : Tok := { kind := 1, text := [97], num := 0 }
theorem joinA : joinM [tokA] = ([97, 32], 0) := by decide
set_option maxHeartbeats 8000000 in
set_option maxRecDepth 100000 in
theorem tokenBack_walk (w : World) (hE : Env w) (a : Option Addr) (c : Nat) (ps : List Pce) (hF : PcsAt w a ps) (_ : ps.length ≤ maxLen) (hX : ∀ x ∈ ps, PceOk x) :
    Calls Tryd.prog 4 #[.slice a ps.length c] w fun e w' => e = .returned (.bool true) ∧ Below w.heap.size w w' := by
  have HX : Hid _ := hX
  have HF : Hid (PcsAt w a ps) := hF
  have HE : Hid (Env w) := hE
  obtain ⟨T, hT⟩ : ∃ T, T = pcsT ps 25 := ⟨_, rfl⟩
  obtain ⟨s, hs⟩ : ∃ s, s = flatT (T.map fun t => (t, [32])) := ⟨_, rfl⟩
  have HJ : Hid (joinV (joinM T) = .tuple #[.string (S s), .int .i64 0]) := by unfold Hid joinV; rw [hs, hT, pcs_join ps 25 (by decide)]
  have HC : Hid (cutM s = (T, 0, 0)) := by unfold Hid; rw [hs, hT, pcs_cut ps 25 (by decide)]
  have HA : Hid (joinV (joinM [tokA]) = .tuple #[.string ⟨#[97, 32]⟩, .int .i64 0]) := by unfold Hid; rw [joinA]; rfl
  have HTX : Hid (∀ t ∈ T, t.text.length ≤ maxLen) := by
    unfold Hid; rw [hT]; intro t ht; have := pcsT_text ps 25 t ht; unfold maxLen; omega
  have hTl : T.length ≤ 25 := by rw [hT]; unfold pcsT; rw [List.length_map, List.length_take]; omega
  have HT : Hid _ := hT
  clear hX hF hE hT hs
  go_enter Tryd.func4, Tryd.ntmps4
  go_wp2_with fail
  refine (tokens_any a c ps 25 _ HF.out HX.out (by decide)).mono ?_
  rw [← HT.out]
  rintro e w1 ⟨a1, c1, rfl, _, hA1, hb1⟩
  have HB1 : Hid (Below w.heap.size w w1) := hb1
  have HA1 : Hid (ToksAt w1 a1 T) := hA1
  have HE1 : Hid (Env w1) := HE.out.below hb1
  clear hA1 hb1
  go_wp2_with fail
  refine (tjoin_any a1 c1 T _ HE1.out HA1.out HTX.out).mono ?_
  rintro e w2 ⟨rfl, hb2⟩
  rw [HJ.out]
  have HB2 : Hid (Below w.heap.size w w2) := HB1.out.trans (hb2.mono HB1.out.size)
  have HA2 : Hid (ToksAt w2 a1 T) := HA1.out.below hb2
  have HE2 : Hid (Env w2) := HE1.out.below hb2
  clear hb2
  go_wp2_with fail
  refine (tcut_any s _ HE2.out.1).mono ?_
  rw [HC.out]
  rintro e w3 ⟨a3, c3, rfl, hA3, hb3⟩
  have HB3 : Hid (Below w.heap.size w w3) := HB2.out.trans (hb3.mono HB2.out.size)
  have HA3 : Hid (ToksAt w3 a1 T) := HA2.out.below hb3
  have HG3 : Hid (ToksAt w3 a3 T) := hA3
  have HE3 : Hid (Env w3) := HE2.out.below hb3
  clear hb3 hA3
  obtain ⟨w4, hw4⟩ : ∃ w4, w4 = w3.alloc (.cells #[.int .i64 1, .string ⟨#[97]⟩, .int .i64 0] 34) := ⟨_, rfl⟩
  have hb4 : Below w3.heap.size w3 w4 := by rw [hw4]; exact (Below.refl _ _).alloc (Nat.le_refl _) _
  have HO4 : Hid (ToksAt w4 (some ⟨w3.heap.size, 0, none⟩) [tokA]) := by unfold Hid; rw [hw4]; exact toks_one w3 tokA
  have HB4 : Hid (Below w.heap.size w w4) := HB3.out.trans (hb4.mono HB3.out.size)
  have HA4 : Hid (ToksAt w4 a1 T) := HA3.out.below hb4
  have HG4 : Hid (ToksAt w4 a3 T) := HG3.out.below hb4
  have HE4 : Hid (Env w4) := HE3.out.below hb4
  have HW4 : Hid _ := hw4
  clear hb4 hw4
  go_wp2_with fail
  rw [← HW4.out]
  refine (tjoin_any (some ⟨w3.heap.size, 0, none⟩) 1 [tokA] _ HE4.out HO4.out (by intro t ht; simp at ht; subst ht; unfold maxLen; decide)).mono ?_
  rintro e w5 ⟨rfl, hb5⟩
  rw [HA.out]
  have HB5 : Hid (Below w.heap.size w w5) := HB4.out.trans (hb5.mono HB4.out.size)
  have HA5 : Hid (ToksAt w5 a1 T) := HA4.out.below hb5
  have HG5 : Hid (ToksAt w5 a3 T) := HG4.out.below hb5
  clear hb5
  go_wp2_with fail
  refine (sameK_any a1 a3 c1 c3 T _ HA5.out HG5.out (by omega)).mono ?_
  rintro e w6 ⟨rfl, hb6⟩
  go_wp2
  go_ret
  exact ⟨rfl, HB5.out.trans (hb6.mono HB5.out.size)⟩
end Go.Proofs.YtfdkeodfkapncaaDoor
