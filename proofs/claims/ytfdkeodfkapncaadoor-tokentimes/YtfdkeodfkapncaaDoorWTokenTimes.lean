/-
  K is 1024 times, M that times 1024; what is above the bound is refused: walked.
-/
import Derived.Test.YtfdkeodfkapncaaDoorKeepPick
import Derived.Test.YtfdkeodfkapncaaDoorTokJoin
import Derived.Test.YtfdkeodfkapncaaDoorTokCut
import Derived.Test.YtfdkeodfkapncaaDoorTokMore
import Derived.Deep.QuietTactic
import Derived.BigQuiet
namespace Go.Proofs.YtfdkeodfkapncaaDoor
open Go.RowKit Go.Proofs

theorem toks_one (w : World) (t : Tok) : ToksAt (w.alloc (.cells #[.int .i64 t.kind, .string (S t.text), .int .i64 t.num] 34)) (some ⟨w.heap.size, 0, none⟩) [t] := by
  intro i x hx
  cases i with
  | zero =>
    simp at hx; subst hx
    exact ⟨w.heap.size, 0, rfl, by simp, (tokB_new w t).c0, (tokB_new w t).c1, (tokB_new w t).c2⟩
  | succ i => simp at hx
theorem S_nil0 : S [] = ⟨#[]⟩ := rfl
theorem num_join {n : Nat} (h : n < 2047) : joinM [numT n] = (decL n ++ [32], 0) := by
  have hf : faultT (numT n) = 0 := by
    unfold faultT numT
    simp only
    rw [if_neg (by omega), if_pos trivial, if_neg (by omega)]
    rfl
  have ht : textT (numT n) = decL n := by unfold textT numT; simp
  have hl := decL_short (n := n) (by omega)
  have := joinM_lawful (ts := [numT n]) (fun t ht => by rw [List.mem_singleton.1 ht]; exact hf) (by simp) (by simp [flatT, ht]; omega)
  rw [this]
  simp [flatT, ht]

set_option maxHeartbeats 16000000 in
set_option maxRecDepth 100000 in
theorem tokenTimes_walk (w : World) (hE : Env w) (n : Int) (hn : (Lit.int .i64 n).wf = true) :
    Calls Tryd.prog 6 #[.int .i64 n] w fun e w' => e = .returned (.bool true) ∧ Below w.heap.size w w' := by
  have HE : Hid (Env w) := hE
  have HN : Hid _ := hn
  obtain ⟨k, hk⟩ : ∃ k, k = pickN n 2047 := ⟨_, rfl⟩
  have hk7 : k < 2047 := by rw [hk]; exact pickN_lt n 2047 (by decide)
  obtain ⟨d, hd⟩ : ∃ d, d = decL k := ⟨_, rfl⟩
  have hdl : d.length ≤ 10 := by rw [hd]; exact decL_short (by omega)
  have HJ : Hid (joinV (joinM [numT k]) = .tuple #[.string (S (d ++ [32])), .int .i64 0]) := by unfold Hid joinV; rw [num_join hk7, hd]
  have hz0 : (S (d ++ [32])).size = d.length + 1 := by rw [size_S]; simp
  have HZ0 : Hid _ := hz0
  have HX : Hid ((S (d ++ [32])).extract 0 d.length = S d) := by unfold Hid; rw [S_take, List.take_left]
  have hdz : (S d).size ≤ 10 := by rw [size_S]; exact hdl
  have HKt : Hid (S d ++ (⟨#[75]⟩ : ByteArray) ++ (⟨#[32]⟩ : ByteArray) ++ S d ++ (⟨#[107]⟩ : ByteArray) = S (d ++ [75] ++ [32] ++ d ++ [107])) := by
    unfold Hid
    have e1 : (⟨#[75]⟩ : ByteArray) = S [75] := rfl
    have e2 : (⟨#[32]⟩ : ByteArray) = S [32] := rfl
    have e3 : (⟨#[107]⟩ : ByteArray) = S [107] := rfl
    rw [e1, e2, e3, S_app, S_app, S_app, S_app]
  have HMt : Hid (S d ++ (⟨#[77]⟩ : ByteArray) = S (d ++ [77])) := S_app d [77]
  have HBt : Hid (S d ++ (⟨#[75, 98]⟩ : ByteArray) = S (d ++ [75, 98])) := S_app d [75, 98]
  have HCK : Hid (cutM (d ++ [75] ++ [32] ++ d ++ [107]) = ([numT (k * 1024), numT (k * 1024)], 0, 0)) := by unfold Hid; rw [hd]; exact times_K hk7
  have HCM : Hid (cutM (d ++ [77]) = ([numT (k * 1048576)], 0, 0)) := by unfold Hid; rw [hd]; exact times_M hk7
  have HCB : Hid (cutM (d ++ [75, 98]) = ([], 0, 3)) := by unfold Hid; rw [hd]; exact times_bad hk7
  have HC8 : Hid (cutM [50, 48, 52, 56, 77] = ([], 0, 6)) := times_big
  have HK : Hid _ := hk
  have hmx : max ((d.length : Int) + 1 - 1) 0 = (d.length : Int) := by omega
  have i1 : (0 : Int) ≤ (d.length : Int) := by omega
  clear hE hn hk hd
  go_enter Tryd.func6, Tryd.ntmps6
  go_wp2_with fail
  refine (picked_any n 2047 _ HN.out (by decide) (by decide)).mono ?_
  rintro e u ⟨rfl, hu⟩
  have hu' := hu.symm
  subst hu'
  rw [← HK.out]
  obtain ⟨w1, hw1⟩ : ∃ w1, w1 = w.alloc (.cells #[.int .i64 3, .string ⟨#[]⟩, .int .i64 (k : Nat)] 34) := ⟨_, rfl⟩
  have hb1 : Below w.heap.size w w1 := by rw [hw1]; exact (Below.refl _ _).alloc (Nat.le_refl _) _
  have HO1 : Hid (ToksAt w1 (some ⟨w.heap.size, 0, none⟩) [numT k]) := by unfold Hid; rw [hw1]; exact toks_one w (numT k)
  have HB1 : Hid (Below w.heap.size w w1) := hb1
  have HE1 : Hid (Env w1) := HE.out.below hb1
  have HW1 : Hid _ := hw1
  clear hb1 hw1
  go_wp2_with fail
  rw [← HW1.out]
  refine (tjoin_any (some ⟨w.heap.size, 0, none⟩) 1 [numT k] _ HE1.out HO1.out (by intro t ht; simp at ht; subst ht; unfold maxLen; simp [numT])).mono ?_
  rintro e w2 ⟨rfl, hb2⟩
  rw [HJ.out]
  have HB2 : Hid (Below w.heap.size w w2) := HB1.out.trans (hb2.mono HB1.out.size)
  have HE2 : Hid (Env w2) := HE1.out.below hb2
  clear hb2
  go_wp2_with fail
  rw [HX.out, HKt.out]
  refine (tcut_any _ _ HE2.out.1).mono ?_
  rw [HCK.out]
  rintro e w3 ⟨a3, c3, rfl, hA3, hb3⟩
  have HB3 : Hid (Below w.heap.size w w3) := HB2.out.trans (hb3.mono HB2.out.size)
  have HE3 : Hid (Env w3) := HE2.out.below hb3
  have HA3 : Hid (ToksAt w3 a3 [numT (k * 1024), numT (k * 1024)]) := hA3
  clear hb3 hA3
  go_wp2_with fail
  rw [HMt.out]
  refine (tcut_any _ _ HE3.out.1).mono ?_
  rw [HCM.out]
  rintro e w4 ⟨a4, c4, rfl, hA4, hb4⟩
  have HB4 : Hid (Below w.heap.size w w4) := HB3.out.trans (hb4.mono HB3.out.size)
  have HE4 : Hid (Env w4) := HE3.out.below hb4
  have HA4 : Hid (ToksAt w4 a3 [numT (k * 1024), numT (k * 1024)]) := HA3.out.below hb4
  have HM4 : Hid (ToksAt w4 a4 [numT (k * 1048576)]) := hA4
  clear hb4 hA4
  go_wp2_with fail
  refine (tcut_any [50, 48, 52, 56, 77] _ HE4.out.1).mono ?_
  rw [HC8.out]
  rintro e w5 ⟨a5, c5, rfl, _, hb5⟩
  have HB5 : Hid (Below w.heap.size w w5) := HB4.out.trans (hb5.mono HB4.out.size)
  have HE5 : Hid (Env w5) := HE4.out.below hb5
  have HA5 : Hid (ToksAt w5 a3 [numT (k * 1024), numT (k * 1024)]) := HA4.out.below hb5
  have HM5 : Hid (ToksAt w5 a4 [numT (k * 1048576)]) := HM4.out.below hb5
  clear hb5
  go_wp2_with fail
  rw [HBt.out]
  refine (tcut_any _ _ HE5.out.1).mono ?_
  rw [HCB.out]
  rintro e w6 ⟨a6, c6, rfl, _, hb6⟩
  have HB6 : Hid (Below w.heap.size w w6) := HB5.out.trans (hb6.mono HB5.out.size)
  obtain ⟨b3, o3, rfl, _, x0, x1, x2⟩ := (HA5.out.below hb6) 0 (numT (k * 1024)) rfl
  obtain ⟨b3', o3', he3, _, y0, y1, y2⟩ := (HA5.out.below hb6) 1 (numT (k * 1024)) rfl
  simp only [Option.some.injEq, Addr.mk.injEq, and_true] at he3
  obtain ⟨rfl, rfl⟩ := he3
  obtain ⟨b4, o4, rfl, _, z0, z1, z2⟩ := (HM5.out.below hb6) 0 (numT (k * 1048576)) rfl
  have e1 : ((k * 1024 : Nat) : Int) = 1024 * (k : Int) := by omega
  have e2 : ((k * 1048576 : Nat) : Int) = 1048576 * (k : Int) := by omega
  simp only [numT, e1, e2, Nat.zero_mul, Nat.add_zero, Nat.one_mul, S_nil0] at x0 x1 x2 y0 y1 y2 z0 z1 z2
  clear hb6 e1 e2
  go_wp2
  go_quiet (fail)
  go_wp2
  go_ret
  exact ⟨ret_bool (by first | rfl | simp), wdrew HB6.out nq⟩
end Go.Proofs.YtfdkeodfkapncaaDoor
