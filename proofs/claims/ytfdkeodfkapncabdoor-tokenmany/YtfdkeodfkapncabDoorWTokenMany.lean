/-
  There are not too many tokens, nor is a script too long: walked.
-/
import Derived.Test.YtfdkeodfkapncabDoorKeepPick
import Derived.Test.YtfdkeodfkapncabDoorTokJoin
import Derived.Test.YtfdkeodfkapncabDoorTokCut
import Derived.Test.YtfdkeodfkapncabDoorTokMore
import Derived.Test.YtfdkeodfkapncabDoorBytes
namespace Go.Proofs.YtfdkeodfkapncabDoor
open Go.RowKit Go.Proofs

theorem semis_text (k : Nat) : ∀ t ∈ List.replicate k semiT, t.text.length ≤ maxLen := by
  intro t ht
  rw [(List.mem_replicate.1 ht).2]
  unfold maxLen; decide
theorem many_len (k : Nat) : ((List.replicate k ([59, 32] : List UInt8)).flatten).length = 2 * k := by
  simp [List.length_flatten]; omega

set_option maxHeartbeats 16000000 in
set_option maxRecDepth 100000 in
theorem tokenMany_walk (w : World) (hE : Env w) (n : Int) (hn : (Lit.int .i64 n).wf = true) :
    Calls Tryd.prog 4 #[.int .i64 n] w fun e w' => e = .returned (.bool true) ∧ Below w.heap.size w w' := by
  obtain ⟨i0, hi, hz0, hz1, hz2⟩ := info_parts infoTok
  have HE : Hid (Env w) := hE
  have HN : Hid _ := hn
  obtain ⟨k, hk⟩ : ∃ k, k = pickN n 800 := ⟨_, rfl⟩
  have hk8 : k < 800 := by rw [hk]; exact pickN_lt n 800 (by decide)
  have HK : Hid _ := hk
  clear hE hn hk
  go_enter Tryd.func4, Tryd.ntmps4
  go_wp2_with fail
  refine (picked_any n 800 _ HN.out (by decide) (by decide)).mono ?_
  rintro e u ⟨rfl, hu⟩
  have hu' := hu.symm
  subst hu'
  rw [← HK.out]
  go_wp2
  go_loopw [4, 5, 6] (fun v s i wr => ∃ (j : Nat) (a0 : Option Addr) (c0 : Nat), j ≤ k ∧ i = .int .i64 j ∧ v = .slice a0 j c0 ∧ s = .string (S (List.replicate j 59)) ∧ Hid (wr.ownsRow w.heap.size 35 3 (.slice a0 j c0) j (cellsT (List.replicate j semiT))) ∧ Hid (Below w.heap.size w wr)) (fun _ _ i _ => k - (intOf i).toNat)
  case atStart => exact ⟨0, none, 0, Nat.zero_le _, rfl, rfl, rfl, World.ownsRow_nil _ _ _ _, Below.refl _ _⟩
  case round =>
    obtain ⟨j, a0, c0, hj, rfl, rfl, rfl, HO, HB⟩ := hrel
    by_cases hlt : j < k
    · have i1 : (j : Int) < (k : Int) := by omega
      have HC : Hid (cellsT (List.replicate (j + 1) semiT) = cellsT (List.replicate j semiT) ++ [.int .i64 5, .string ⟨#[59]⟩, .int .i64 0]) := by
        unfold Hid; rw [List.replicate_succ', cellsT_snoc]; rfl
      have HS : Hid (S (List.replicate j 59) ++ (⟨#[59]⟩ : ByteArray) = S (List.replicate (j + 1) 59)) := by
        unfold Hid
        have e1 : (⟨#[59]⟩ : ByteArray) = S [59] := rfl
        rw [e1, S_app, List.replicate_succ']
      have hsz : (S (List.replicate j 59)).size ≤ 800 := by rw [size_S, List.length_replicate]; omega
      have hz := HB.out.size
      go_wp2_with (at_builtin; refine wpList_append_own _ rfl _ _ 26 rfl w.heap.size 35 i0 _ 3 32 Tryd.underlying26 hi hz0 hz1 hz2 rfl (by decide) (.slice a0 j c0) j (cellsT (List.replicate j semiT)) rfl (World.ownsRow.alloc HO.out _) ⟨wr.heap.size, 0, none⟩ 1 1 [.int .i64 5, .string ⟨#[59]⟩, .int .i64 0] rfl rfl (tri_at _ _ rfl _ _ _ _) ?c2 ?c3 ?c4 ?c5 ?_)
      case c2 => intro u hu; simp at hu; rcases hu with rfl | rfl | rfl <;> rfl
      case c3 => unfold maxLen; omega
      case c4 => omega
      case c5 => simp; omega
      intro v' w4 hown' hgrow _
      have hB4 : Below w.heap.size w w4 := (HB.out.alloc hz _).grown hgrow (by simp; omega) (fun j hj => (World.ownsRow.lt HO.out j hj).1)
      obtain ⟨a2, c2, hv2⟩ := own_form hown'
      subst hv2
      have HO4 : Hid (w4.ownsRow w.heap.size 35 3 (.slice a2 (j + 1) c2) (j + 1) (cellsT (List.replicate (j + 1) semiT))) := by
        unfold Hid; rw [HC.out]; exact hown'
      have HB4 : Hid (Below w.heap.size w w4) := hB4
      clear hown' hgrow hB4
      go_wp2
      rw [HS.out]
      go_roundw
      case rel => exact ⟨j + 1, a2, c2, by omega, by go_num, by first | rfl | simp, rfl, HO4, HB4⟩
      case measure => simp [intOf]; omega
    · have i1 : ¬ (j : Int) < (k : Int) := by omega
      have hjk : j = k := by omega
      subst hjk
      have HA : Hid (ToksAt wr a0 (List.replicate j semiT)) := by
        unfold Hid
        refine OwnT.at (B := w.heap.size) (c := c0) ?_
        unfold OwnT
        rw [List.length_replicate]
        exact HO.out
      have HE1 : Hid (Env wr) := HE.out.below HB.out
      have HTX : Hid _ := semis_text j
      by_cases h4 : j ≤ 400
      · have h4i : ¬ (400 : Int) < (j : Int) := by omega
        have HJ : Hid (joinV (joinM (List.replicate j semiT)) = .tuple #[.string (S (List.replicate j ([59, 32] : List UInt8)).flatten), .int .i64 0]) := by unfold Hid joinV; rw [many_join h4]
        have HC : Hid (cutM (List.replicate j 59) = (List.replicate j semiT, 0, 0)) := by unfold Hid; rw [many_cut (by omega), if_pos h4]
        have hfl : ((S (List.replicate j ([59, 32] : List UInt8)).flatten).size : Int) = 2 * (j : Int) := by rw [size_S, many_len]; omega
        have HL : Hid ((List.replicate j semiT).length = j) := List.length_replicate
        go_wp2_with fail
        have hcall := tjoin_any a0 c0 (List.replicate j semiT) wr HE1.out HA.out HTX.out
        rw [HL.out] at hcall
        refine hcall.mono ?_
        clear hcall
        rintro e w2 ⟨rfl, hb2⟩
        rw [HJ.out]
        have HB2 : Hid (Below w.heap.size w w2) := HB.out.trans (hb2.mono HB.out.size)
        have HE2 : Hid (Env w2) := HE1.out.below hb2
        clear hb2
        go_wp2_with fail
        refine (tcut_any (List.replicate j 59) _ HE2.out.1).mono ?_
        rw [HC.out]
        rintro e w3 ⟨a3, c3, rfl, _, hb3⟩
        have HB3 : Hid (Below w.heap.size w w3) := HB2.out.trans (hb3.mono HB2.out.size)
        clear hb3
        simp only
        rw [HL.out]
        go_wp2
        go_ret
        exact ⟨ret_bool (by first | rfl | simp), HB3.out⟩
      · have h4i : (400 : Int) < (j : Int) := by omega
        have HJ : Hid (joinV (joinM (List.replicate j semiT)) = .tuple #[.string ⟨#[]⟩, .int .i64 5]) := by unfold Hid joinV; rw [many_join_full (by omega)]; rfl
        have HC : Hid (cutM (List.replicate j 59) = ([], 400, 5)) := by unfold Hid; rw [many_cut (by omega), if_neg h4]
        have HL : Hid ((List.replicate j semiT).length = j) := List.length_replicate
        go_wp2_with fail
        have hcall := tjoin_any a0 c0 (List.replicate j semiT) wr HE1.out HA.out HTX.out
        rw [HL.out] at hcall
        refine hcall.mono ?_
        clear hcall
        rintro e w2 ⟨rfl, hb2⟩
        rw [HJ.out]
        have HB2 : Hid (Below w.heap.size w w2) := HB.out.trans (hb2.mono HB.out.size)
        have HE2 : Hid (Env w2) := HE1.out.below hb2
        clear hb2
        go_wp2_with fail
        refine (tcut_any (List.replicate j 59) _ HE2.out.1).mono ?_
        rw [HC.out]
        rintro e w3 ⟨a3, c3, rfl, _, hb3⟩
        have HB3 : Hid (Below w.heap.size w w3) := HB2.out.trans (hb3.mono HB2.out.size)
        clear hb3
        go_wp2
        go_ret
        exact ⟨ret_bool (by first | rfl | simp), HB3.out⟩
end Go.Proofs.YtfdkeodfkapncabDoor
