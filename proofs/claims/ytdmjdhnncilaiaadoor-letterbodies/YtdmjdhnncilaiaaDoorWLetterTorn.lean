/-
  Without its empty line a message is too short: walked.
-/
import Derived.Test.YtdmjdhnncilaiaaDoorLetCard
import Derived.Test.YtdmjdhnncilaiaaDoorLetLines
import Derived.Test.YtdmjdhnncilaiaaDoorLetTorn
import Derived.Test.YtdmjdhnncilaiaaDoorKeepPick
namespace Go.Proofs.YtdmjdhnncilaiaaDoor
open Go.ChangeShapes Go.WideShapes Go.ChangeAt Go.RowKit

theorem cutB_empty (n : Nat) : cutB ⟨#[]⟩ n = ⟨#[]⟩ := by
  have h : (cutB ⟨#[]⟩ n).size = 0 := by rw [cutB_size]; simp [ByteArray.size]
  have : (cutB ⟨#[]⟩ n).data.toList = [] := List.length_eq_zero_iff.1 (by rw [size_list]; exact h)
  rw [← S_list (cutB ⟨#[]⟩ n), this]; rfl
theorem torn_parse (fs : List F) (k : Nat) (hk : k < (textM (msgK fs 6) []).length) : ∃ i : Int, parseM ((textM (msgK fs 6) []).take k) = ([], [], i, 4) ∧ i ≤ (msgK fs 6).length := by
  have h1 := msg_len fs
  have h2 := msg_sum fs
  obtain ⟨i, e, hi⟩ := parse_torn (msgK fs 6) 0 [] k (msg_may fs) (by simp; omega) hk
  refine ⟨i, ?_, by omega⟩
  unfold parseM
  rw [if_neg (by simp [length_textM]; omega)]
  exact e
theorem extract_list (s : ByteArray) (k : Nat) : (s.extract 0 k).data.toList = s.data.toList.take k := by
  simp only [ByteArray.data_extract, Array.toList_extract]
  simp

set_option maxHeartbeats 4000000 in
set_option maxRecDepth 100000 in
theorem letterTorn_walk (w : World) (hm : maxLenCell w) (a : Option Addr) (c : Nat) (fs : List F) (hF : FieldsAt w a fs) (hL : fs.length ≤ maxLen) (hB : ∀ f ∈ fs, f.1.length ≤ maxLen ∧ f.2.length ≤ maxLen) (n : Int) (hn : (Lit.int .i64 n).wf = true) :
    Calls Tryd.prog 4 #[.slice a fs.length c, .int .i64 n] w fun e w' => e = .returned (.bool true) ∧ Below w.heap.size w w' := by
  have HMi : Hid _ := msg_mild fs ⟨#[]⟩ (Nat.zero_le _)
  have HFa : Hid (faultM (msgK fs 6) (⟨#[]⟩ : ByteArray).data.toList = 0) := msg_fault fs [] (by simp)
  have HTs : Hid ((S (textM (msgK fs 6) [])).size = (textM (msgK fs 6) []).length) := size_S _
  have HSz : Hid ((S (textM (msgK fs 6) [])).size ≤ 2000 ∧ 2 ≤ (S (textM (msgK fs 6) [])).size) := by
    have := msg_sum fs
    unfold Hid; rw [size_S, length_textM]; simp; omega
  obtain ⟨K, hK⟩ : ∃ K, K = pickN n (S (textM (msgK fs 6) [])).size := ⟨_, rfl⟩
  have hKl : K < (S (textM (msgK fs 6) [])).size := by rw [hK]; exact pickN_lt _ _ (by have := HSz.out; omega)
  obtain ⟨i, hi, hil⟩ := torn_parse fs K (by rw [← HTs.out]; exact hKl)
  have HPa : Hid (parseM ((S (textM (msgK fs 6) [])).extract 0 K).data.toList = ([], (⟨#[]⟩ : ByteArray).data.toList, i, 4)) := by unfold Hid; rw [extract_list, list_S]; exact hi
  have HKe : Hid _ := hK.symm
  have HZ2 : Hid (((S (textM (msgK fs 6) [])).extract 0 K).size ≤ maxLen) := by
    unfold Hid; rw [← size_list, extract_list]; have := HSz.out.1; unfold maxLen; simp; omega
  have HCu : Hid (cutB (⟨#[]⟩ : ByteArray) 200 = ⟨#[]⟩) := cutB_empty 200
  have HL : Hid _ := hL
  have HB : Hid _ := hB
  have HN : Hid _ := hn
  clear hL hB hn hK hi HTs
  go_enter Tryd.func4, Tryd.ntmps4
  go_wp2_with fail
  refine (message_any a c fs ⟨#[]⟩ _ hF HL.out HB.out (Nat.zero_le _)).mono ?_
  rintro e w1 ⟨a1, c1, rfl, hF1, hb1⟩
  rw [HCu.out]
  obtain ⟨M, hM⟩ : ∃ M, M = msgK fs 6 := ⟨_, rfl⟩
  rw [← hM] at hF1 HMi HFa HPa HSz HKe HZ2 hKl hil ⊢
  clear hM
  have hN1 : Below w1.heap.size w1 (w1.alloc (.cells #[.slice a1 M.length c1, .string ⟨#[]⟩] 25)) := (Below.refl _ _).alloc (Nat.le_refl _) _
  go_wp2_with fail
  refine (show_ok a1 c1 M ⟨#[]⟩ _ (hF1.below hN1) HMi.out (maxLenCell_below hm (bnext hb1 hN1 (Nat.le_refl _))) HFa.out).mono ?_
  rintro e w2 ⟨rfl, hb2⟩
  have hte : textM M (⟨#[]⟩ : ByteArray).data.toList = textM M [] := rfl
  rw [hte]
  clear hte
  have p0 : w2.cell? ⟨w1.heap.size, 0, none⟩ = some (.slice a1 M.length c1) := cell_next (by simp) hb2
  have hB2 := bnext (bnext hb1 hN1 (Nat.le_refl _)) hb2 (Nat.le_refl _)
  obtain ⟨T, hT⟩ : ∃ T, T = S (textM M []) := ⟨_, rfl⟩
  rw [← hT] at HPa HSz HKe HZ2 hKl ⊢
  clear hT
  have hs1 := HSz.out.1
  have hs2 := HSz.out.2
  have hs0 : ((T.size : Int) == 0) = false := by rw [beq_eq_false_iff_ne]; omega
  go_wp2_with fail
  refine (picked_any n T.size _ HN.out (by omega) (by omega)).mono ?_
  rintro e u ⟨rfl, hu⟩
  have hu' := hu.symm
  subst hu'
  rw [HKe.out]
  have k0 : (0 : Int) ≤ (K : Int) := by omega
  have k1 : (K : Int) ≤ (T.size : Int) := by omega
  go_wp2_with fail
  refine (parse_isL (T.extract 0 K) [] ⟨#[]⟩ i 4 HPa.out _ HZ2.out (maxLenCell_below hm hB2)).mono ?_
  rintro e w3 ⟨a3, c3, rfl, hF3, hb3⟩
  have hB3 := bnext hB2 hb3 (Nat.le_refl _)
  have p2 := cell_next p0 hb3
  have hz3 : w1.heap.size < w3.heap.size := World.block_lt_of_cell? w3 _ p2
  go_wp2
  go_ret
  exact ⟨by first | rfl | (simp; done) | (simp; omega), hB3.alloc hB3.size _⟩
end Go.Proofs.YtdmjdhnncilaiaaDoor
