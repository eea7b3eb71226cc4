/-
  A message is parsed as it was shown: walked.
-/
import Derived.Test.YtpkfafglpilkoaaDoorLetCard
import Derived.Test.YtpkfafglpilkoaaDoorLetLines
import Derived.Test.YtpkfafglpilkoaaDoorLetSameK
namespace Go.Proofs.YtpkfafglpilkoaaDoor
open Go.ChangeShapes Go.WideShapes Go.ChangeAt Go.RowKit

set_option maxHeartbeats 4000000 in
set_option maxRecDepth 100000 in
theorem letterBack_walk (w : World) (hm : maxLenCell w) (a : Option Addr) (c : Nat) (fs : List F) (hF : FieldsAt w a fs) (hL : fs.length ≤ maxLen) (hB : ∀ f ∈ fs, f.1.length ≤ maxLen ∧ f.2.length ≤ maxLen) (body : ByteArray) (hb : body.size ≤ maxLen) :
    Calls Tryd.prog 7 #[.slice a fs.length c, .string body] w fun e w' => e = .returned (.bool true) ∧ Below w.heap.size w w' := by
  have hcs : (cutB body 200).size ≤ 200 := by rw [cutB_size]; omega
  have hcl : (cutB body 200).data.toList.length ≤ 200 := by rw [size_list]; exact hcs
  have HMi : Hid _ := msg_mild fs (cutB body 200) (by omega)
  have HFa : Hid _ := msg_fault fs _ hcl
  have HPa : Hid (parseM (S (textM (msgK fs 6) (cutB body 200).data.toList)).data.toList = (msgK fs 6, (cutB body 200).data.toList, 0, 0)) := by unfold Hid; rw [list_S]; exact msg_parse fs _ hcl
  have HSz : Hid _ := text_size fs _ hcl
  have HL : Hid _ := hL
  have HB : Hid _ := hB
  have HY : Hid _ := hb
  clear hL hB hb hcs hcl
  go_enter Tryd.func7, Tryd.ntmps7
  go_wp2_with fail
  refine (message_any a c fs body _ hF HL.out HB.out HY.out).mono ?_
  rintro e w1 ⟨a1, c1, rfl, hF1, hb1⟩
  obtain ⟨M, hM⟩ : ∃ M, M = msgK fs 6 := ⟨_, rfl⟩
  obtain ⟨bd, hbd⟩ : ∃ bd, bd = cutB body 200 := ⟨_, rfl⟩
  rw [← hM] at hF1 HMi HFa HPa HSz ⊢
  rw [← hbd] at HMi HFa HPa HSz ⊢
  clear hM hbd
  have hN1 : Below w1.heap.size w1 (w1.alloc (.cells #[.slice a1 M.length c1, .string bd] 24)) := (Below.refl _ _).alloc (Nat.le_refl _) _
  go_wp2_with fail
  refine (show_ok a1 c1 M bd _ (hF1.below hN1) HMi.out (maxLenCell_below hm (bnext hb1 hN1 (Nat.le_refl _))) HFa.out).mono ?_
  rintro e w2 ⟨rfl, hb2⟩
  have p0 : w2.cell? ⟨w1.heap.size, 0, none⟩ = some (.slice a1 M.length c1) := cell_next (by simp) hb2
  have p1 : w2.cell? ⟨w1.heap.size, 1, none⟩ = some (.string bd) := cell_next (by simp) hb2
  have hB2 := bnext (bnext hb1 hN1 (Nat.le_refl _)) hb2 (Nat.le_refl _)
  have hF2 := (hF1.below hN1).below hb2
  have hs2 := HSz.out.2
  obtain ⟨T, hT⟩ : ∃ T, T = S (textM M bd.data.toList) := ⟨_, rfl⟩
  rw [← hT] at HPa HSz hs2 ⊢
  clear hT
  go_wp2_with fail
  refine (parse_isL T M bd 0 0 HPa.out _ HSz.out.1 (maxLenCell_below hm hB2)).mono ?_
  rintro e w3 ⟨a3, c3, rfl, hF3, hb3⟩
  have hB3 := bnext hB2 hb3 (Nat.le_refl _)
  have hN3 : Below w3.heap.size w3 (w3.alloc (.cells #[.slice a3 M.length c3, .string bd] 24)) := (Below.refl _ _).alloc (Nat.le_refl _) _
  have p2 := cell_next p0 hb3
  have p3 := cell_next p1 hb3
  have hz3 : w1.heap.size < w3.heap.size := World.block_lt_of_cell? w3 _ p2
  go_wp2_with fail
  refine (sameK_any a1 a3 c1 c3 M bd _ ((hF2.below hb3).below hN3) (hF3.below hN3) HMi.out.1).mono ?_
  rintro e w4 ⟨rfl, hb4⟩
  have p4 := cell_next (cell_more p2 (.cells #[.slice a3 M.length c3, .string bd] 24)) hb4
  have p5 := cell_next (cell_more p3 (.cells #[.slice a3 M.length c3, .string bd] 24)) hb4
  have hB4 := bnext (bnext hB3 hN3 (Nat.le_refl _)) hb4 (Nat.le_refl _)
  go_wp2_with fail
  refine (check_any a1 c1 M bd _ (((hF2.below hb3).below hN3).below hb4) HMi.out (maxLenCell_below hm hB4)).mono ?_
  rintro e w5 ⟨rfl, hb5⟩
  rw [HFa.out]
  go_wp2
  go_ret
  exact ⟨by first | rfl | (simp; done) | (simp; omega), bnext hB4 hb5 (Nat.le_refl _)⟩
end Go.Proofs.YtpkfafglpilkoaaDoor
