/-
  What stands in the body does not change the fields: walked.
-/
import Derived.Test.YtdmjdhnncilaiaaDoorWLetterTorn
import Derived.Test.YtdmjdhnncilaiaaDoorLetSameK
namespace Go.Proofs.YtdmjdhnncilaiaaDoor
open Go.ChangeShapes Go.WideShapes Go.ChangeAt Go.RowKit

theorem body_parse (fs : List F) (b : ByteArray) (hb : b.size ≤ 100) : parseM (S (textM (msgK fs 6) []) ++ b).data.toList = (msgK fs 6, b.data.toList, 0, 0) := by
  have e : (S (textM (msgK fs 6) []) ++ b).data.toList = textM (msgK fs 6) b.data.toList := by
    simp only [ByteArray.data_append, Array.toList_append, list_S, textM, List.append_nil]
  rw [e]
  exact msg_parse fs _ (by rw [size_list]; omega)
theorem FieldsAt.far {w : World} {a : Option Addr} {fs : List F} (h : FieldsAt w a fs) {p : Addr} (v : Value) (hp : ∀ b off, fs ≠ [] → a = some ⟨b, off, none⟩ → p.block ≠ b) : FieldsAt (w.setCell p v) a fs := by
  intro i f hf
  obtain ⟨b, off, ha, hb, h1, h2⟩ := h i f hf
  have hne := hp b off (by rintro rfl; simp at hf) ha
  exact ⟨b, off, ha, by simpa using hb, (cell_set_far hne).trans h1, (cell_set_far hne).trans h2⟩
theorem FieldsAt.lt {w : World} {a : Option Addr} {fs : List F} (h : FieldsAt w a fs) {b off : Nat} (h0 : fs ≠ []) (ha : a = some ⟨b, off, none⟩) : b < w.heap.size := by
  obtain ⟨f, hf⟩ : ∃ f, fs[0]? = some f := ⟨_, List.getElem?_eq_getElem (List.length_pos_iff.2 h0)⟩
  obtain ⟨b', off', ha', hb, _⟩ := h 0 f hf
  rw [ha] at ha'
  simp only [Option.some.injEq, Addr.mk.injEq, and_true] at ha'
  omega
theorem FieldsAt.other {w : World} {a : Option Addr} {fs : List F} (h : FieldsAt w a fs) {b off g : Nat} (h0 : fs ≠ []) (ha : a = some ⟨b, off, none⟩) {x : Option Addr} {n c : Nat} (g0 : w.cell? ⟨g, 0, none⟩ = some (.slice x n c)) (g2 : ∀ j, 2 ≤ j → w.cell? ⟨g, j, none⟩ = none) : g ≠ b := by
  rintro rfl
  obtain ⟨f, hf⟩ : ∃ f, fs[0]? = some f := ⟨_, List.getElem?_eq_getElem (List.length_pos_iff.2 h0)⟩
  obtain ⟨b', off', ha', hb, h1, h2⟩ := h 0 f hf
  rw [ha] at ha'
  simp only [Option.some.injEq, Addr.mk.injEq, and_true] at ha'
  obtain ⟨rfl, rfl⟩ := ha'
  simp only [Nat.zero_mul, Nat.add_zero] at h1 h2
  rcases Nat.lt_or_ge off 1 with ho | ho
  · obtain rfl : off = 0 := by omega
    rw [g0] at h1; cases h1
  · rw [g2 (off + 1) (by omega)] at h2; cases h2
theorem cut_is (s : ByteArray) (b : ByteArray) (h : cutB s 100 = b) (w : World) (hs : s.size ≤ maxLen) :
    Calls Tryd.prog 14 #[.string s, .int .i64 100] w fun e w' => e = .returned (.string b) ∧ w' = w := by
  have := cut_any s 100 w hs (by omega)
  rw [h] at this
  exact this

set_option maxHeartbeats 8000000 in
set_option maxRecDepth 100000 in
theorem letterBodies_walk (w : World) (hm : maxLenCell w) (a : Option Addr) (c : Nat) (fs : List F) (hF : FieldsAt w a fs) (hL : fs.length ≤ maxLen) (hB : ∀ f ∈ fs, f.1.length ≤ maxLen ∧ f.2.length ≤ maxLen) (b1 : ByteArray) (hb1 : b1.size ≤ maxLen) (b2 : ByteArray) (hb2 : b2.size ≤ maxLen) :
    Calls Tryd.prog 6 #[.slice a fs.length c, .string b1, .string b2] w fun e w' => e = .returned (.bool true) ∧ Below w.heap.size w w' := by
  have HMi : Hid _ := msg_mild fs ⟨#[]⟩ (Nat.zero_le _)
  have HFa : Hid (faultM (msgK fs 6) (⟨#[]⟩ : ByteArray).data.toList = 0) := msg_fault fs [] (by simp)
  have HSz : Hid ((S (textM (msgK fs 6) [])).size ≤ 2000) := by
    have := msg_sum fs
    unfold Hid; rw [size_S, length_textM]; simp; omega
  have HCu : Hid (cutB (⟨#[]⟩ : ByteArray) 200 = ⟨#[]⟩) := cutB_empty 200
  have HL : Hid _ := hL
  have HB : Hid _ := hB
  have HY1 : Hid _ := hb1
  have HY2 : Hid _ := hb2
  obtain ⟨x1, hx1⟩ : ∃ x, cutB b1 100 = x := ⟨_, rfl⟩
  obtain ⟨x2, hx2⟩ : ∃ x, cutB b2 100 = x := ⟨_, rfl⟩
  have s1 : x1.size ≤ 100 := by rw [← hx1, cutB_size]; omega
  have s2 : x2.size ≤ 100 := by rw [← hx2, cutB_size]; omega
  have HP1 : Hid _ := body_parse fs x1 s1
  have HP2 : Hid _ := body_parse fs x2 s2
  have HX1 : Hid _ := hx1
  have HX2 : Hid _ := hx2
  clear hL hB hb1 hb2 hx1 hx2
  go_enter Tryd.func6, Tryd.ntmps6
  go_wp2_with fail
  refine (message_any a c fs ⟨#[]⟩ _ hF HL.out HB.out (Nat.zero_le _)).mono ?_
  rintro e w1 ⟨a1, c1, rfl, hF1, hb1⟩
  rw [HCu.out]
  obtain ⟨M, hM⟩ : ∃ M, M = msgK fs 6 := ⟨_, rfl⟩
  rw [← hM] at hF1 HMi HFa HP1 HP2 HSz ⊢
  clear hM
  have hN1 : Below w1.heap.size w1 (w1.alloc (.cells #[.slice a1 M.length c1, .string ⟨#[]⟩] 25)) := (Below.refl _ _).alloc (Nat.le_refl _) _
  go_wp2_with fail
  refine (show_ok a1 c1 M ⟨#[]⟩ _ (hF1.below hN1) HMi.out (maxLenCell_below hm (bnext hb1 hN1 (Nat.le_refl _))) HFa.out).mono ?_
  rintro e w2 ⟨rfl, hb2⟩
  have hte : textM M (⟨#[]⟩ : ByteArray).data.toList = textM M [] := rfl
  rw [hte]
  clear hte
  have p0 : w2.cell? ⟨w1.heap.size, 0, none⟩ = some (.slice a1 M.length c1) := cell_next (by simp) hb2
  have p1 : w2.cell? ⟨w1.heap.size, 1, none⟩ = some (.string ⟨#[]⟩) := cell_next (by simp) hb2
  have hB2 := bnext (bnext hb1 hN1 (Nat.le_refl _)) hb2 (Nat.le_refl _)
  have hF2 := (hF1.below hN1).below hb2
  obtain ⟨T, hT⟩ : ∃ T, T = S (textM M []) := ⟨_, rfl⟩
  rw [← hT] at HP1 HP2 HSz ⊢
  clear hT
  have ht := HSz.out
  have HZ1 : Hid ((T ++ x1).size ≤ maxLen) := by unfold Hid maxLen; rw [ByteArray.size_append]; omega
  have HZ2 : Hid ((T ++ x2).size ≤ maxLen) := by unfold Hid maxLen; rw [ByteArray.size_append]; omega
  go_wp2_with fail
  refine (cut_is b1 x1 HX1.out _ HY1.out).mono ?_
  rintro e u ⟨rfl, hu⟩
  have hu' := hu.symm
  subst hu'
  go_wp2_with fail
  refine (parse_isL (T ++ x1) M x1 0 0 HP1.out _ HZ1.out (maxLenCell_below hm hB2)).mono ?_
  rintro e w3 ⟨a3, c3, rfl, hF3, hb3⟩
  have hB3 := bnext hB2 hb3 (Nat.le_refl _)
  have p2 := cell_next p0 hb3
  have p3 := cell_next p1 hb3
  have hN3 : Below w3.heap.size w3 (w3.alloc (.cells #[.slice a3 M.length c3, .string x1] 25)) := (Below.refl _ _).alloc (Nat.le_refl _) _
  go_wp2_with fail
  refine (cut_is b2 x2 HX2.out _ HY2.out).mono ?_
  rintro e u ⟨rfl, hu⟩
  have hu' := hu.symm
  subst hu'
  go_wp2_with fail
  refine (parse_isL (T ++ x2) M x2 0 0 HP2.out _ HZ2.out (maxLenCell_below hm (bnext hB3 hN3 (Nat.le_refl _)))).mono ?_
  rintro e w4 ⟨a4, c4, rfl, hF4, hb4⟩
  have hB4 := bnext (bnext hB3 hN3 (Nat.le_refl _)) hb4 (Nat.le_refl _)
  have p4 := cell_next (cell_more p2 (.cells #[.slice a3 M.length c3, .string x1] 25)) hb4
  have p5 := cell_next (cell_more p3 (.cells #[.slice a3 M.length c3, .string x1] 25)) hb4
  have q0 : w4.cell? ⟨w3.heap.size, 0, none⟩ = some (.slice a3 M.length c3) := cell_next (by simp) hb4
  have q1 : w4.cell? ⟨w3.heap.size, 1, none⟩ = some (.string x1) := cell_next (by simp) hb4
  have q2 : w4.frozen? ⟨w3.heap.size, 1, none⟩ = false := (hb4.frozen (by simp)).trans (by simp)
  have z1 : w1.heap.size < w3.heap.size := World.block_lt_of_cell? w3 _ p2
  have z3 : w3.heap.size < w4.heap.size := World.block_lt_of_cell? w4 _ q0
  go_wp2
  go_quiet ((first | (go_at_call_of 14 (Value.string b1); exact Calls.quiet_of_same (cut_is b1 x1 HX1.out _ HY1.out)) | (go_at_call_of 14 (Value.string b2); exact Calls.quiet_of_same (cut_is b2 x2 HX2.out _ HY2.out))))
  have q3 : ∀ j, 2 ≤ j → w4.cell? ⟨w3.heap.size, j, none⟩ = none := by
    intro j hj
    have e := hb4.cell (p := ⟨w3.heap.size, j, none⟩) (by simp)
    rw [e]
    have : (w3.alloc (.cells #[.slice a3 M.length c3, .string x1] 25)).heap[w3.heap.size]? = some (.cells #[.slice a3 M.length c3, .string x1] 25 (0, 0)) := (heap_alloc_new w3 _)
    rw [cell_of_row _ _ j _ _ _ this]
    exact Array.getElem?_eq_none (by simpa using hj)
  have hz0 : w.heap.size ≤ w1.heap.size := hb1.size
  have fa3 := (hF3.below hN3).below hb4
  have fa1 := ((hF2.below hb3).below hN3).below hb4
  have hN4 : Below w4.heap.size w4 ((w4.alloc (.cells #[.slice a4 M.length c4, .string x2] 25)).drewN nq) := bdrew ((Below.refl _ _).alloc (Nat.le_refl _) _) _
  go_wp2_with fail
  obtain ⟨W5, hW5⟩ : ∃ W5, W5 = (((w4.alloc (.cells #[.slice a4 M.length c4, .string x2] 25)).drewN nq).setCell ⟨w3.heap.size, 1, none⟩ (.string ⟨#[]⟩)).setCell ⟨w4.heap.size, 1, none⟩ (.string ⟨#[]⟩) := ⟨_, rfl⟩
  have g3 : FieldsAt W5 a3 M := by
    rw [hW5]
    refine ((fa3.below hN4).far _ ?_).far _ ?_
    · intro b off h0 ha; have := hF3.lt h0 ha; simp; omega
    · intro b off h0 ha; have := hF3.lt h0 ha; simp; omega
  have g1 : FieldsAt W5 a1 M := by
    rw [hW5]
    refine ((fa1.below hN4).far _ ?_).far _ ?_
    · intro b off h0 ha; have := hF1.lt h0 ha; simp; omega
    · intro b off h0 ha; have := hF1.lt h0 ha; simp; omega
  have g4 : FieldsAt W5 a4 M := by
    rw [hW5]
    refine ((hF4.below hN4).far _ ?_).far _ ?_
    · intro b off h0 ha; exact hF4.other h0 ha q0 q3
    · intro b off h0 ha; have := hF4.lt h0 ha; simp; omega
  have hB5 : Below w.heap.size w W5 := by
    rw [hW5]
    have := hB3.size
    exact ((bnext hB4 hN4 (Nat.le_refl _)).setCell (by simp; omega) _).setCell (by simp; omega) _
  have e0 : W5.cell? ⟨w3.heap.size, 0, none⟩ = some (.slice a3 M.length c3) := by
    rw [hW5]
    exact (cell_set_far (by simp; omega)).trans ((World.cell?_setCell_other _ _ _ _ (by simp)).trans (cell_next q0 hN4))
  have e1 : W5.cell? ⟨w3.heap.size, 1, none⟩ = some (.string ⟨#[]⟩) := by
    rw [hW5]
    exact (cell_set_far (by simp; omega)).trans (World.cell?_setCell_same' _ _ _ (by rw [cell_next q1 hN4]; rfl))
  have e2 : W5.cell? ⟨w1.heap.size, 0, none⟩ = some (.slice a1 M.length c1) := by
    rw [hW5]
    exact (cell_set_far (by simp; omega)).trans ((cell_set_far (by simp; omega)).trans (cell_next p4 hN4))
  have e3 : W5.cell? ⟨w1.heap.size, 1, none⟩ = some (.string ⟨#[]⟩) := by
    rw [hW5]
    exact (cell_set_far (by simp; omega)).trans ((cell_set_far (by simp; omega)).trans (cell_next p5 hN4))
  rw [← hW5]
  clear hW5
  refine (sameK_any a3 a4 c3 c4 M ⟨#[]⟩ _ g3 g4 HMi.out.1).mono ?_
  rintro e w6 ⟨rfl, hb6⟩
  have i0 := cell_next e0 hb6
  have i1 := cell_next e1 hb6
  have i2 := cell_next e2 hb6
  have i3 := cell_next e3 hb6
  have hB6 := bnext hB5 hb6 (Nat.le_refl _)
  go_wp2_with fail
  refine (sameK_any a3 a1 c3 c1 M ⟨#[]⟩ _ (g3.below hb6) (g1.below hb6) HMi.out.1).mono ?_
  rintro e w7 ⟨rfl, hb7⟩
  go_wp2
  go_ret
  exact ⟨rfl, bnext hB6 hb7 (Nat.le_refl _)⟩
end Go.Proofs.YtdmjdhnncilaiaaDoor
