/-
  Each value is found by its name, of great or small letters, in its order: walked.
-/
import Derived.Test.YtdpdcaglldojiaaDoorLetUp
import Derived.WalkArith
import Derived.Deep.QuietTactic
import Derived.BigQuiet
namespace Go.Proofs.YtdpdcaglldojiaaDoor
open Go.RowKit

set_option maxHeartbeats 16000000 in
set_option maxRecDepth 100000 in
theorem letterNamed_walk (w : World) (hm : maxLenCell w) (a : Option Addr) (c : Nat) (fs : List F) (hF : FieldsAt w a fs) (hL : fs.length ≤ maxLen) (hB : ∀ f ∈ fs, f.1.length ≤ maxLen ∧ f.2.length ≤ maxLen) (b1 : ByteArray) (hb1 : b1.size ≤ maxLen) :
    Calls Tryd.prog 5 #[.slice a fs.length c, .string b1] w fun e w' => e = .returned (.bool true) ∧ Below w.heap.size w w' := by
  obtain ⟨i0, hi, hz0, hz1, hz2⟩ := info_parts infoStr
  obtain ⟨j0, hj, hy0, hy1, hy2⟩ := info_parts infoField
  have HCu : Hid (cutB (⟨#[]⟩ : ByteArray) 200 = ⟨#[]⟩) := cutB_nil 200
  have HL : Hid _ := hL
  have HB : Hid _ := hB
  have HY : Hid _ := hb1
  have HF0 : Hid (FieldsAt w a fs) := hF
  have HWF : Hid ((Lit.int .i64 (b1.size : Int)).wf = true) := by
    unfold maxLen at hb1
    exact WalkArith.wf_i64 (by omega)
  obtain ⟨M, hM⟩ : ∃ M, M = msgK fs 6 := ⟨_, rfl⟩
  have hMl : M.length ≤ 6 := by rw [hM]; exact msg_len fs
  have HMs : Hid (sumF M ≤ 312) := by rw [hM]; exact msg_sum fs
  have HMm : Hid (∀ f ∈ M, mayF f = true) := by rw [hM]; exact msg_may fs
  have HMz : Hid (∀ f ∈ M, f.1.length ≤ 8 ∧ f.2.length ≤ 40) := by rw [hM]; exact msg_size fs
  have HMq : Hid (∀ f ∈ M, smallB f.1) := by rw [hM]; exact msg_small fs
  have HMi : Hid (Mild M ⟨#[]⟩) := by rw [hM]; exact msg_mild fs ⟨#[]⟩ (Nat.zero_le _)
  have HMf : Hid (faultM M (⟨#[]⟩ : ByteArray).data.toList = 0) := by rw [hM]; exact msg_fault fs [] (by simp)
  have HM : Hid _ := hM
  clear hL hB hb1 hF hM
  go_enter Tryd.func5, Tryd.ntmps5
  go_wp2_with fail
  refine (message_full a c fs ⟨#[]⟩ _ HF0.out HL.out HB.out (Nat.zero_le _)).mono ?_
  rw [HCu.out, ← HM.out]
  rintro e w1 ⟨a1, c1, rfl, hF1, hO1, hbm⟩
  have HF1 : Hid (FieldsAt w1 a1 M) := hF1
  have HO1 : Hid (OwnF w1 (w.heap.size + 2) (.slice a1 M.length c1) M) := hO1
  have hN1 : Below w1.heap.size w1 (w1.alloc (.cells #[.slice a1 M.length c1, .string ⟨#[]⟩] 25)) := (Below.refl _ _).alloc (Nat.le_refl _) _
  have HN1 : Hid _ := hN1
  have HB1 : Hid (Below w.heap.size w w1) := hbm
  have HG : Hid (∀ j, (Value.slice a1 M.length c1).ownBlock = some j → w.heap.size + 2 ≤ j ∧ j < w1.heap.size) := fun j hj => World.ownsRow.lt hO1 j hj
  clear hF1 hO1 hN1 hbm
  go_wp2_with fail
  refine (word_any b1 _ HY.out).mono ?_
  rintro e w2 ⟨rfl, hb2⟩
  have m0 : w2.cell? ⟨w1.heap.size, 0, none⟩ = some (.slice a1 M.length c1) := cell_next (by simp) hb2
  have m1 : w2.cell? ⟨w1.heap.size, 1, none⟩ = some (.string ⟨#[]⟩) := cell_next (by simp) hb2
  have z0 : w2.frozen? ⟨w1.heap.size, 0, none⟩ = false := (hb2.frozen (by simp)).trans (by simp)
  have hs2 : w1.heap.size + 1 ≤ w2.heap.size := by have := hb2.size; simpa using this
  have HB2 : Hid (Below w1.heap.size w1 w2) := bnext HN1.out hb2 (Nat.le_refl _)
  clear hb2
  by_cases hM0 : M.length = 0
  · have HM0 : Hid (M.length = 0) := hM0
    clear hM0
    have hM1 : ¬ (0 : Int) < (M.length : Int) := by have := HM0.out; omega
    obtain ⟨nn, hnn⟩ : ∃ nn, nn = wordL b1.data.toList := ⟨_, rfl⟩
    rw [← hnn]
    have HNs : Hid (smallB nn) := by rw [hnn]; exact word_small _
    have HNn : Hid (nameB nn = true) := by rw [hnn]; exact word_name _
    have hnl : nn.length ≤ 8 := by rw [hnn]; exact wordL_len _
    clear hnn
    go_wp2
    clear hM1
    obtain ⟨w3, hw3⟩ : ∃ w3, w3 = w2 := ⟨_, rfl⟩
    have hd3 : Below w2.heap.size w2 w3 := by rw [hw3]; exact Below.refl _ _
    rw [← hw3]
    have m0' : w3.cell? ⟨w1.heap.size, 0, none⟩ = some (.slice a1 M.length c1) := cell_next m0 hd3
    have m1' : w3.cell? ⟨w1.heap.size, 1, none⟩ = some (.string ⟨#[]⟩) := cell_next m1 hd3
    have HZ0 : Hid (w3.frozen? ⟨w1.heap.size, 0, none⟩ = false) := (hd3.frozen (by show w1.heap.size < w2.heap.size; omega)).trans z0
    have hs3 : w1.heap.size + 1 ≤ w3.heap.size := Nat.le_trans hs2 hd3.size
    have HB3 : Hid (Below w1.heap.size w1 w3) := bnext HB2.out hd3 (Nat.le_refl _)
    have HF3 : Hid (FieldsAt w3 a1 M) := HF1.out.below HB3.out
    have HV1 : Hid (∀ f, smallB f.1 → sameN nn f = (f.1 == nn)) := fun f hf => small_same HNs.out hf
    have snn : (S nn).size ≤ 8 := by rw [size_S]; exact hnl
    clear hw3 hd3 m0 m1 z0
    go_loopw [7, 8] (fun v i wr => ∃ k : Nat, k ≤ M.length ∧ i = .int .i64 k ∧ wr.ownsRow w3.heap.size 9 1 v (valuesM (M.take k) nn).length (textsC (valuesM (M.take k) nn)) ∧ Below w3.heap.size w3 wr) (fun _ i _ => 6 - (intOf i).toNat)
    case atStart => exact ⟨0, Nat.zero_le _, rfl, World.ownsRow_nil _ _ _ _, Below.refl _ _⟩
    case round =>
      obtain ⟨k, hk, rfl, hown, hBr⟩ := hrel
      have p0 : wr.cell? ⟨w1.heap.size, 0, none⟩ = some (.slice a1 M.length c1) := cell_next m0' hBr
      by_cases hlt : k < M.length
      · exact absurd hlt (by have := HM0.out; omega)
      · have hge : ¬ (k : Int) < (M.length : Int) := by omega
        have HT : Hid (M.take k = M) := List.take_of_length_le (by omega)
        rw [HT.out] at hown
        obtain ⟨vs, hvs⟩ : ∃ vs, vs = valuesM M nn := ⟨_, rfl⟩
        rw [← hvs] at hown
        have hvl : vs.length ≤ 6 := by have := values_len M nn M.length; rw [List.take_length, ← hvs] at this; omega
        have HVS : Hid _ := hvs
        clear hvs
        obtain ⟨aW, cW, rfl⟩ := own_any hown
        obtain ⟨wo, hwo⟩ : ∃ wo, wr = wo := ⟨_, rfl⟩
        subst hwo
        have HTw : Hid (TextsAt wr aW vs) := texts_own hown
        have HTf : Hid (TextsFrom w3.heap.size aW vs) := texts_from hown
        have hBo : Below w3.heap.size w3 wr := hBr
        have HBo : Hid _ := hBo
        have hconv := run_bytes_of_string (P := Tryd.prog) wr 9 42 5 (S nn) Tryd.underlying9 Tryd.underlying42 Tryd.underlying5
        have hst := raising_start (S nn) wr (grownCap wr (S nn).size 0 5)
        have hbs : Below wr.heap.size wr (wr.drew.alloc (.cells (bytesRow (S nn) (grownCap wr (S nn).size 0 5)) 5 ((bytesRow (S nn) (grownCap wr (S nn).size 0 5)).size, (bytesRow (S nn) (grownCap wr (S nn).size 0 5)).size + 1))) :=
          (Below.refl _ _).drew.alloc (by simp) _
        have hss : wr.heap.size < (wr.drew.alloc (.cells (bytesRow (S nn) (grownCap wr (S nn).size 0 5)) 5 ((bytesRow (S nn) (grownCap wr (S nn).size 0 5)).size, (bytesRow (S nn) (grownCap wr (S nn).size 0 5)).size + 1))).heap.size := by simp
        generalize grownCap wr (S nn).size 0 5 = cap at *
        generalize bytesRow (S nn) cap = C at *
        have HST : Hid _ := hst
        have HBS : Hid _ := hbs
        have HSS : Hid _ := hss
        obtain ⟨w4, hw4⟩ : ∃ w4, w4 = wr := ⟨_, rfl⟩
        subst hw4
        clear hst hbs hss hown hBr hBo
        go_wp2
        clear hconv p0
        go_loopw [10] (fun i wq => ∃ k2 : Nat, k2 ≤ (S nn).size ∧ i = .int .i64 k2 ∧ Raising (S nn) C.size w4.heap.size k2 wq ∧ Below w4.heap.size w4 wq ∧ w4.heap.size < wq.heap.size) (fun i _ => 8 - (intOf i).toNat)
        case atStart => exact ⟨0, Nat.zero_le _, rfl, HST.out, HBS.out, HSS.out⟩
        case round =>
          obtain ⟨k2, hk2, rfl, hRs, hB4, hs4⟩ := hrel
          by_cases hlt2 : k2 < (S nn).size
          · obtain ⟨hcc, hff⟩ := raising_cell hRs hlt2
            have hmem : (S nn)[k2] ∈ nn := by have := List.mem_of_getElem? (get_list (S nn) k2 hlt2); rw [list_S] at this; exact this
            have hsm := HNs.out _ hmem
            have y1 : (97 : Int) ≤ ((S nn)[k2].toNat : Int) := by omega
            have y2 : ((S nn)[k2].toNat : Int) ≤ 122 := by omega
            have HN : Hid _ := raising_set hRs hlt2 (((S nn)[k2].toNat : Int) - 32) (by have := upC_nat hsm; omega)
            have HBx : Hid _ := hB4.setCell (p := ⟨w4.heap.size, k2, none⟩) (Nat.le_refl _) (.int .u8 (((S nn)[k2].toNat : Int) - 32))
            have HSx : Hid (w4.heap.size < (wr.setCell ⟨w4.heap.size, k2, none⟩ (.int .u8 (((S nn)[k2].toNat : Int) - 32))).heap.size) := by unfold Hid; simpa [World.setCell] using hs4
            clear hmem hsm hRs hB4
            go_wp2
            go_roundw
            case rel => first | exact ⟨k2 + 1, by omega, by go_num, HN.out, HBx.out, HSx.out⟩ | ((repeat apply Exists.intro); exact ⟨⟨k2 + 1, by omega, by go_num, HN.out, HBx.out, HSx.out⟩, rfl⟩) | (refine ⟨trivial, ?_⟩; (repeat apply Exists.intro); exact ⟨⟨k2 + 1, by omega, by go_num, HN.out, HBx.out, HSx.out⟩, rfl⟩)
            case measure => simp [intOf]; omega
          · obtain rfl : k2 = (S nn).size := by omega
            obtain ⟨w5, hw5⟩ : ∃ w5, w5 = wr := ⟨_, rfl⟩
            subst hw5
            have q0 := cell_next (cell_next m0' HBo.out) hB4
            have q1 := cell_next (cell_next m1' HBo.out) hB4
            have HB5 : Hid (Below w1.heap.size w1 w5) := bnext (bnext HB3.out HBo.out (Nat.le_refl _)) hB4 (Nat.le_refl _)
            have HF5 : Hid (FieldsAt w5 a1 M) := HF1.out.below HB5.out
            have HW5 : Hid (Below w.heap.size w w5) := bnext HB1.out HB5.out (Nat.le_refl _)
            have HRs : Hid (Raising (S nn) C.size w4.heap.size (S nn).size w5) := hRs
            have BX5 : Hid (Below w4.heap.size w4 w5) := hB4
            have HTw5 : Hid (TextsAt w5 aW vs) := HTw.out.below hB4
            have HVA : Hid (valuesM M (S nn).data.toList = vs) := by unfold Hid; rw [list_S, HVS.out]
            have HVB : Hid (valuesM M (S (nn.map upC)).data.toList = vs) := by unfold Hid; rw [list_S, values_up HNs.out, HVS.out]
            have HVC : Hid (valuesM (M ++ [(nn, [118])]) (S nn).data.toList = vs ++ [[118]]) := by unfold Hid; rw [list_S, values_more, HVS.out]
            have sup : (S (nn.map upC)).size ≤ 8 := by rw [size_S, List.length_map]; exact hnl
            have hs45 : w1.heap.size + 1 ≤ w5.heap.size := by have := HBo.out.size; omega
            clear hRs hB4 m0' m1' hlt2 hk2
            go_wp2_with fail
            refine (values_full a1 c1 M ⟨#[]⟩ (S nn) _ HF5.out HMi.out (maxLenCell_below hm HW5.out) HMf.out (by omega)).mono ?_
            rw [HVA.out]
            rintro e w6 ⟨aA, cA, rfl, hTA, hTAf, hb6⟩
            have p0 := cell_next q0 hb6
            have p1 := cell_next q1 hb6
            have HB6 : Hid (Below w1.heap.size w1 w6) := bnext HB5.out hb6 (Nat.le_refl _)
            have HF6 : Hid (FieldsAt w6 a1 M) := HF1.out.below HB6.out
            have HW6 : Hid (Below w.heap.size w w6) := bnext HB1.out HB6.out (Nat.le_refl _)
            have hback := raising_back (cap := cap) (raising_below HRs.out hb6 hs4)
            have HTA6 : Hid (TextsAt w6 aA vs) := hTA
            have BX6 : Hid (Below w5.heap.size w5 w6) := hb6
            have HTAf : Hid (TextsFrom (w1.heap.size + 1) aA vs) := hTAf.mono hs45
            have HTw6 : Hid (TextsAt w6 aW vs) := HTw5.out.below hb6
            have hs46 : w1.heap.size + 1 ≤ w6.heap.size := Nat.le_trans hs45 hb6.size
            clear hTA hTAf hb6 q0 q1
            go_wp2_with fail
            refine (values_full a1 c1 M ⟨#[]⟩ (S (nn.map upC)) _ HF6.out HMi.out (maxLenCell_below hm HW6.out) HMf.out (by omega)).mono ?_
            rw [HVB.out]
            rintro e w7 ⟨aB, cB, rfl, hTB, hTBf, hb7⟩
            have q0 := cell_next p0 hb7
            have q1 := cell_next p1 hb7
            have HB7 : Hid (Below w1.heap.size w1 w7) := bnext HB6.out hb7 (Nat.le_refl _)
            have HW7 : Hid (Below w.heap.size w w7) := bnext HB1.out HB7.out (Nat.le_refl _)
            have HTA7 : Hid (TextsAt w7 aA vs) := HTA6.out.below hb7
            have HTw7 : Hid (TextsAt w7 aW vs) := HTw6.out.below hb7
            have HTB7 : Hid (TextsAt w7 aB vs) := hTB
            have HTBf : Hid (TextsFrom (w1.heap.size + 1) aB vs) := hTBf.mono hs46
            have hs47 : w1.heap.size + 1 ≤ w7.heap.size := Nat.le_trans hs46 hb7.size
            have hO7 : w7.ownsRow (w.heap.size + 2) 41 2 (.slice a1 M.length c1) M.length (cellsF M) := own_below HO1.out HB7.out
            have HZ7 : Hid (w7.frozen? ⟨w1.heap.size, 0, none⟩ = false) := by
              have hb37 : Below w3.heap.size w3 w7 := bnext (bnext (bnext HBo.out BX5.out (Nat.le_refl _)) BX6.out (Nat.le_refl _)) hb7 (Nat.le_refl _)
              exact (hb37.frozen (by show w1.heap.size < w3.heap.size; omega)).trans HZ0.out
            have HFN : Hid (faultM (M ++ [(nn, [118])]) (⟨#[]⟩ : ByteArray).data.toList = 0) := named_fault hMl HMs.out HMm.out HNn.out hnl
            have HMN : Hid (Mild (M ++ [(nn, [118])]) ⟨#[]⟩) := ⟨by simp; omega, Nat.zero_le _, fun f hf => by
              rcases List.mem_append.1 hf with hf | hf
              · have := HMz.out f hf; omega
              · simp at hf; subst hf; simp; omega⟩
            clear hTB hTBf hb7 p0 p1 hback
            go_wp2_with (at_builtin; refine wpList_append_own _ rfl _ _ 23 rfl (w.heap.size + 2) 41 j0 _ 2 32 Tryd.underlying23 hj hy0 hy1 hy2 rfl (by decide) (.slice a1 M.length c1) M.length (cellsF M) rfl (World.ownsRow.alloc hO7 _) ⟨w7.heap.size, 0, none⟩ 1 1 [.string (S nn), .string ⟨#[118]⟩] rfl rfl (cell_pair_new _ _ _ _) ?c2 ?c3 ?c4 ?c5 ?_)
            case c2 => intro u hu; simp at hu; rcases hu with rfl | rfl <;> rfl
            case c3 => unfold maxLen; omega
            case c4 => omega
            case c5 => have := HW7.out.size; have := HB1.out.size; have h3 := HB7.out.size; have h4 := HO1.out; simp; omega
            intro v' w8 hown8 hgrow _
            have hk8 : ∀ k, w1.heap.size ≤ k → k < w7.heap.size → w8.heap[k]? = w7.heap[k]? := fun k h1 h2 =>
              (hgrow.block k (by simp; omega) (fun e => by have := (HG.out k e.symm).2; omega)).trans (Below.heap_alloc _ _ _ h2)
            have hs8 : w7.heap.size ≤ w8.heap.size := by have := hgrow.size; simp at this; omega
            have HW8 : Hid (Below w.heap.size w w8) := HW7.out.trans (((Below.refl w.heap.size w7).alloc HW7.out.size _).grown hgrow (by have := HW7.out.size; simp; omega) (fun j hj => by have := (HG.out j hj).1; omega))
            have hh1 := hk8 w1.heap.size (Nat.le_refl _) (by omega)
            have r0 : w8.cell? ⟨w1.heap.size, 0, none⟩ = some (.slice a1 M.length c1) := (World.cell?_of_block (w := w7) (a := ⟨w1.heap.size, 0, none⟩) hh1).trans q0
            have r1 : w8.cell? ⟨w1.heap.size, 1, none⟩ = some (.string ⟨#[]⟩) := (World.cell?_of_block (w := w7) (a := ⟨w1.heap.size, 1, none⟩) hh1).trans q1
            have rz : w8.frozen? ⟨w1.heap.size, 0, none⟩ = false := (World.frozen?_of_block (w := w7) (a := ⟨w1.heap.size, 0, none⟩) hh1).trans HZ7.out
            have hO8 : OwnF w8 (w.heap.size + 2) v' (M ++ [(nn, [118])]) := by unfold OwnF; rw [cellsF_append, cellsF_one, List.length_append]; exact hown8
            obtain ⟨g9, c9, rfl, _, _⟩ := hO8.form (by simp)
            have hF8 := hO8.fields
            have hne : g9 ≠ w1.heap.size := by
              rintro rfl
              obtain ⟨f0, hf0⟩ : ∃ f0, (M ++ [(nn, [118])])[0]? = some f0 := ⟨_, List.getElem?_eq_getElem (by simp)⟩
              have := fields_first hF8 hf0
              rw [r0] at this
              cases this
            obtain ⟨N, hN⟩ : ∃ N, N = M ++ [(nn, [118])] := ⟨_, rfl⟩
            rw [← hN] at hF8 HFN HMN HVC
            obtain ⟨W9, hW9⟩ : ∃ W9, W9 = w8.setCell ⟨w1.heap.size, 0, none⟩ (.slice (some ⟨g9, 0, none⟩) N.length c9) := ⟨_, rfl⟩
            have HF9 : Hid (FieldsAt W9 (some ⟨g9, 0, none⟩) N) := by rw [hW9]; exact fields_far hF8 hne _
            have s0 : W9.cell? ⟨w1.heap.size, 0, none⟩ = some (.slice (some ⟨g9, 0, none⟩) N.length c9) := by rw [hW9]; exact World.cell?_setCell_same' _ _ _ (by rw [r0]; rfl)
            have s1 : W9.cell? ⟨w1.heap.size, 1, none⟩ = some (.string ⟨#[]⟩) := by rw [hW9]; exact (World.cell?_setCell_other _ _ _ _ (by simp)).trans r1
            have hs9 : w7.heap.size ≤ W9.heap.size := by rw [hW9]; simpa [World.setCell] using hs8
            have hk9 : ∀ k, w1.heap.size + 1 ≤ k → k < w7.heap.size → W9.heap[k]? = w7.heap[k]? := fun k h1 h2 => by
              rw [hW9]; exact (Below.heap_setCell _ _ _ _ (by show k ≠ w1.heap.size; omega)).trans (hk8 k (by omega) h2)
            have HW9 : Hid (Below w.heap.size w W9) := by rw [hW9]; exact HW8.out.setCell (HB1.out.size) _
            have HTA9 : Hid (TextsAt W9 aA vs) := texts_keep HTA7.out HTAf.out hs9 hk9
            have HTB9 : Hid (TextsAt W9 aB vs) := texts_keep HTB7.out HTBf.out hs9 hk9
            have HTw9 : Hid (TextsAt W9 aW vs) := texts_keep HTw7.out (HTf.out.mono hs3) hs9 hk9
            have HWE : Hid _ := hW9
            have hNe : (M ++ [(nn, [118])]).length = N.length := by rw [hN]
            rw [hNe]
            clear hW9 hown8 hgrow hk8 hO8 hF8 hN hNe q0 q1 hh1 hk9 hO7
            have HLC : Hid ((vs ++ [[118]]).length = vs.length + 1) := by unfold Hid; simp
            go_wp2_with fail
            rw [← HWE.out]
            refine (values_full (some ⟨g9, 0, none⟩) c9 N ⟨#[]⟩ (S nn) _ HF9.out HMN.out (maxLenCell_below hm HW9.out) HFN.out (by omega)).mono ?_
            rw [HVC.out, HLC.out]
            rintro e w10 ⟨aC, cC, rfl, _, _, hb10⟩
            go_wp2_with fail
            refine (sameTK_any aA aW cA cW vs _ (HTA9.out.below hb10) (HTw9.out.below hb10) (by omega)).mono ?_
            rintro e w11 ⟨rfl, hb11⟩
            go_wp2_with fail
            refine (sameTK_any aB aW cB cW vs _ ((HTB9.out.below hb10).below hb11) ((HTw9.out.below hb10).below hb11) (by omega)).mono ?_
            rintro e w12 ⟨rfl, hb12⟩
            go_wp2
            go_ret
            exact ⟨ret_bool (by first | rfl | simp), bnext (bnext (bnext HW9.out hb10 (Nat.le_refl _)) hb11 (Nat.le_refl _)) hb12 (Nat.le_refl _)⟩
  · have hM1 : (0 : Int) < (M.length : Int) := by omega
    have hM1n : 0 < M.length := by omega
    obtain ⟨j, hjj⟩ : ∃ j, j = pickN (b1.size : Int) M.length := ⟨_, rfl⟩
    have hjl : j < M.length := by rw [hjj]; exact pickN_lt _ _ (by omega)
    have HJ : Hid _ := hjj
    obtain ⟨g, hg⟩ : ∃ g, M[j]? = some g := ⟨_, List.getElem?_eq_getElem hjl⟩
    have hgm := List.mem_of_getElem? hg
    obtain ⟨b, off, rfl, hbl, q1, q2⟩ := (HF1.out.below HB2.out) j g hg
    obtain ⟨nn, hnn⟩ : ∃ nn, nn = g.1 := ⟨_, rfl⟩
    rw [← hnn] at q1
    have HNs : Hid (smallB nn) := by rw [hnn]; exact HMq.out g hgm
    have HNn : Hid (nameB nn = true) := by have := HMm.out g hgm; unfold mayF at this; rw [hnn]; simp only [Bool.and_eq_true] at this; exact this.1
    have hnl : nn.length ≤ 8 := by rw [hnn]; exact (HMz.out g hgm).1
    have i1 : (0 : Int) ≤ (j : Int) := by omega
    have i2 : (j : Int) < (M.length : Int) := by omega
    have HPK : Hid (∀ w, Calls Tryd.prog 14 #[.int .i64 (b1.size : Int), .int .i64 (M.length : Int)] w fun e w' => e = .returned (.int .i64 (j : Int)) ∧ w' = w) := fun w => by
      rw [hjj]; exact picked_any (b1.size : Int) M.length w HWF.out (by omega) (by omega)
    clear hjj hg hgm hnn q2
    go_wp2
    go_quiet ((go_at_call 14; exact Calls.quiet_of_same (HPK.out _)))
    obtain ⟨w3, hw3⟩ : ∃ w3, w3 = w2.drewN nq := ⟨_, rfl⟩
    have hd3 : Below w2.heap.size w2 w3 := by rw [hw3]; exact bdrew (Below.refl _ _) _
    go_wp2
    rw [← hw3]
    have m0' : w3.cell? ⟨w1.heap.size, 0, none⟩ = some (.slice (some ⟨b, off, none⟩) M.length c1) := cell_next m0 hd3
    have m1' : w3.cell? ⟨w1.heap.size, 1, none⟩ = some (.string ⟨#[]⟩) := cell_next m1 hd3
    have HZ0 : Hid (w3.frozen? ⟨w1.heap.size, 0, none⟩ = false) := (hd3.frozen (by show w1.heap.size < w2.heap.size; omega)).trans z0
    have hs3 : w1.heap.size + 1 ≤ w3.heap.size := Nat.le_trans hs2 hd3.size
    have HB3 : Hid (Below w1.heap.size w1 w3) := bnext HB2.out hd3 (Nat.le_refl _)
    have HF3 : Hid (FieldsAt w3 (some ⟨b, off, none⟩) M) := HF1.out.below HB3.out
    have HV1 : Hid (∀ f, smallB f.1 → sameN nn f = (f.1 == nn)) := fun f hf => small_same HNs.out hf
    have snn : (S nn).size ≤ 8 := by rw [size_S]; exact hnl
    clear hw3 hd3 m0 m1 z0
    go_loopw [7, 8] (fun v i wr => ∃ k : Nat, k ≤ M.length ∧ i = .int .i64 k ∧ wr.ownsRow w3.heap.size 9 1 v (valuesM (M.take k) nn).length (textsC (valuesM (M.take k) nn)) ∧ Below w3.heap.size w3 wr) (fun _ i _ => 6 - (intOf i).toNat)
    case atStart => exact ⟨0, Nat.zero_le _, rfl, World.ownsRow_nil _ _ _ _, Below.refl _ _⟩
    case round =>
      obtain ⟨k, hk, rfl, hown, hBr⟩ := hrel
      have p0 : wr.cell? ⟨w1.heap.size, 0, none⟩ = some (.slice (some ⟨b, off, none⟩) M.length c1) := cell_next m0' hBr
      by_cases hlt : k < M.length
      · have k1 : (k : Int) < (M.length : Int) := by omega
        have k0 : (0 : Int) ≤ (k : Int) := by omega
        obtain ⟨f, hf⟩ : ∃ f, M[k]? = some f := ⟨_, List.getElem?_eq_getElem hlt⟩
        have hfm := List.mem_of_getElem? hf
        obtain ⟨fb, fo, hfa, hfl, h1, h2⟩ := (HF3.out.below hBr) k f hf
        obtain ⟨rfl, rfl⟩ : b = fb ∧ off = fo := by simpa using hfa
        clear hfa
        have hvl := values_len M nn k
        have HVM := HV1.out f (HMq.out f hfm)
        cases hs : (f.1 == nn) with
        | true =>
          have HV : Hid _ := values_yes hf (by rw [HVM]; exact hs)
          have heq : ((S f.1).toList == (S nn).toList) = true := by rw [Lib.toList_data, Lib.toList_data, list_S, list_S]; exact hs
          obtain ⟨vs, hvs⟩ : ∃ vs, vs = valuesM (M.take k) nn := ⟨_, rfl⟩
          rw [← hvs] at hown hvl HV
          obtain ⟨a0, c0, rfl⟩ := own_any hown
          clear hvs hs hf hfm HVM
          go_wp2_with (at_builtin; refine wpList_append_own _ rfl _ _ 29 rfl w3.heap.size 9 i0 _ 1 16 Tryd.underlying29 hi hz0 hz1 hz2 rfl (by decide) (.slice a0 vs.length c0) vs.length (textsC vs) rfl (hown.alloc _) ⟨wr.heap.size, 0, none⟩ 1 1 [.string (S f.2)] rfl rfl (cell_text_fresh _ _ _) ?c2 ?c3 ?c4 ?c5 ?_)
          case c2 => intro x hx; simp at hx; subst hx; rfl
          case c3 => unfold maxLen; omega
          case c4 => omega
          case c5 => have := hBr.size; simp; omega
          intro v' wn hown' hgrow _
          have hsz := hBr.size
          have HBn : Hid (Below w3.heap.size w3 wn) := (hBr.alloc hsz _).grown hgrow (by simp; omega) (fun j hj => (hown.lt j hj).1)
          have HO : Hid (wn.ownsRow w3.heap.size 9 1 v' (valuesM (M.take (k + 1)) nn).length (textsC (valuesM (M.take (k + 1)) nn))) := by
            unfold Hid; rw [HV.out, List.length_append]; unfold textsC; rw [List.map_append]; exact hown'
          clear hgrow hown hown' p0 h1 h2
          go_wp2
          go_roundw
          case rel => first | exact ⟨k + 1, by omega, by go_num, HO.out, HBn.out⟩ | ((repeat apply Exists.intro); exact ⟨⟨k + 1, by omega, by go_num, HO.out, HBn.out⟩, rfl⟩) | (refine ⟨trivial, ?_⟩; (repeat apply Exists.intro); exact ⟨⟨k + 1, by omega, by go_num, HO.out, HBn.out⟩, rfl⟩)
          case measure => simp [intOf]; omega
        | false =>
          have HV : Hid _ := values_no hf (by rw [HVM]; exact hs)
          have heq : ((S f.1).toList == (S nn).toList) = false := by rw [Lib.toList_data, Lib.toList_data, list_S, list_S]; exact hs
          have HO : Hid (wr.ownsRow w3.heap.size 9 1 u7 (valuesM (M.take (k + 1)) nn).length (textsC (valuesM (M.take (k + 1)) nn))) := by
            unfold Hid; rw [HV.out]; exact hown
          clear hs hf hfm HVM hown
          go_wp2
          go_roundw
          case rel => first | exact ⟨k + 1, by omega, by go_num, HO.out, hBr⟩ | ((repeat apply Exists.intro); exact ⟨⟨k + 1, by omega, by go_num, HO.out, hBr⟩, rfl⟩) | (refine ⟨trivial, ?_⟩; (repeat apply Exists.intro); exact ⟨⟨k + 1, by omega, by go_num, HO.out, hBr⟩, rfl⟩)
          case measure => simp [intOf]; omega
      · have hge : ¬ (k : Int) < (M.length : Int) := by omega
        have HT : Hid (M.take k = M) := List.take_of_length_le (by omega)
        rw [HT.out] at hown
        obtain ⟨vs, hvs⟩ : ∃ vs, vs = valuesM M nn := ⟨_, rfl⟩
        rw [← hvs] at hown
        have hvl : vs.length ≤ 6 := by have := values_len M nn M.length; rw [List.take_length, ← hvs] at this; omega
        have HVS : Hid _ := hvs
        clear hvs
        obtain ⟨aW, cW, rfl⟩ := own_any hown
        obtain ⟨wo, hwo⟩ : ∃ wo, wr = wo := ⟨_, rfl⟩
        subst hwo
        have HTw : Hid (TextsAt wr aW vs) := texts_own hown
        have HTf : Hid (TextsFrom w3.heap.size aW vs) := texts_from hown
        have hBo : Below w3.heap.size w3 wr := hBr
        have HBo : Hid _ := hBo
        have hconv := run_bytes_of_string (P := Tryd.prog) wr 9 42 5 (S nn) Tryd.underlying9 Tryd.underlying42 Tryd.underlying5
        have hst := raising_start (S nn) wr (grownCap wr (S nn).size 0 5)
        have hbs : Below wr.heap.size wr (wr.drew.alloc (.cells (bytesRow (S nn) (grownCap wr (S nn).size 0 5)) 5 ((bytesRow (S nn) (grownCap wr (S nn).size 0 5)).size, (bytesRow (S nn) (grownCap wr (S nn).size 0 5)).size + 1))) :=
          (Below.refl _ _).drew.alloc (by simp) _
        have hss : wr.heap.size < (wr.drew.alloc (.cells (bytesRow (S nn) (grownCap wr (S nn).size 0 5)) 5 ((bytesRow (S nn) (grownCap wr (S nn).size 0 5)).size, (bytesRow (S nn) (grownCap wr (S nn).size 0 5)).size + 1))).heap.size := by simp
        generalize grownCap wr (S nn).size 0 5 = cap at *
        generalize bytesRow (S nn) cap = C at *
        have HST : Hid _ := hst
        have HBS : Hid _ := hbs
        have HSS : Hid _ := hss
        obtain ⟨w4, hw4⟩ : ∃ w4, w4 = wr := ⟨_, rfl⟩
        subst hw4
        clear hst hbs hss hown hBr hBo
        go_wp2
        clear hconv p0
        go_loopw [10] (fun i wq => ∃ k2 : Nat, k2 ≤ (S nn).size ∧ i = .int .i64 k2 ∧ Raising (S nn) C.size w4.heap.size k2 wq ∧ Below w4.heap.size w4 wq ∧ w4.heap.size < wq.heap.size) (fun i _ => 8 - (intOf i).toNat)
        case atStart => exact ⟨0, Nat.zero_le _, rfl, HST.out, HBS.out, HSS.out⟩
        case round =>
          obtain ⟨k2, hk2, rfl, hRs, hB4, hs4⟩ := hrel
          by_cases hlt2 : k2 < (S nn).size
          · obtain ⟨hcc, hff⟩ := raising_cell hRs hlt2
            have hmem : (S nn)[k2] ∈ nn := by have := List.mem_of_getElem? (get_list (S nn) k2 hlt2); rw [list_S] at this; exact this
            have hsm := HNs.out _ hmem
            have y1 : (97 : Int) ≤ ((S nn)[k2].toNat : Int) := by omega
            have y2 : ((S nn)[k2].toNat : Int) ≤ 122 := by omega
            have HN : Hid _ := raising_set hRs hlt2 (((S nn)[k2].toNat : Int) - 32) (by have := upC_nat hsm; omega)
            have HBx : Hid _ := hB4.setCell (p := ⟨w4.heap.size, k2, none⟩) (Nat.le_refl _) (.int .u8 (((S nn)[k2].toNat : Int) - 32))
            have HSx : Hid (w4.heap.size < (wr.setCell ⟨w4.heap.size, k2, none⟩ (.int .u8 (((S nn)[k2].toNat : Int) - 32))).heap.size) := by unfold Hid; simpa [World.setCell] using hs4
            clear hmem hsm hRs hB4
            go_wp2
            go_roundw
            case rel => first | exact ⟨k2 + 1, by omega, by go_num, HN.out, HBx.out, HSx.out⟩ | ((repeat apply Exists.intro); exact ⟨⟨k2 + 1, by omega, by go_num, HN.out, HBx.out, HSx.out⟩, rfl⟩) | (refine ⟨trivial, ?_⟩; (repeat apply Exists.intro); exact ⟨⟨k2 + 1, by omega, by go_num, HN.out, HBx.out, HSx.out⟩, rfl⟩)
            case measure => simp [intOf]; omega
          · obtain rfl : k2 = (S nn).size := by omega
            obtain ⟨w5, hw5⟩ : ∃ w5, w5 = wr := ⟨_, rfl⟩
            subst hw5
            have q0 := cell_next (cell_next m0' HBo.out) hB4
            have q1 := cell_next (cell_next m1' HBo.out) hB4
            have HB5 : Hid (Below w1.heap.size w1 w5) := bnext (bnext HB3.out HBo.out (Nat.le_refl _)) hB4 (Nat.le_refl _)
            have HF5 : Hid (FieldsAt w5 (some ⟨b, off, none⟩) M) := HF1.out.below HB5.out
            have HW5 : Hid (Below w.heap.size w w5) := bnext HB1.out HB5.out (Nat.le_refl _)
            have HRs : Hid (Raising (S nn) C.size w4.heap.size (S nn).size w5) := hRs
            have BX5 : Hid (Below w4.heap.size w4 w5) := hB4
            have HTw5 : Hid (TextsAt w5 aW vs) := HTw.out.below hB4
            have HVA : Hid (valuesM M (S nn).data.toList = vs) := by unfold Hid; rw [list_S, HVS.out]
            have HVB : Hid (valuesM M (S (nn.map upC)).data.toList = vs) := by unfold Hid; rw [list_S, values_up HNs.out, HVS.out]
            have HVC : Hid (valuesM (M ++ [(nn, [118])]) (S nn).data.toList = vs ++ [[118]]) := by unfold Hid; rw [list_S, values_more, HVS.out]
            have sup : (S (nn.map upC)).size ≤ 8 := by rw [size_S, List.length_map]; exact hnl
            have hs45 : w1.heap.size + 1 ≤ w5.heap.size := by have := HBo.out.size; omega
            clear hRs hB4 m0' m1' hlt2 hk2
            go_wp2_with fail
            refine (values_full (some ⟨b, off, none⟩) c1 M ⟨#[]⟩ (S nn) _ HF5.out HMi.out (maxLenCell_below hm HW5.out) HMf.out (by omega)).mono ?_
            rw [HVA.out]
            rintro e w6 ⟨aA, cA, rfl, hTA, hTAf, hb6⟩
            have p0 := cell_next q0 hb6
            have p1 := cell_next q1 hb6
            have HB6 : Hid (Below w1.heap.size w1 w6) := bnext HB5.out hb6 (Nat.le_refl _)
            have HF6 : Hid (FieldsAt w6 (some ⟨b, off, none⟩) M) := HF1.out.below HB6.out
            have HW6 : Hid (Below w.heap.size w w6) := bnext HB1.out HB6.out (Nat.le_refl _)
            have hback := raising_back (cap := cap) (raising_below HRs.out hb6 hs4)
            have HTA6 : Hid (TextsAt w6 aA vs) := hTA
            have BX6 : Hid (Below w5.heap.size w5 w6) := hb6
            have HTAf : Hid (TextsFrom (w1.heap.size + 1) aA vs) := hTAf.mono hs45
            have HTw6 : Hid (TextsAt w6 aW vs) := HTw5.out.below hb6
            have hs46 : w1.heap.size + 1 ≤ w6.heap.size := Nat.le_trans hs45 hb6.size
            clear hTA hTAf hb6 q0 q1
            go_wp2_with fail
            refine (values_full (some ⟨b, off, none⟩) c1 M ⟨#[]⟩ (S (nn.map upC)) _ HF6.out HMi.out (maxLenCell_below hm HW6.out) HMf.out (by omega)).mono ?_
            rw [HVB.out]
            rintro e w7 ⟨aB, cB, rfl, hTB, hTBf, hb7⟩
            have q0 := cell_next p0 hb7
            have q1 := cell_next p1 hb7
            have HB7 : Hid (Below w1.heap.size w1 w7) := bnext HB6.out hb7 (Nat.le_refl _)
            have HW7 : Hid (Below w.heap.size w w7) := bnext HB1.out HB7.out (Nat.le_refl _)
            have HTA7 : Hid (TextsAt w7 aA vs) := HTA6.out.below hb7
            have HTw7 : Hid (TextsAt w7 aW vs) := HTw6.out.below hb7
            have HTB7 : Hid (TextsAt w7 aB vs) := hTB
            have HTBf : Hid (TextsFrom (w1.heap.size + 1) aB vs) := hTBf.mono hs46
            have hs47 : w1.heap.size + 1 ≤ w7.heap.size := Nat.le_trans hs46 hb7.size
            have hO7 : w7.ownsRow (w.heap.size + 2) 41 2 (.slice (some ⟨b, off, none⟩) M.length c1) M.length (cellsF M) := own_below HO1.out HB7.out
            have HZ7 : Hid (w7.frozen? ⟨w1.heap.size, 0, none⟩ = false) := by
              have hb37 : Below w3.heap.size w3 w7 := bnext (bnext (bnext HBo.out BX5.out (Nat.le_refl _)) BX6.out (Nat.le_refl _)) hb7 (Nat.le_refl _)
              exact (hb37.frozen (by show w1.heap.size < w3.heap.size; omega)).trans HZ0.out
            have HFN : Hid (faultM (M ++ [(nn, [118])]) (⟨#[]⟩ : ByteArray).data.toList = 0) := named_fault hMl HMs.out HMm.out HNn.out hnl
            have HMN : Hid (Mild (M ++ [(nn, [118])]) ⟨#[]⟩) := ⟨by simp; omega, Nat.zero_le _, fun f hf => by
              rcases List.mem_append.1 hf with hf | hf
              · have := HMz.out f hf; omega
              · simp at hf; subst hf; simp; omega⟩
            clear hTB hTBf hb7 p0 p1 hback
            go_wp2_with (at_builtin; refine wpList_append_own _ rfl _ _ 23 rfl (w.heap.size + 2) 41 j0 _ 2 32 Tryd.underlying23 hj hy0 hy1 hy2 rfl (by decide) (.slice (some ⟨b, off, none⟩) M.length c1) M.length (cellsF M) rfl (World.ownsRow.alloc hO7 _) ⟨w7.heap.size, 0, none⟩ 1 1 [.string (S nn), .string ⟨#[118]⟩] rfl rfl (cell_pair_new _ _ _ _) ?c2 ?c3 ?c4 ?c5 ?_)
            case c2 => intro u hu; simp at hu; rcases hu with rfl | rfl <;> rfl
            case c3 => unfold maxLen; omega
            case c4 => omega
            case c5 => have := HW7.out.size; have := HB1.out.size; have h3 := HB7.out.size; have h4 := HO1.out; simp; omega
            intro v' w8 hown8 hgrow _
            have hk8 : ∀ k, w1.heap.size ≤ k → k < w7.heap.size → w8.heap[k]? = w7.heap[k]? := fun k h1 h2 =>
              (hgrow.block k (by simp; omega) (fun e => by have := (HG.out k e.symm).2; omega)).trans (Below.heap_alloc _ _ _ h2)
            have hs8 : w7.heap.size ≤ w8.heap.size := by have := hgrow.size; simp at this; omega
            have HW8 : Hid (Below w.heap.size w w8) := HW7.out.trans (((Below.refl w.heap.size w7).alloc HW7.out.size _).grown hgrow (by have := HW7.out.size; simp; omega) (fun j hj => by have := (HG.out j hj).1; omega))
            have hh1 := hk8 w1.heap.size (Nat.le_refl _) (by omega)
            have r0 : w8.cell? ⟨w1.heap.size, 0, none⟩ = some (.slice (some ⟨b, off, none⟩) M.length c1) := (World.cell?_of_block (w := w7) (a := ⟨w1.heap.size, 0, none⟩) hh1).trans q0
            have r1 : w8.cell? ⟨w1.heap.size, 1, none⟩ = some (.string ⟨#[]⟩) := (World.cell?_of_block (w := w7) (a := ⟨w1.heap.size, 1, none⟩) hh1).trans q1
            have rz : w8.frozen? ⟨w1.heap.size, 0, none⟩ = false := (World.frozen?_of_block (w := w7) (a := ⟨w1.heap.size, 0, none⟩) hh1).trans HZ7.out
            have hO8 : OwnF w8 (w.heap.size + 2) v' (M ++ [(nn, [118])]) := by unfold OwnF; rw [cellsF_append, cellsF_one, List.length_append]; exact hown8
            obtain ⟨g9, c9, rfl, _, _⟩ := hO8.form (by simp)
            have hF8 := hO8.fields
            have hne : g9 ≠ w1.heap.size := by
              rintro rfl
              obtain ⟨f0, hf0⟩ : ∃ f0, (M ++ [(nn, [118])])[0]? = some f0 := ⟨_, List.getElem?_eq_getElem (by simp)⟩
              have := fields_first hF8 hf0
              rw [r0] at this
              cases this
            obtain ⟨N, hN⟩ : ∃ N, N = M ++ [(nn, [118])] := ⟨_, rfl⟩
            rw [← hN] at hF8 HFN HMN HVC
            obtain ⟨W9, hW9⟩ : ∃ W9, W9 = w8.setCell ⟨w1.heap.size, 0, none⟩ (.slice (some ⟨g9, 0, none⟩) N.length c9) := ⟨_, rfl⟩
            have HF9 : Hid (FieldsAt W9 (some ⟨g9, 0, none⟩) N) := by rw [hW9]; exact fields_far hF8 hne _
            have s0 : W9.cell? ⟨w1.heap.size, 0, none⟩ = some (.slice (some ⟨g9, 0, none⟩) N.length c9) := by rw [hW9]; exact World.cell?_setCell_same' _ _ _ (by rw [r0]; rfl)
            have s1 : W9.cell? ⟨w1.heap.size, 1, none⟩ = some (.string ⟨#[]⟩) := by rw [hW9]; exact (World.cell?_setCell_other _ _ _ _ (by simp)).trans r1
            have hs9 : w7.heap.size ≤ W9.heap.size := by rw [hW9]; simpa [World.setCell] using hs8
            have hk9 : ∀ k, w1.heap.size + 1 ≤ k → k < w7.heap.size → W9.heap[k]? = w7.heap[k]? := fun k h1 h2 => by
              rw [hW9]; exact (Below.heap_setCell _ _ _ _ (by show k ≠ w1.heap.size; omega)).trans (hk8 k (by omega) h2)
            have HW9 : Hid (Below w.heap.size w W9) := by rw [hW9]; exact HW8.out.setCell (HB1.out.size) _
            have HTA9 : Hid (TextsAt W9 aA vs) := texts_keep HTA7.out HTAf.out hs9 hk9
            have HTB9 : Hid (TextsAt W9 aB vs) := texts_keep HTB7.out HTBf.out hs9 hk9
            have HTw9 : Hid (TextsAt W9 aW vs) := texts_keep HTw7.out (HTf.out.mono hs3) hs9 hk9
            have HWE : Hid _ := hW9
            have hNe : (M ++ [(nn, [118])]).length = N.length := by rw [hN]
            rw [hNe]
            clear hW9 hown8 hgrow hk8 hO8 hF8 hN hNe q0 q1 hh1 hk9 hO7
            have HLC : Hid ((vs ++ [[118]]).length = vs.length + 1) := by unfold Hid; simp
            go_wp2_with fail
            rw [← HWE.out]
            refine (values_full (some ⟨g9, 0, none⟩) c9 N ⟨#[]⟩ (S nn) _ HF9.out HMN.out (maxLenCell_below hm HW9.out) HFN.out (by omega)).mono ?_
            rw [HVC.out, HLC.out]
            rintro e w10 ⟨aC, cC, rfl, _, _, hb10⟩
            go_wp2_with fail
            refine (sameTK_any aA aW cA cW vs _ (HTA9.out.below hb10) (HTw9.out.below hb10) (by omega)).mono ?_
            rintro e w11 ⟨rfl, hb11⟩
            go_wp2_with fail
            refine (sameTK_any aB aW cB cW vs _ ((HTB9.out.below hb10).below hb11) ((HTw9.out.below hb10).below hb11) (by omega)).mono ?_
            rintro e w12 ⟨rfl, hb12⟩
            go_wp2
            go_ret
            exact ⟨ret_bool (by first | rfl | simp), bnext (bnext (bnext HW9.out hb10 (Nat.le_refl _)) hb11 (Nat.le_refl _)) hb12 (Nat.le_refl _)⟩
end Go.Proofs.YtdpdcaglldojiaaDoor
