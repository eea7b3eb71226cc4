/-
  What script's writer.branches does: the walk. Its loop goes down what is else.
-/
import Derived.Test.YtdmiidbncpgfpabDoorScrWch
namespace Go.Proofs.YtdmiidbncpgfpabDoor
open Go.RowKit Go.Proofs

set_option maxHeartbeats 16000000 in
set_option maxRecDepth 100000 in
theorem wbranches_step (n : Nat) (ih : ∀ m, m ≤ n → WrBr m) : WrBr (n + 1) := by
  intro c d b g l w ax an ak at' aa ae cx cn ck ct ca ce hR hl hG hw hF h2 hC
  obtain ⟨_, hd6, _, hF2⟩ := fault_cmd hF
  obtain ⟨hF3, hF4, hF5⟩ := hF2 h2
  obtain ⟨m0, hm0, hX1, hX2, hX3, hX4⟩ := cmd_parts hC
  obtain rfl : n = m0 := by omega
  have HRT := hid (restT_if n c h2)
  have HIH := hid ih
  have HR := hid hR
  have HW := hid hw
  have HX2 := hid hX2
  have HX3 := hid hX3
  have HC := hid hC
  have HF := hid hF
  have HF3 := hid hF3
  have HF4 := hid hF4
  have H2 := hid h2
  have hbl := hR.lt
  have hgf := hR.fresh
  have hbne : w.heap.size ≠ b := by omega
  have hbne' : b ≠ w.heap.size := by omega
  obtain ⟨W0, hW0⟩ : ∃ W0, W0 = w.alloc (.cells #[.int .i64 c.kind, .slice ax c.texts.length cx, .int .i64 c.test.kind, .int .i64 c.test.mat, .int .i64 c.test.part, .slice an c.test.names.length cn, .slice ak c.test.keys.length ck, .bool c.test.over, .int .i64 c.test.limit, .slice at' c.test.tests.length ct, .slice aa c.thn.length ca, .slice ae c.els.length ce] 29) := ⟨_, rfl⟩
  have hal : Below w.heap.size w W0 := by rw [hW0]; exact (Below.refl _ _).alloc (Nat.le_refl _) _
  have hH : W0.heap[w.heap.size]? = some (.cells #[.int .i64 c.kind, .slice ax c.texts.length cx, .int .i64 c.test.kind, .int .i64 c.test.mat, .int .i64 c.test.part, .slice an c.test.names.length cn, .slice ak c.test.keys.length ck, .bool c.test.over, .int .i64 c.test.limit, .slice at' c.test.tests.length ct, .slice aa c.thn.length ca, .slice ae c.els.length ce] 29) := by rw [hW0]; exact heap_alloc_new w _
  have hlt0 : w.heap.size < W0.heap.size := by rw [hW0]; simp
  have HH0 := hid hH
  have HWE := hid hW0
  have HAL := hid hal
  clear hX1 hX2 hX3 hX4 hC hF hF2 hF3 hF4 hF5 h2 hm0 hal hH ih hw hR
  go_enter Tryd.func51, Tryd.ntmps51
  go_wp2_with fail
  rw [← HWE.out]
  refine (wtest_any n c.test 1 b g l W0 _ _ _ _ _ _ (HR.out.next HAL.out) hl hG (HW.out.next HAL.out) HF3.out (HX2.out.next HAL.out)).mono ?_
  rintro e w1 ⟨rfl, g1, hU1, hW1⟩
  have hH1 : w1.heap[w.heap.size]? = some (.cells #[.int .i64 c.kind, .slice ax c.texts.length cx, .int .i64 c.test.kind, .int .i64 c.test.mat, .int .i64 c.test.part, .slice an c.test.names.length cn, .slice ak c.test.keys.length ck, .bool c.test.over, .int .i64 c.test.limit, .slice at' c.test.tests.length ct, .slice aa c.thn.length ca, .slice ae c.els.length ce] 29) := (hW1.block _ hlt0 hbne (fun e => hgf e.symm)).trans HH0.out
  have k10 : w1.cell? ⟨w.heap.size, 10, none⟩ = some (.slice aa c.thn.length ca) := by simp [World.cell?, hH1]
  have hs1 := hW1.stay (k := w.heap.size) hlt0 hgf
  have HL1 := hid ((HR.out.next HAL.out).below hW1)
  have HB1 := hid ((HAL.out.mono (Nat.le_of_lt hbl)).trans HL1.out)
  have hlt1 : w.heap.size < w1.heap.size := Nat.lt_of_lt_of_le hlt0 hW1.size
  have HU1 := hid hU1
  have HW1 := hid ((Wrote.of HAL.out).trans hW1)
  have HWw1 := hid (HW.out.low HB1.out hG)
  have HH1 := hid hH1
  clear hU1 hW1 hH1
  go_wp2_with fail
  refine (wblock_of n (HIH.out n (Nat.le_refl _)) c.thn (d + 1) b g1 _ w1 _ _ HU1.out (take_len _) hG HWw1.out HF4.out (HX3.out.wrote HB1.out)).mono ?_
  rintro e w2 ⟨rfl, g2, hU2, hW2⟩
  rw [take_join] at hU2
  have HU2 := hid hU2
  have HH2 := hid (show w2.heap[w.heap.size]? = some (.cells #[.int .i64 c.kind, .slice ax c.texts.length cx, .int .i64 c.test.kind, .int .i64 c.test.mat, .int .i64 c.test.part, .slice an c.test.names.length cn, .slice ak c.test.keys.length ck, .bool c.test.over, .int .i64 c.test.limit, .slice at' c.test.tests.length ct, .slice aa c.thn.length ca, .slice ae c.els.length ce] 29) from (hW2.block _ hlt1 hbne (fun e => hs1 e.symm)).trans HH1.out)
  have hs2 := hW2.stay (k := w.heap.size) hlt1 hs1
  have hlt2 : w.heap.size < w2.heap.size := Nat.lt_of_lt_of_le hlt1 hW2.size
  have HB2 := hid (HB1.out.trans (HU1.out.below hW2))
  have HW2 := hid (HW1.out.trans hW2)
  clear hU2 hW2 k10
  go_wp2
  go_loopw [12] (fun _ wr => ∃ (m : Nat) (c' : Cmd) (ax an ak at' aa ae : Option Addr) (cx cn ck ct ca ce : Nat) (g' : Option Nat) (pre : List Tok), wr.heap[w.heap.size]? = some (.cells #[.int .i64 c'.kind, .slice ax c'.texts.length cx, .int .i64 c'.test.kind, .int .i64 c'.test.mat, .int .i64 c'.test.part, .slice an c'.test.names.length cn, .slice ak c'.test.keys.length ck, .bool c'.test.over, .int .i64 c'.test.limit, .slice at' c'.test.tests.length ct, .slice aa c'.thn.length ca, .slice ae c'.els.length ce] 29) ∧ CmdM (und b) (m + 1) wr c' [.int .i64 c'.kind, .slice ax c'.texts.length cx, .int .i64 c'.test.kind, .int .i64 c'.test.mat, .int .i64 c'.test.part, .slice an c'.test.names.length cn, .slice ak c'.test.keys.length ck, .bool c'.test.over, .int .i64 c'.test.limit, .slice at' c'.test.tests.length ct, .slice aa c'.thn.length ca, .slice ae c'.els.length ce] ∧ m ≤ n ∧ faultCmd (m + 1) d c' = 0 ∧ c'.kind = 2 ∧
      WrB wr b g' ((l ++ pre).take 401) ∧ Hid (restT (n + 1) c = pre ++ tailT m c') ∧ Wrote b g g' w wr ∧ g' ≠ some w.heap.size ∧ w.heap.size < wr.heap.size)
    (fun _ wr => match wr.cell? ⟨w.heap.size, 11, none⟩ with | some v => chainW (n + 1) wr v | none => 0)
  case atStart => exact ⟨n, c, ax, an, ak, at', aa, ae, cx, cn, ck, ct, ca, ce, g2, testT n c.test ++ (markT 123 :: (cmdsT n c.thn ++ [markT 125])), HH2.out, HC.out.wrote HB2.out, Nat.le_refl _, HF.out, H2.out, HU2.out, by unfold Hid; rw [HRT.out, List.append_assoc], HW2.out, hs2, hlt2⟩
  case round =>
    obtain ⟨m, c', ax, an, ak, at', aa, ae, cx, cn, ck, ct, ca, ce, g', pre, hHr, hCr, hmn, hFr, h2r, hUr, hPr, hWr, hsr, hltr⟩ := hrel
    obtain ⟨_, _, _, hF2⟩ := fault_cmd hFr
    obtain ⟨_, _, hF5⟩ := hF2 h2r
    obtain ⟨m0, hm0, _, _, _, hX4⟩ := cmd_parts hCr
    obtain rfl : m = m0 := by omega
    have hlw := HR.out.below hWr
    have HWr := hid hWr
    have HUr := hid hUr
    have HX4 := hid hX4
    have HHr := hid hHr
    have HL := hid hlw
    have HWwr := hid (HW.out.low hlw hG)
    have r11 : wr.cell? ⟨w.heap.size, 11, none⟩ = some (.slice ae c'.els.length ce) := by simp [World.cell?, hHr]
    have HM := hid (show (match wr.cell? ⟨w.heap.size, 11, none⟩ with | some v => chainW (n + 1) wr v | none => 0) = chainP (n + 1) c'.els by rw [r11]; exact chain_eq (n + 1) m c'.els _ hX4)
    clear hF2 hHr hCr hFr h2r hUr hWr hX4 hm0 hlw
    have HF5 := hid hF5
    clear hF5
    go_wp2_with fail
    refine (isElsif_any m c'.els ae ce wr (RowM.imp HX4.out (fun _ _ => trivial) (Keeps.refl _ _) fun _ _ h => CmdM.imp (fun _ _ => trivial) (Keeps.refl _ _) _ _ _ h)).mono ?_
    rintro e u ⟨rfl, hu⟩
    have hu' := hu.symm
    subst hu'
    cases he : elsifP c'.els with
    | some x =>
      obtain ⟨hels, hkx⟩ := elsifP_some he
      have hq1 : c'.els.length = 1 := by rw [hels]; rfl
      have hFx : faultCmd m d x = 0 := by have := HF5.out; rw [he] at this; exact this
      have HTl := hid (show tailT m c' = wordT elsifW :: restT m x by unfold tailT; rw [he])
      have HMx := hid (show chainP (n + 1) c'.els = 1 + chainP n x.els by rw [chainP, he])
      obtain ⟨q, o, ax2, cx2, an2, cn2, ak2, ck2, at2, ct2, aa2, ca2, ae2, ce2, rfl, hq, e0, e1, e2, e3, e4, e5, e6, e7, e8, e9, e10, e11, hTx⟩ := cmd_at HX4.out (i := 0) (x := x) (by rw [hels]; rfl)
      rw [Nat.zero_mul, Nat.add_zero] at e0 e1 e2 e3 e4 e5 e6 e7 e8 e9 e10 e11
      obtain ⟨m', hm', _, hY2, hY3, hY4⟩ := cmd_parts hTx
      subst hm'
      obtain ⟨_, _, _, hFx2⟩ := fault_cmd hFx
      obtain ⟨hG1, hG2, _⟩ := hFx2 hkx
      have HRx := hid (restT_if m' x hkx)
      have HTx := hid hTx
      have HY2 := hid hY2
      have HY3 := hid hY3
      have HFx := hid hFx
      have HG1 := hid hG1
      have HG2 := hid hG2
      have HKX := hid hkx
      have p0 : wr.cell? ⟨w.heap.size, 0, none⟩ = some (.int .i64 c'.kind) := by simp [World.cell?, HHr.out]
      have p1 : wr.cell? ⟨w.heap.size, 1, none⟩ = some (.slice ax c'.texts.length cx) := by simp [World.cell?, HHr.out]
      have p2 : wr.cell? ⟨w.heap.size, 2, none⟩ = some (.int .i64 c'.test.kind) := by simp [World.cell?, HHr.out]
      have p3 : wr.cell? ⟨w.heap.size, 3, none⟩ = some (.int .i64 c'.test.mat) := by simp [World.cell?, HHr.out]
      have p4 : wr.cell? ⟨w.heap.size, 4, none⟩ = some (.int .i64 c'.test.part) := by simp [World.cell?, HHr.out]
      have p5 : wr.cell? ⟨w.heap.size, 5, none⟩ = some (.slice an c'.test.names.length cn) := by simp [World.cell?, HHr.out]
      have p6 : wr.cell? ⟨w.heap.size, 6, none⟩ = some (.slice ak c'.test.keys.length ck) := by simp [World.cell?, HHr.out]
      have p7 : wr.cell? ⟨w.heap.size, 7, none⟩ = some (.bool c'.test.over) := by simp [World.cell?, HHr.out]
      have p8 : wr.cell? ⟨w.heap.size, 8, none⟩ = some (.int .i64 c'.test.limit) := by simp [World.cell?, HHr.out]
      have p9 : wr.cell? ⟨w.heap.size, 9, none⟩ = some (.slice at' c'.test.tests.length ct) := by simp [World.cell?, HHr.out]
      have p10 : wr.cell? ⟨w.heap.size, 10, none⟩ = some (.slice aa c'.thn.length ca) := by simp [World.cell?, HHr.out]
      have p11 : wr.cell? ⟨w.heap.size, 11, none⟩ = some (.slice (some ⟨q, o, none⟩) c'.els.length ce) := by simp [World.cell?, HHr.out]
      have z0 : wr.frozen? ⟨w.heap.size, 0, none⟩ = false := by simp [World.frozen?, HHr.out]
      have z1 : wr.frozen? ⟨w.heap.size, 1, none⟩ = false := by simp [World.frozen?, HHr.out]
      have z2 : wr.frozen? ⟨w.heap.size, 2, none⟩ = false := by simp [World.frozen?, HHr.out]
      have z3 : wr.frozen? ⟨w.heap.size, 3, none⟩ = false := by simp [World.frozen?, HHr.out]
      have z4 : wr.frozen? ⟨w.heap.size, 4, none⟩ = false := by simp [World.frozen?, HHr.out]
      have z5 : wr.frozen? ⟨w.heap.size, 5, none⟩ = false := by simp [World.frozen?, HHr.out]
      have z6 : wr.frozen? ⟨w.heap.size, 6, none⟩ = false := by simp [World.frozen?, HHr.out]
      have z7 : wr.frozen? ⟨w.heap.size, 7, none⟩ = false := by simp [World.frozen?, HHr.out]
      have z8 : wr.frozen? ⟨w.heap.size, 8, none⟩ = false := by simp [World.frozen?, HHr.out]
      have z9 : wr.frozen? ⟨w.heap.size, 9, none⟩ = false := by simp [World.frozen?, HHr.out]
      have z10 : wr.frozen? ⟨w.heap.size, 10, none⟩ = false := by simp [World.frozen?, HHr.out]
      have z11 : wr.frozen? ⟨w.heap.size, 11, none⟩ = false := by simp [World.frozen?, HHr.out]
      obtain ⟨W1, hW1⟩ : ∃ W1, W1 = ((((((((((((wr.setCell ⟨w.heap.size, 0, none⟩ (.int .i64 x.kind)).setCell ⟨w.heap.size, 1, none⟩ (.slice ax2 x.texts.length cx2)).setCell ⟨w.heap.size, 2, none⟩ (.int .i64 x.test.kind)).setCell ⟨w.heap.size, 3, none⟩ (.int .i64 x.test.mat)).setCell ⟨w.heap.size, 4, none⟩ (.int .i64 x.test.part)).setCell ⟨w.heap.size, 5, none⟩ (.slice an2 x.test.names.length cn2)).setCell ⟨w.heap.size, 6, none⟩ (.slice ak2 x.test.keys.length ck2)).setCell ⟨w.heap.size, 7, none⟩ (.bool x.test.over)).setCell ⟨w.heap.size, 8, none⟩ (.int .i64 x.test.limit)).setCell ⟨w.heap.size, 9, none⟩ (.slice at2 x.test.tests.length ct2)).setCell ⟨w.heap.size, 10, none⟩ (.slice aa2 x.thn.length ca2)).setCell ⟨w.heap.size, 11, none⟩ (.slice ae2 x.els.length ce2)) := ⟨_, rfl⟩
      have hH1 : W1.heap[w.heap.size]? = some (.cells #[.int .i64 x.kind, .slice ax2 x.texts.length cx2, .int .i64 x.test.kind, .int .i64 x.test.mat, .int .i64 x.test.part, .slice an2 x.test.names.length cn2, .slice ak2 x.test.keys.length ck2, .bool x.test.over, .int .i64 x.test.limit, .slice at2 x.test.tests.length ct2, .slice aa2 x.thn.length ca2, .slice ae2 x.els.length ce2] 29) := by
        have a0 := setCell_mark (i := 0) (.int .i64 x.kind) HHr.out
        have a1 := setCell_mark (i := 1) (.slice ax2 x.texts.length cx2) a0
        have a2 := setCell_mark (i := 2) (.int .i64 x.test.kind) a1
        have a3 := setCell_mark (i := 3) (.int .i64 x.test.mat) a2
        have a4 := setCell_mark (i := 4) (.int .i64 x.test.part) a3
        have a5 := setCell_mark (i := 5) (.slice an2 x.test.names.length cn2) a4
        have a6 := setCell_mark (i := 6) (.slice ak2 x.test.keys.length ck2) a5
        have a7 := setCell_mark (i := 7) (.bool x.test.over) a6
        have a8 := setCell_mark (i := 8) (.int .i64 x.test.limit) a7
        have a9 := setCell_mark (i := 9) (.slice at2 x.test.tests.length ct2) a8
        have a10 := setCell_mark (i := 10) (.slice aa2 x.thn.length ca2) a9
        have a11 := setCell_mark (i := 11) (.slice ae2 x.els.length ce2) a10
        rw [hW1, a11]
        simp
      have HU1' := hid (show WrB W1 b g' ((l ++ pre).take 401) by rw [hW1]; exact ((((((((((((HUr.out.far hbne' hsr 0 (.int .i64 x.kind)).far hbne' hsr 1 (.slice ax2 x.texts.length cx2)).far hbne' hsr 2 (.int .i64 x.test.kind)).far hbne' hsr 3 (.int .i64 x.test.mat)).far hbne' hsr 4 (.int .i64 x.test.part)).far hbne' hsr 5 (.slice an2 x.test.names.length cn2)).far hbne' hsr 6 (.slice ak2 x.test.keys.length ck2)).far hbne' hsr 7 (.bool x.test.over)).far hbne' hsr 8 (.int .i64 x.test.limit)).far hbne' hsr 9 (.slice at2 x.test.tests.length ct2)).far hbne' hsr 10 (.slice aa2 x.thn.length ca2)).far hbne' hsr 11 (.slice ae2 x.els.length ce2)))
      have HW1' := hid (show Wrote b g g' w W1 by rw [hW1]; exact ((((((((((((HWr.out.far (Nat.le_refl _) 0 (.int .i64 x.kind)).far (Nat.le_refl _) 1 (.slice ax2 x.texts.length cx2)).far (Nat.le_refl _) 2 (.int .i64 x.test.kind)).far (Nat.le_refl _) 3 (.int .i64 x.test.mat)).far (Nat.le_refl _) 4 (.int .i64 x.test.part)).far (Nat.le_refl _) 5 (.slice an2 x.test.names.length cn2)).far (Nat.le_refl _) 6 (.slice ak2 x.test.keys.length ck2)).far (Nat.le_refl _) 7 (.bool x.test.over)).far (Nat.le_refl _) 8 (.int .i64 x.test.limit)).far (Nat.le_refl _) 9 (.slice at2 x.test.tests.length ct2)).far (Nat.le_refl _) 10 (.slice aa2 x.thn.length ca2)).far (Nat.le_refl _) 11 (.slice ae2 x.els.length ce2)))
      have HL1' := hid (show Below b wr W1 by rw [hW1]; exact ((((((((((((((((((((((((Below.refl b wr).setCell (show b ≤ w.heap.size by omega) (.int .i64 x.kind))).setCell (show b ≤ w.heap.size by omega) (.slice ax2 x.texts.length cx2))).setCell (show b ≤ w.heap.size by omega) (.int .i64 x.test.kind))).setCell (show b ≤ w.heap.size by omega) (.int .i64 x.test.mat))).setCell (show b ≤ w.heap.size by omega) (.int .i64 x.test.part))).setCell (show b ≤ w.heap.size by omega) (.slice an2 x.test.names.length cn2))).setCell (show b ≤ w.heap.size by omega) (.slice ak2 x.test.keys.length ck2))).setCell (show b ≤ w.heap.size by omega) (.bool x.test.over))).setCell (show b ≤ w.heap.size by omega) (.int .i64 x.test.limit))).setCell (show b ≤ w.heap.size by omega) (.slice at2 x.test.tests.length ct2))).setCell (show b ≤ w.heap.size by omega) (.slice aa2 x.thn.length ca2))).setCell (show b ≤ w.heap.size by omega) (.slice ae2 x.els.length ce2)))
      have hlt1' : w.heap.size < W1.heap.size := by rw [hW1]; simpa [World.setCell] using hltr
      have HH1' := hid hH1
      have HWE1 := hid hW1
      clear hW1 hH1 he hels hkx hFx hTx hY2 hY3 hY4 hFx2 hG1 hG2
      rw [hq1] at r11 p11
      rw [hq1]
      go_wp2_with fail
      rw [← HWE1.out]
      refine (put_any b g' _ 1 elsifW W1 HU1'.out (take_len _)).mono ?_
      rintro e w3 ⟨rfl, g3, hU3, hW3⟩
      rw [take_join] at hU3
      have hH3 : w3.heap[w.heap.size]? = some (.cells #[.int .i64 x.kind, .slice ax2 x.texts.length cx2, .int .i64 x.test.kind, .int .i64 x.test.mat, .int .i64 x.test.part, .slice an2 x.test.names.length cn2, .slice ak2 x.test.keys.length ck2, .bool x.test.over, .int .i64 x.test.limit, .slice at2 x.test.tests.length ct2, .slice aa2 x.thn.length ca2, .slice ae2 x.els.length ce2] 29) := (hW3.block _ hlt1' hbne (fun e => hsr e.symm)).trans HH1'.out
      have hs3 := hW3.stay (k := w.heap.size) hlt1' hsr
      have hlt3 : w.heap.size < w3.heap.size := Nat.lt_of_lt_of_le hlt1' hW3.size
      have HL3 := hid (HL1'.out.trans (HU1'.out.below hW3))
      have HU3 := hid hU3
      have HW3 := hid (HW1'.out.trans hW3)
      have t0 : w3.cell? ⟨w.heap.size, 0, none⟩ = some (.int .i64 x.kind) := by simp [World.cell?, hH3]
      have t1 : w3.cell? ⟨w.heap.size, 1, none⟩ = some (.slice ax2 x.texts.length cx2) := by simp [World.cell?, hH3]
      have t2 : w3.cell? ⟨w.heap.size, 2, none⟩ = some (.int .i64 x.test.kind) := by simp [World.cell?, hH3]
      have t3 : w3.cell? ⟨w.heap.size, 3, none⟩ = some (.int .i64 x.test.mat) := by simp [World.cell?, hH3]
      have t4 : w3.cell? ⟨w.heap.size, 4, none⟩ = some (.int .i64 x.test.part) := by simp [World.cell?, hH3]
      have t5 : w3.cell? ⟨w.heap.size, 5, none⟩ = some (.slice an2 x.test.names.length cn2) := by simp [World.cell?, hH3]
      have t6 : w3.cell? ⟨w.heap.size, 6, none⟩ = some (.slice ak2 x.test.keys.length ck2) := by simp [World.cell?, hH3]
      have t7 : w3.cell? ⟨w.heap.size, 7, none⟩ = some (.bool x.test.over) := by simp [World.cell?, hH3]
      have t8 : w3.cell? ⟨w.heap.size, 8, none⟩ = some (.int .i64 x.test.limit) := by simp [World.cell?, hH3]
      have t9 : w3.cell? ⟨w.heap.size, 9, none⟩ = some (.slice at2 x.test.tests.length ct2) := by simp [World.cell?, hH3]
      have t10 : w3.cell? ⟨w.heap.size, 10, none⟩ = some (.slice aa2 x.thn.length ca2) := by simp [World.cell?, hH3]
      have t11 : w3.cell? ⟨w.heap.size, 11, none⟩ = some (.slice ae2 x.els.length ce2) := by simp [World.cell?, hH3]
      have HH3 := hid hH3
      clear hU3 hW3 hH3 r11 p0 p1 p2 p3 p4 p5 p6 p7 p8 p9 p10 p11 z0 z1 z2 z3 z4 z5 z6 z7 z8 z9 z10 z11 e0 e1 e2 e3 e4 e5 e6 e7 e8 e9 e10 e11
      go_wp2_with fail
      refine (wtest_any m' x.test 1 b g3 _ w3 _ _ _ _ _ _ HU3.out (take_len _) hG (HWwr.out.low HL3.out hG) HG1.out (HY2.out.wrote HL3.out)).mono ?_
      rintro e w4 ⟨rfl, g4, hU4, hW4⟩
      rw [take_join] at hU4
      have hH4 : w4.heap[w.heap.size]? = some (.cells #[.int .i64 x.kind, .slice ax2 x.texts.length cx2, .int .i64 x.test.kind, .int .i64 x.test.mat, .int .i64 x.test.part, .slice an2 x.test.names.length cn2, .slice ak2 x.test.keys.length ck2, .bool x.test.over, .int .i64 x.test.limit, .slice at2 x.test.tests.length ct2, .slice aa2 x.thn.length ca2, .slice ae2 x.els.length ce2] 29) := (hW4.block _ hlt3 hbne (fun e => hs3 e.symm)).trans HH3.out
      have hs4 := hW4.stay (k := w.heap.size) hlt3 hs3
      have hlt4 : w.heap.size < w4.heap.size := Nat.lt_of_lt_of_le hlt3 hW4.size
      have HL4 := hid (HL3.out.trans (HU3.out.below hW4))
      have HU4 := hid hU4
      have HW4 := hid (HW3.out.trans hW4)
      have s10 : w4.cell? ⟨w.heap.size, 10, none⟩ = some (.slice aa2 x.thn.length ca2) := by simp [World.cell?, hH4]
      have HH4 := hid hH4
      clear hU4 hW4 hH4 t0 t1 t2 t3 t4 t5 t6 t7 t8 t9 t10 t11
      go_wp2_with fail
      refine (wblock_of m' (HIH.out m' (by omega)) x.thn (d + 1) b g4 _ w4 _ _ HU4.out (take_len _) hG (HWwr.out.low HL4.out hG) HG2.out (HY3.out.wrote HL4.out)).mono ?_
      rintro e w5 ⟨rfl, g5, hU5, hW5⟩
      rw [take_join] at hU5
      have hH5 : w5.heap[w.heap.size]? = some (.cells #[.int .i64 x.kind, .slice ax2 x.texts.length cx2, .int .i64 x.test.kind, .int .i64 x.test.mat, .int .i64 x.test.part, .slice an2 x.test.names.length cn2, .slice ak2 x.test.keys.length ck2, .bool x.test.over, .int .i64 x.test.limit, .slice at2 x.test.tests.length ct2, .slice aa2 x.thn.length ca2, .slice ae2 x.els.length ce2] 29) := (hW5.block _ hlt4 hbne (fun e => hs4 e.symm)).trans HH4.out
      have hs5 := hW5.stay (k := w.heap.size) hlt4 hs4
      have hlt5 : w.heap.size < w5.heap.size := Nat.lt_of_lt_of_le hlt4 hW5.size
      have HL5 := hid (HL4.out.trans (HU4.out.below hW5))
      have HT5 := hid (HTx.out.wrote HL5.out)
      have s11 : w5.cell? ⟨w.heap.size, 11, none⟩ = some (.slice ae2 x.els.length ce2) := by simp [World.cell?, hH5]
      have HM5 := hid (show (match w5.cell? ⟨w.heap.size, 11, none⟩ with | some v => chainW (n + 1) w5 v | none => 0) < (match wr.cell? ⟨w.heap.size, 11, none⟩ with | some v => chainW (n + 1) wr v | none => 0) by
        rw [HM.out, s11, HMx.out]
        obtain ⟨mm, hmm, _, _, _, h4⟩ := cmd_parts HT5.out
        have e1 : chainW (n + 1) w5 (.slice ae2 x.els.length ce2) = chainP (n + 1) x.els := chain_eq (n + 1) mm x.els _ h4
        have e2 := chain_more (m' + 1) n x _ HT5.out (by omega)
        show chainW (n + 1) w5 (.slice ae2 x.els.length ce2) < _
        rw [e1, e2]
        omega)
      have HP5 := hid (show restT (n + 1) c = (((pre ++ [wordT elsifW]) ++ testT m' x.test) ++ (markT 123 :: (cmdsT m' x.thn ++ [markT 125]))) ++ tailT m' x by
        rw [hPr.out, HTl.out, HRx.out]
        simp [List.append_assoc])
      have HU5 := hid (show WrB w5 b g5 ((l ++ (((pre ++ [wordT elsifW]) ++ testT m' x.test) ++ (markT 123 :: (cmdsT m' x.thn ++ [markT 125])))).take 401) by
        simpa [wordT, List.append_assoc] using hU5)
      have HH5 := hid hH5
      have HW5 := hid (HW4.out.trans hW5)
      clear hU5 hW5 hH5 s10 s11
      go_wp2
      exact ⟨⟨m', x, _, _, _, _, _, _, _, _, _, _, _, _, g5, _, HH5.out, HT5.out, by omega, HFx.out, HKX.out, HU5.out, HP5, HW5.out, hs5, hlt5⟩, HM5.out⟩
    | none =>
      have hF6 : firstP (faultCmd m (d + 1)) c'.els = 0 := by have := HF5.out; rw [he] at this; exact this
      have HF6 := hid hF6
      have HTl := hid (show tailT m c' = if c'.els.length = 0 then [] else wordT elseW :: (markT 123 :: (cmdsT m c'.els ++ [markT 125])) by unfold tailT; rw [he])
      clear he hF6
      by_cases h0 : 0 < c'.els.length
      · have h0' : (0 : Int) < (c'.els.length : Int) := by omega
        go_wp2_with fail
        refine (put_any b g' _ 1 elseW wr HUr.out (take_len _)).mono ?_
        rintro e w3 ⟨rfl, g3, hU3, hW3⟩
        rw [take_join] at hU3
        have hH3 : w3.heap[w.heap.size]? = some (.cells #[.int .i64 c'.kind, .slice ax c'.texts.length cx, .int .i64 c'.test.kind, .int .i64 c'.test.mat, .int .i64 c'.test.part, .slice an c'.test.names.length cn, .slice ak c'.test.keys.length ck, .bool c'.test.over, .int .i64 c'.test.limit, .slice at' c'.test.tests.length ct, .slice aa c'.thn.length ca, .slice ae c'.els.length ce] 29) := (hW3.block _ hltr hbne (fun e => hsr e.symm)).trans HHr.out
        have r11' : w3.cell? ⟨w.heap.size, 11, none⟩ = some (.slice ae c'.els.length ce) := by simp [World.cell?, hH3]
        have HU3 := hid hU3
        have HL3 := hid (HUr.out.below hW3)
        have HW3 := hid (HWr.out.trans hW3)
        clear hU3 hW3 r11 hH3
        go_wp2_with fail
        refine (wblock_of m (HIH.out m hmn) c'.els (d + 1) b g3 _ w3 _ _ HU3.out (take_len _) hG (HWwr.out.low HL3.out hG) HF6.out (HX4.out.wrote HL3.out)).mono ?_
        rintro e w4 ⟨rfl, g4, hU4, hW4⟩
        rw [take_join] at hU4
        have HE := hid (show Wd b g w l (restT (n + 1) c) (.returned (.tuple #[])) w4 from ⟨rfl, g4, by rw [hPr.out, HTl.out, if_neg (by omega)]; simpa [wordT, List.append_assoc] using hU4, HW3.out.trans hW4⟩)
        clear hU4 hW4
        go_wp2
        go_end0
        exact HE.out
      · have h0' : ¬ (0 : Int) < (c'.els.length : Int) := by omega
        have HE := hid (show Wd b g w l (restT (n + 1) c) (.returned (.tuple #[])) wr from ⟨rfl, g', by rw [hPr.out, HTl.out, if_pos (by omega), List.append_nil]; exact HUr.out, HWr.out⟩)
        go_wp2
        go_end0
        exact HE.out

theorem wbranches_any (n : Nat) : WrBr n := by
  induction n using Nat.strongRecOn with
  | ind n ih =>
    cases n with
    | zero => intro c d b g l w ax an ak at' aa ae cx cn ck ct ca ce _ _ _ _ _ _ h; exact h.elim
    | succ n => exact wbranches_step n fun m hm => ih m (by omega)
end Go.Proofs.YtdmiidbncpgfpabDoor
