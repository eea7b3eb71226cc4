/-
  What script's writer.test does: the walks, kind by kind.
-/
import Derived.Test.YtdmiidbncpgfpabDoorScrWtst
namespace Go.Proofs.YtdmiidbncpgfpabDoor
open Go.RowKit Go.Proofs

set_option maxHeartbeats 8000000 in
set_option maxRecDepth 100000 in
theorem wtest_k1 (n : Nat) (ih : WrT n) (mat part limit : Int) (names keys : List (List UInt8)) (over : Bool) (tests : List Tst) (d b : Nat) (g : Option Nat) (l : List Tok) (w : World) (an ak at' : Option Addr) (cn ck ct : Nat) (hR : WrB w b g l) (hl : l.length ≤ 401) (hG : 0 < b) (hw : WordsAt w)
    (hF : faultTst (n + 1) d ⟨1, mat, part, names, keys, over, limit, tests⟩ = 0) (hn : TxtsM (und b) w (.slice an names.length cn) names) (hk : TxtsM (und b) w (.slice ak keys.length ck) keys) (ht : TstsM (und b) n w (.slice at' tests.length ct) tests) :
    Calls Tryd.prog 68 #[.pointer (some ⟨b, 0, none⟩), .agg #[.int .i64 1, .int .i64 mat, .int .i64 part, .slice an names.length cn, .slice ak keys.length ck, .bool over, .int .i64 limit, .slice at' tests.length ct]] w (Wd b g w l (testT (n + 1) ⟨1, mat, part, names, keys, over, limit, tests⟩)) := by
  obtain ⟨_, hd6, hfit, hF2⟩ := fault_tst hF
  have HF2 := hid hF2
  have HIH := hid ih
  have HR := hid hR
  have HN := hid hn
  have HK := hid hk
  have HT := hid ht
  have hbl := hR.lt
  have hgf := hR.fresh
  have hbne : w.heap.size ≠ b := by omega
  clear hF hF2 ih hn hk ht
  obtain ⟨W0, hW0⟩ : ∃ W0, W0 = w.alloc (.cells #[.int .i64 1, .int .i64 mat, .int .i64 part, .slice an names.length cn, .slice ak keys.length ck, .bool over, .int .i64 limit, .slice at' tests.length ct] 26) := ⟨_, rfl⟩
  have hal : Below w.heap.size w W0 := by rw [hW0]; exact (Below.refl _ _).alloc (Nat.le_refl _) _
  have hH : W0.heap[w.heap.size]? = some (.cells #[.int .i64 1, .int .i64 mat, .int .i64 part, .slice an names.length cn, .slice ak keys.length ck, .bool over, .int .i64 limit, .slice at' tests.length ct] 26) := by rw [hW0]; exact heap_alloc_new w _
  have f0 : W0.cell? ⟨w.heap.size, 0, none⟩ = some (.int .i64 1) := by simp [World.cell?, hH]
  have f1 : W0.cell? ⟨w.heap.size, 1, none⟩ = some (.int .i64 mat) := by simp [World.cell?, hH]
  have f2 : W0.cell? ⟨w.heap.size, 2, none⟩ = some (.int .i64 part) := by simp [World.cell?, hH]
  have f3 : W0.cell? ⟨w.heap.size, 3, none⟩ = some (.slice an names.length cn) := by simp [World.cell?, hH]
  have f4 : W0.cell? ⟨w.heap.size, 4, none⟩ = some (.slice ak keys.length ck) := by simp [World.cell?, hH]
  have f5 : W0.cell? ⟨w.heap.size, 5, none⟩ = some (.bool over) := by simp [World.cell?, hH]
  have f6 : W0.cell? ⟨w.heap.size, 6, none⟩ = some (.int .i64 limit) := by simp [World.cell?, hH]
  have f7 : W0.cell? ⟨w.heap.size, 7, none⟩ = some (.slice at' tests.length ct) := by simp [World.cell?, hH]
  have HWE := hid hW0
  have HAL := hid hal
  have hc := hw 1 1 (by omega) (by omega)
  simp at hc
  have hGn : (0 : Nat) ≠ w.heap.size := by omega
  have hG0 : 0 < w.heap.size := by omega
  have HWW := hid (hw.next hal)
  clear hW0 hal hH hw hR
  go_enter Tryd.func68, Tryd.ntmps68
  go_wp2_with fail
  rw [← HWE.out]
  refine (put_any b g l 1 (wordOf 1 1) W0 (HR.out.next HAL.out) hl).mono ?_
  rintro e w1 ⟨rfl, g1, hU1, hW1⟩
  have k0 := hW1.cellAt f0 hbne hgf
  have k1 := hW1.cellAt f1 hbne hgf
  have k2 := hW1.cellAt f2 hbne hgf
  have k3 := hW1.cellAt f3 hbne hgf
  have k4 := hW1.cellAt f4 hbne hgf
  have k5 := hW1.cellAt f5 hbne hgf
  have k6 := hW1.cellAt f6 hbne hgf
  have k7 := hW1.cellAt f7 hbne hgf
  have hs1 := hW1.stay (k := w.heap.size) (World.block_lt_of_cell? W0 _ f0) hgf
  have HL1 := hid ((HR.out.next HAL.out).below hW1)
  have HU1 := hid hU1
  have HW1 := hid ((Wrote.of HAL.out).trans hW1)
  clear hU1 hW1 f0 f1 f2 f3 f4 f5 f6 f7 hc
  have HB1 := hid ((HAL.out.mono (Nat.le_of_lt hbl)).trans HL1.out)
  have HE := hid (show Wd b g w l (testT (n + 1) ⟨1, mat, part, names, keys, over, limit, tests⟩) (.returned (.tuple #[])) w1 from ⟨rfl, g1, HU1.out, HW1.out⟩)
  go_wp2
  go_end0
  exact HE.out

set_option maxHeartbeats 8000000 in
set_option maxRecDepth 100000 in
theorem wtest_k2 (n : Nat) (ih : WrT n) (mat part limit : Int) (names keys : List (List UInt8)) (over : Bool) (tests : List Tst) (d b : Nat) (g : Option Nat) (l : List Tok) (w : World) (an ak at' : Option Addr) (cn ck ct : Nat) (hR : WrB w b g l) (hl : l.length ≤ 401) (hG : 0 < b) (hw : WordsAt w)
    (hF : faultTst (n + 1) d ⟨2, mat, part, names, keys, over, limit, tests⟩ = 0) (hn : TxtsM (und b) w (.slice an names.length cn) names) (hk : TxtsM (und b) w (.slice ak keys.length ck) keys) (ht : TstsM (und b) n w (.slice at' tests.length ct) tests) :
    Calls Tryd.prog 68 #[.pointer (some ⟨b, 0, none⟩), .agg #[.int .i64 2, .int .i64 mat, .int .i64 part, .slice an names.length cn, .slice ak keys.length ck, .bool over, .int .i64 limit, .slice at' tests.length ct]] w (Wd b g w l (testT (n + 1) ⟨2, mat, part, names, keys, over, limit, tests⟩)) := by
  obtain ⟨_, hd6, hfit, hF2⟩ := fault_tst hF
  have HF2 := hid hF2
  have HIH := hid ih
  have HR := hid hR
  have HN := hid hn
  have HK := hid hk
  have HT := hid ht
  have hbl := hR.lt
  have hgf := hR.fresh
  have hbne : w.heap.size ≠ b := by omega
  clear hF hF2 ih hn hk ht
  obtain ⟨W0, hW0⟩ : ∃ W0, W0 = w.alloc (.cells #[.int .i64 2, .int .i64 mat, .int .i64 part, .slice an names.length cn, .slice ak keys.length ck, .bool over, .int .i64 limit, .slice at' tests.length ct] 26) := ⟨_, rfl⟩
  have hal : Below w.heap.size w W0 := by rw [hW0]; exact (Below.refl _ _).alloc (Nat.le_refl _) _
  have hH : W0.heap[w.heap.size]? = some (.cells #[.int .i64 2, .int .i64 mat, .int .i64 part, .slice an names.length cn, .slice ak keys.length ck, .bool over, .int .i64 limit, .slice at' tests.length ct] 26) := by rw [hW0]; exact heap_alloc_new w _
  have f0 : W0.cell? ⟨w.heap.size, 0, none⟩ = some (.int .i64 2) := by simp [World.cell?, hH]
  have f1 : W0.cell? ⟨w.heap.size, 1, none⟩ = some (.int .i64 mat) := by simp [World.cell?, hH]
  have f2 : W0.cell? ⟨w.heap.size, 2, none⟩ = some (.int .i64 part) := by simp [World.cell?, hH]
  have f3 : W0.cell? ⟨w.heap.size, 3, none⟩ = some (.slice an names.length cn) := by simp [World.cell?, hH]
  have f4 : W0.cell? ⟨w.heap.size, 4, none⟩ = some (.slice ak keys.length ck) := by simp [World.cell?, hH]
  have f5 : W0.cell? ⟨w.heap.size, 5, none⟩ = some (.bool over) := by simp [World.cell?, hH]
  have f6 : W0.cell? ⟨w.heap.size, 6, none⟩ = some (.int .i64 limit) := by simp [World.cell?, hH]
  have f7 : W0.cell? ⟨w.heap.size, 7, none⟩ = some (.slice at' tests.length ct) := by simp [World.cell?, hH]
  have HWE := hid hW0
  have HAL := hid hal
  have hc := hw 1 2 (by omega) (by omega)
  simp at hc
  have hGn : (0 : Nat) ≠ w.heap.size := by omega
  have hG0 : 0 < w.heap.size := by omega
  have HWW := hid (hw.next hal)
  clear hW0 hal hH hw hR
  go_enter Tryd.func68, Tryd.ntmps68
  go_wp2_with fail
  rw [← HWE.out]
  refine (put_any b g l 1 (wordOf 1 2) W0 (HR.out.next HAL.out) hl).mono ?_
  rintro e w1 ⟨rfl, g1, hU1, hW1⟩
  have k0 := hW1.cellAt f0 hbne hgf
  have k1 := hW1.cellAt f1 hbne hgf
  have k2 := hW1.cellAt f2 hbne hgf
  have k3 := hW1.cellAt f3 hbne hgf
  have k4 := hW1.cellAt f4 hbne hgf
  have k5 := hW1.cellAt f5 hbne hgf
  have k6 := hW1.cellAt f6 hbne hgf
  have k7 := hW1.cellAt f7 hbne hgf
  have hs1 := hW1.stay (k := w.heap.size) (World.block_lt_of_cell? W0 _ f0) hgf
  have HL1 := hid ((HR.out.next HAL.out).below hW1)
  have HU1 := hid hU1
  have HW1 := hid ((Wrote.of HAL.out).trans hW1)
  clear hU1 hW1 f0 f1 f2 f3 f4 f5 f6 f7 hc
  have HB1 := hid ((HAL.out.mono (Nat.le_of_lt hbl)).trans HL1.out)
  have HE := hid (show Wd b g w l (testT (n + 1) ⟨2, mat, part, names, keys, over, limit, tests⟩) (.returned (.tuple #[])) w1 from ⟨rfl, g1, HU1.out, HW1.out⟩)
  go_wp2
  go_end0
  exact HE.out

set_option maxHeartbeats 8000000 in
set_option maxRecDepth 100000 in
theorem wtest_k3 (n : Nat) (ih : WrT n) (mat part limit : Int) (names keys : List (List UInt8)) (over : Bool) (tests : List Tst) (d b : Nat) (g : Option Nat) (l : List Tok) (w : World) (an ak at' : Option Addr) (cn ck ct : Nat) (hR : WrB w b g l) (hl : l.length ≤ 401) (hG : 0 < b) (hw : WordsAt w)
    (hF : faultTst (n + 1) d ⟨3, mat, part, names, keys, over, limit, tests⟩ = 0) (hn : TxtsM (und b) w (.slice an names.length cn) names) (hk : TxtsM (und b) w (.slice ak keys.length ck) keys) (ht : TstsM (und b) n w (.slice at' tests.length ct) tests) :
    Calls Tryd.prog 68 #[.pointer (some ⟨b, 0, none⟩), .agg #[.int .i64 3, .int .i64 mat, .int .i64 part, .slice an names.length cn, .slice ak keys.length ck, .bool over, .int .i64 limit, .slice at' tests.length ct]] w (Wd b g w l (testT (n + 1) ⟨3, mat, part, names, keys, over, limit, tests⟩)) := by
  obtain ⟨_, hd6, hfit, hF2⟩ := fault_tst hF
  have HF2 := hid hF2
  have HIH := hid ih
  have HR := hid hR
  have HN := hid hn
  have HK := hid hk
  have HT := hid ht
  have hbl := hR.lt
  have hgf := hR.fresh
  have hbne : w.heap.size ≠ b := by omega
  clear hF hF2 ih hn hk ht
  obtain ⟨W0, hW0⟩ : ∃ W0, W0 = w.alloc (.cells #[.int .i64 3, .int .i64 mat, .int .i64 part, .slice an names.length cn, .slice ak keys.length ck, .bool over, .int .i64 limit, .slice at' tests.length ct] 26) := ⟨_, rfl⟩
  have hal : Below w.heap.size w W0 := by rw [hW0]; exact (Below.refl _ _).alloc (Nat.le_refl _) _
  have hH : W0.heap[w.heap.size]? = some (.cells #[.int .i64 3, .int .i64 mat, .int .i64 part, .slice an names.length cn, .slice ak keys.length ck, .bool over, .int .i64 limit, .slice at' tests.length ct] 26) := by rw [hW0]; exact heap_alloc_new w _
  have f0 : W0.cell? ⟨w.heap.size, 0, none⟩ = some (.int .i64 3) := by simp [World.cell?, hH]
  have f1 : W0.cell? ⟨w.heap.size, 1, none⟩ = some (.int .i64 mat) := by simp [World.cell?, hH]
  have f2 : W0.cell? ⟨w.heap.size, 2, none⟩ = some (.int .i64 part) := by simp [World.cell?, hH]
  have f3 : W0.cell? ⟨w.heap.size, 3, none⟩ = some (.slice an names.length cn) := by simp [World.cell?, hH]
  have f4 : W0.cell? ⟨w.heap.size, 4, none⟩ = some (.slice ak keys.length ck) := by simp [World.cell?, hH]
  have f5 : W0.cell? ⟨w.heap.size, 5, none⟩ = some (.bool over) := by simp [World.cell?, hH]
  have f6 : W0.cell? ⟨w.heap.size, 6, none⟩ = some (.int .i64 limit) := by simp [World.cell?, hH]
  have f7 : W0.cell? ⟨w.heap.size, 7, none⟩ = some (.slice at' tests.length ct) := by simp [World.cell?, hH]
  have HWE := hid hW0
  have HAL := hid hal
  have hc := hw 1 3 (by omega) (by omega)
  simp at hc
  have hGn : (0 : Nat) ≠ w.heap.size := by omega
  have hG0 : 0 < w.heap.size := by omega
  have HWW := hid (hw.next hal)
  clear hW0 hal hH hw hR
  go_enter Tryd.func68, Tryd.ntmps68
  go_wp2_with fail
  rw [← HWE.out]
  refine (put_any b g l 1 (wordOf 1 3) W0 (HR.out.next HAL.out) hl).mono ?_
  rintro e w1 ⟨rfl, g1, hU1, hW1⟩
  have k0 := hW1.cellAt f0 hbne hgf
  have k1 := hW1.cellAt f1 hbne hgf
  have k2 := hW1.cellAt f2 hbne hgf
  have k3 := hW1.cellAt f3 hbne hgf
  have k4 := hW1.cellAt f4 hbne hgf
  have k5 := hW1.cellAt f5 hbne hgf
  have k6 := hW1.cellAt f6 hbne hgf
  have k7 := hW1.cellAt f7 hbne hgf
  have hs1 := hW1.stay (k := w.heap.size) (World.block_lt_of_cell? W0 _ f0) hgf
  have HL1 := hid ((HR.out.next HAL.out).below hW1)
  have HU1 := hid hU1
  have HW1 := hid ((Wrote.of HAL.out).trans hW1)
  clear hU1 hW1 f0 f1 f2 f3 f4 f5 f6 f7 hc
  have HB1 := hid ((HAL.out.mono (Nat.le_of_lt hbl)).trans HL1.out)
  have h1 : tests.length = 1 := by
    have := hfit
    unfold fitsT at this
    simp at this
    exact this.1
  obtain ⟨x, rfl⟩ : ∃ x, tests = [x] := List.length_eq_one_iff.1 h1
  obtain ⟨q, o, an2, cn2, ak2, ck2, at2, ct2, rfl, hq, e0, e1, e2, e3, e4, e5, e6, e7, hTx⟩ := tst_at (HT.out.wrote HB1.out) (i := 0) (x := x) rfl
  rw [Nat.zero_mul, Nat.add_zero] at e0 e1 e2 e3 e4 e5 e6 e7
  have HTx := hid hTx
  have HFx := hid (firstP_zero HF2.out x (by simp))
  clear hTx h1
  go_wp2_with fail
  refine (HIH.out x (d + 1) b g1 _ w1 _ _ _ _ _ _ HU1.out (take_len _) hG (HWW.out.low HL1.out hG) HFx.out HTx.out).mono ?_
  rintro e w2 ⟨rfl, g2, hU2, hW2⟩
  rw [take_join] at hU2
  have HE := hid (show Wd b g w l (testT (n + 1) ⟨3, mat, part, names, keys, over, limit, [x]⟩) (.returned (.tuple #[])) w2 from ⟨rfl, g2, hU2, HW1.out.trans hW2⟩)
  clear hU2 hW2
  go_wp2
  go_end0
  exact HE.out

set_option maxHeartbeats 8000000 in
set_option maxRecDepth 100000 in
theorem wtest_k4 (n : Nat) (ih : WrT n) (mat part limit : Int) (names keys : List (List UInt8)) (over : Bool) (tests : List Tst) (d b : Nat) (g : Option Nat) (l : List Tok) (w : World) (an ak at' : Option Addr) (cn ck ct : Nat) (hR : WrB w b g l) (hl : l.length ≤ 401) (hG : 0 < b) (hw : WordsAt w)
    (hF : faultTst (n + 1) d ⟨4, mat, part, names, keys, over, limit, tests⟩ = 0) (hn : TxtsM (und b) w (.slice an names.length cn) names) (hk : TxtsM (und b) w (.slice ak keys.length ck) keys) (ht : TstsM (und b) n w (.slice at' tests.length ct) tests) :
    Calls Tryd.prog 68 #[.pointer (some ⟨b, 0, none⟩), .agg #[.int .i64 4, .int .i64 mat, .int .i64 part, .slice an names.length cn, .slice ak keys.length ck, .bool over, .int .i64 limit, .slice at' tests.length ct]] w (Wd b g w l (testT (n + 1) ⟨4, mat, part, names, keys, over, limit, tests⟩)) := by
  obtain ⟨_, hd6, hfit, hF2⟩ := fault_tst hF
  have HF2 := hid hF2
  have HIH := hid ih
  have HR := hid hR
  have HN := hid hn
  have HK := hid hk
  have HT := hid ht
  have hbl := hR.lt
  have hgf := hR.fresh
  have hbne : w.heap.size ≠ b := by omega
  clear hF hF2 ih hn hk ht
  obtain ⟨W0, hW0⟩ : ∃ W0, W0 = w.alloc (.cells #[.int .i64 4, .int .i64 mat, .int .i64 part, .slice an names.length cn, .slice ak keys.length ck, .bool over, .int .i64 limit, .slice at' tests.length ct] 26) := ⟨_, rfl⟩
  have hal : Below w.heap.size w W0 := by rw [hW0]; exact (Below.refl _ _).alloc (Nat.le_refl _) _
  have hH : W0.heap[w.heap.size]? = some (.cells #[.int .i64 4, .int .i64 mat, .int .i64 part, .slice an names.length cn, .slice ak keys.length ck, .bool over, .int .i64 limit, .slice at' tests.length ct] 26) := by rw [hW0]; exact heap_alloc_new w _
  have f0 : W0.cell? ⟨w.heap.size, 0, none⟩ = some (.int .i64 4) := by simp [World.cell?, hH]
  have f1 : W0.cell? ⟨w.heap.size, 1, none⟩ = some (.int .i64 mat) := by simp [World.cell?, hH]
  have f2 : W0.cell? ⟨w.heap.size, 2, none⟩ = some (.int .i64 part) := by simp [World.cell?, hH]
  have f3 : W0.cell? ⟨w.heap.size, 3, none⟩ = some (.slice an names.length cn) := by simp [World.cell?, hH]
  have f4 : W0.cell? ⟨w.heap.size, 4, none⟩ = some (.slice ak keys.length ck) := by simp [World.cell?, hH]
  have f5 : W0.cell? ⟨w.heap.size, 5, none⟩ = some (.bool over) := by simp [World.cell?, hH]
  have f6 : W0.cell? ⟨w.heap.size, 6, none⟩ = some (.int .i64 limit) := by simp [World.cell?, hH]
  have f7 : W0.cell? ⟨w.heap.size, 7, none⟩ = some (.slice at' tests.length ct) := by simp [World.cell?, hH]
  have HWE := hid hW0
  have HAL := hid hal
  have hc := hw 1 4 (by omega) (by omega)
  simp at hc
  have hGn : (0 : Nat) ≠ w.heap.size := by omega
  have hG0 : 0 < w.heap.size := by omega
  have HWW := hid (hw.next hal)
  clear hW0 hal hH hw hR
  go_enter Tryd.func68, Tryd.ntmps68
  go_wp2_with fail
  rw [← HWE.out]
  refine (put_any b g l 1 (wordOf 1 4) W0 (HR.out.next HAL.out) hl).mono ?_
  rintro e w1 ⟨rfl, g1, hU1, hW1⟩
  have k0 := hW1.cellAt f0 hbne hgf
  have k1 := hW1.cellAt f1 hbne hgf
  have k2 := hW1.cellAt f2 hbne hgf
  have k3 := hW1.cellAt f3 hbne hgf
  have k4 := hW1.cellAt f4 hbne hgf
  have k5 := hW1.cellAt f5 hbne hgf
  have k6 := hW1.cellAt f6 hbne hgf
  have k7 := hW1.cellAt f7 hbne hgf
  have hs1 := hW1.stay (k := w.heap.size) (World.block_lt_of_cell? W0 _ f0) hgf
  have HL1 := hid ((HR.out.next HAL.out).below hW1)
  have HU1 := hid hU1
  have HW1 := hid ((Wrote.of HAL.out).trans hW1)
  clear hU1 hW1 f0 f1 f2 f3 f4 f5 f6 f7 hc
  have HB1 := hid ((HAL.out.mono (Nat.le_of_lt hbl)).trans HL1.out)
  go_wp2_with fail
  refine (wtests_of n HIH.out tests (d + 1) b g1 _ w1 _ _ HU1.out (take_len _) hG (HWW.out.low HL1.out hG) HF2.out (HT.out.wrote HB1.out)).mono ?_
  rintro e w2 ⟨rfl, g2, hU2, hW2⟩
  rw [take_join] at hU2
  have HE := hid (show Wd b g w l (testT (n + 1) ⟨4, mat, part, names, keys, over, limit, tests⟩) (.returned (.tuple #[])) w2 from ⟨rfl, g2, hU2, HW1.out.trans hW2⟩)
  clear hU2 hW2
  go_wp2
  go_end0
  exact HE.out

set_option maxHeartbeats 8000000 in
set_option maxRecDepth 100000 in
theorem wtest_k5 (n : Nat) (ih : WrT n) (mat part limit : Int) (names keys : List (List UInt8)) (over : Bool) (tests : List Tst) (d b : Nat) (g : Option Nat) (l : List Tok) (w : World) (an ak at' : Option Addr) (cn ck ct : Nat) (hR : WrB w b g l) (hl : l.length ≤ 401) (hG : 0 < b) (hw : WordsAt w)
    (hF : faultTst (n + 1) d ⟨5, mat, part, names, keys, over, limit, tests⟩ = 0) (hn : TxtsM (und b) w (.slice an names.length cn) names) (hk : TxtsM (und b) w (.slice ak keys.length ck) keys) (ht : TstsM (und b) n w (.slice at' tests.length ct) tests) :
    Calls Tryd.prog 68 #[.pointer (some ⟨b, 0, none⟩), .agg #[.int .i64 5, .int .i64 mat, .int .i64 part, .slice an names.length cn, .slice ak keys.length ck, .bool over, .int .i64 limit, .slice at' tests.length ct]] w (Wd b g w l (testT (n + 1) ⟨5, mat, part, names, keys, over, limit, tests⟩)) := by
  obtain ⟨_, hd6, hfit, hF2⟩ := fault_tst hF
  have HF2 := hid hF2
  have HIH := hid ih
  have HR := hid hR
  have HN := hid hn
  have HK := hid hk
  have HT := hid ht
  have hbl := hR.lt
  have hgf := hR.fresh
  have hbne : w.heap.size ≠ b := by omega
  clear hF hF2 ih hn hk ht
  obtain ⟨W0, hW0⟩ : ∃ W0, W0 = w.alloc (.cells #[.int .i64 5, .int .i64 mat, .int .i64 part, .slice an names.length cn, .slice ak keys.length ck, .bool over, .int .i64 limit, .slice at' tests.length ct] 26) := ⟨_, rfl⟩
  have hal : Below w.heap.size w W0 := by rw [hW0]; exact (Below.refl _ _).alloc (Nat.le_refl _) _
  have hH : W0.heap[w.heap.size]? = some (.cells #[.int .i64 5, .int .i64 mat, .int .i64 part, .slice an names.length cn, .slice ak keys.length ck, .bool over, .int .i64 limit, .slice at' tests.length ct] 26) := by rw [hW0]; exact heap_alloc_new w _
  have f0 : W0.cell? ⟨w.heap.size, 0, none⟩ = some (.int .i64 5) := by simp [World.cell?, hH]
  have f1 : W0.cell? ⟨w.heap.size, 1, none⟩ = some (.int .i64 mat) := by simp [World.cell?, hH]
  have f2 : W0.cell? ⟨w.heap.size, 2, none⟩ = some (.int .i64 part) := by simp [World.cell?, hH]
  have f3 : W0.cell? ⟨w.heap.size, 3, none⟩ = some (.slice an names.length cn) := by simp [World.cell?, hH]
  have f4 : W0.cell? ⟨w.heap.size, 4, none⟩ = some (.slice ak keys.length ck) := by simp [World.cell?, hH]
  have f5 : W0.cell? ⟨w.heap.size, 5, none⟩ = some (.bool over) := by simp [World.cell?, hH]
  have f6 : W0.cell? ⟨w.heap.size, 6, none⟩ = some (.int .i64 limit) := by simp [World.cell?, hH]
  have f7 : W0.cell? ⟨w.heap.size, 7, none⟩ = some (.slice at' tests.length ct) := by simp [World.cell?, hH]
  have HWE := hid hW0
  have HAL := hid hal
  have hc := hw 1 5 (by omega) (by omega)
  simp at hc
  have hGn : (0 : Nat) ≠ w.heap.size := by omega
  have hG0 : 0 < w.heap.size := by omega
  have HWW := hid (hw.next hal)
  clear hW0 hal hH hw hR
  go_enter Tryd.func68, Tryd.ntmps68
  go_wp2_with fail
  rw [← HWE.out]
  refine (put_any b g l 1 (wordOf 1 5) W0 (HR.out.next HAL.out) hl).mono ?_
  rintro e w1 ⟨rfl, g1, hU1, hW1⟩
  have k0 := hW1.cellAt f0 hbne hgf
  have k1 := hW1.cellAt f1 hbne hgf
  have k2 := hW1.cellAt f2 hbne hgf
  have k3 := hW1.cellAt f3 hbne hgf
  have k4 := hW1.cellAt f4 hbne hgf
  have k5 := hW1.cellAt f5 hbne hgf
  have k6 := hW1.cellAt f6 hbne hgf
  have k7 := hW1.cellAt f7 hbne hgf
  have hs1 := hW1.stay (k := w.heap.size) (World.block_lt_of_cell? W0 _ f0) hgf
  have HL1 := hid ((HR.out.next HAL.out).below hW1)
  have HU1 := hid hU1
  have HW1 := hid ((Wrote.of HAL.out).trans hW1)
  clear hU1 hW1 f0 f1 f2 f3 f4 f5 f6 f7 hc
  have HB1 := hid ((HAL.out.mono (Nat.le_of_lt hbl)).trans HL1.out)
  go_wp2_with fail
  refine (wtests_of n HIH.out tests (d + 1) b g1 _ w1 _ _ HU1.out (take_len _) hG (HWW.out.low HL1.out hG) HF2.out (HT.out.wrote HB1.out)).mono ?_
  rintro e w2 ⟨rfl, g2, hU2, hW2⟩
  rw [take_join] at hU2
  have HE := hid (show Wd b g w l (testT (n + 1) ⟨5, mat, part, names, keys, over, limit, tests⟩) (.returned (.tuple #[])) w2 from ⟨rfl, g2, hU2, HW1.out.trans hW2⟩)
  clear hU2 hW2
  go_wp2
  go_end0
  exact HE.out

set_option maxHeartbeats 8000000 in
set_option maxRecDepth 100000 in
theorem wtest_k6 (n : Nat) (ih : WrT n) (mat part limit : Int) (names keys : List (List UInt8)) (over : Bool) (tests : List Tst) (d b : Nat) (g : Option Nat) (l : List Tok) (w : World) (an ak at' : Option Addr) (cn ck ct : Nat) (hR : WrB w b g l) (hl : l.length ≤ 401) (hG : 0 < b) (hw : WordsAt w)
    (hF : faultTst (n + 1) d ⟨6, mat, part, names, keys, over, limit, tests⟩ = 0) (hn : TxtsM (und b) w (.slice an names.length cn) names) (hk : TxtsM (und b) w (.slice ak keys.length ck) keys) (ht : TstsM (und b) n w (.slice at' tests.length ct) tests) :
    Calls Tryd.prog 68 #[.pointer (some ⟨b, 0, none⟩), .agg #[.int .i64 6, .int .i64 mat, .int .i64 part, .slice an names.length cn, .slice ak keys.length ck, .bool over, .int .i64 limit, .slice at' tests.length ct]] w (Wd b g w l (testT (n + 1) ⟨6, mat, part, names, keys, over, limit, tests⟩)) := by
  obtain ⟨_, hd6, hfit, hF2⟩ := fault_tst hF
  have HF2 := hid hF2
  have HIH := hid ih
  have HR := hid hR
  have HN := hid hn
  have HK := hid hk
  have HT := hid ht
  have hbl := hR.lt
  have hgf := hR.fresh
  have hbne : w.heap.size ≠ b := by omega
  clear hF hF2 ih hn hk ht
  obtain ⟨W0, hW0⟩ : ∃ W0, W0 = w.alloc (.cells #[.int .i64 6, .int .i64 mat, .int .i64 part, .slice an names.length cn, .slice ak keys.length ck, .bool over, .int .i64 limit, .slice at' tests.length ct] 26) := ⟨_, rfl⟩
  have hal : Below w.heap.size w W0 := by rw [hW0]; exact (Below.refl _ _).alloc (Nat.le_refl _) _
  have hH : W0.heap[w.heap.size]? = some (.cells #[.int .i64 6, .int .i64 mat, .int .i64 part, .slice an names.length cn, .slice ak keys.length ck, .bool over, .int .i64 limit, .slice at' tests.length ct] 26) := by rw [hW0]; exact heap_alloc_new w _
  have f0 : W0.cell? ⟨w.heap.size, 0, none⟩ = some (.int .i64 6) := by simp [World.cell?, hH]
  have f1 : W0.cell? ⟨w.heap.size, 1, none⟩ = some (.int .i64 mat) := by simp [World.cell?, hH]
  have f2 : W0.cell? ⟨w.heap.size, 2, none⟩ = some (.int .i64 part) := by simp [World.cell?, hH]
  have f3 : W0.cell? ⟨w.heap.size, 3, none⟩ = some (.slice an names.length cn) := by simp [World.cell?, hH]
  have f4 : W0.cell? ⟨w.heap.size, 4, none⟩ = some (.slice ak keys.length ck) := by simp [World.cell?, hH]
  have f5 : W0.cell? ⟨w.heap.size, 5, none⟩ = some (.bool over) := by simp [World.cell?, hH]
  have f6 : W0.cell? ⟨w.heap.size, 6, none⟩ = some (.int .i64 limit) := by simp [World.cell?, hH]
  have f7 : W0.cell? ⟨w.heap.size, 7, none⟩ = some (.slice at' tests.length ct) := by simp [World.cell?, hH]
  have HWE := hid hW0
  have HAL := hid hal
  have hc := hw 1 6 (by omega) (by omega)
  simp at hc
  have hGn : (0 : Nat) ≠ w.heap.size := by omega
  have hG0 : 0 < w.heap.size := by omega
  have HWW := hid (hw.next hal)
  clear hW0 hal hH hw hR
  go_enter Tryd.func68, Tryd.ntmps68
  go_wp2_with fail
  rw [← HWE.out]
  refine (put_any b g l 1 (wordOf 1 6) W0 (HR.out.next HAL.out) hl).mono ?_
  rintro e w1 ⟨rfl, g1, hU1, hW1⟩
  have k0 := hW1.cellAt f0 hbne hgf
  have k1 := hW1.cellAt f1 hbne hgf
  have k2 := hW1.cellAt f2 hbne hgf
  have k3 := hW1.cellAt f3 hbne hgf
  have k4 := hW1.cellAt f4 hbne hgf
  have k5 := hW1.cellAt f5 hbne hgf
  have k6 := hW1.cellAt f6 hbne hgf
  have k7 := hW1.cellAt f7 hbne hgf
  have hs1 := hW1.stay (k := w.heap.size) (World.block_lt_of_cell? W0 _ f0) hgf
  have HL1 := hid ((HR.out.next HAL.out).below hW1)
  have HU1 := hid hU1
  have HW1 := hid ((Wrote.of HAL.out).trans hW1)
  clear hU1 hW1 f0 f1 f2 f3 f4 f5 f6 f7 hc
  have HB1 := hid ((HAL.out.mono (Nat.le_of_lt hbl)).trans HL1.out)
  have hmat : 1 ≤ mat ∧ mat ≤ 3 := by
    have := hfit
    unfold fitsT cmpB at this
    simp [isNum_mat] at this
    omega
  obtain ⟨m, rfl⟩ := Int.eq_ofNat_of_zero_le (show 0 ≤ mat by omega)
  have hm11 : m < 11 := by omega
  have hmi : (m : Int) < 11 := by omega
  have hm0 : (0 : Int) ≤ (m : Int) := by omega
  have hcm := (HWW.out.low HL1.out hG) 2 m (by omega) hm11
  simp at hcm
  go_wp2_with fail
  refine (put_any b g1 _ 2 (wordOf 2 m) w1 HU1.out (take_len _)).mono ?_
  rintro e w3 ⟨rfl, g3, hU3, hW3⟩
  rw [take_join] at hU3
  have p0 := hW3.cellAt k0 hbne hs1
  have p1 := hW3.cellAt k1 hbne hs1
  have p2 := hW3.cellAt k2 hbne hs1
  have p3 := hW3.cellAt k3 hbne hs1
  have p4 := hW3.cellAt k4 hbne hs1
  have p5 := hW3.cellAt k5 hbne hs1
  have p6 := hW3.cellAt k6 hbne hs1
  have p7 := hW3.cellAt k7 hbne hs1
  have hs3 := hW3.stay (k := w.heap.size) (World.block_lt_of_cell? w1 _ k0) hs1
  have HB3 := hid (HB1.out.trans (HU1.out.below hW3))
  have HU3 := hid hU3
  have HW3 := hid (HW1.out.trans hW3)
  clear hU3 hW3 hcm
  clear k0 k1 k2 k3 k4 k5 k6 k7
  go_wp2_with fail
  refine (wlist_any b g3 _ names _ _ w3 HU3.out (take_len _) (HN.out.wrote HB3.out)).mono ?_
  rintro e w4 ⟨rfl, g4, hU4, hW4⟩
  rw [take_join] at hU4
  have q0 := hW4.cellAt p0 hbne hs3
  have q1 := hW4.cellAt p1 hbne hs3
  have q2 := hW4.cellAt p2 hbne hs3
  have q3 := hW4.cellAt p3 hbne hs3
  have q4 := hW4.cellAt p4 hbne hs3
  have q5 := hW4.cellAt p5 hbne hs3
  have q6 := hW4.cellAt p6 hbne hs3
  have q7 := hW4.cellAt p7 hbne hs3
  have HB4 := hid (HB3.out.trans (HU3.out.below hW4))
  have HU4 := hid hU4
  have HW4 := hid (HW3.out.trans hW4)
  clear hU4 hW4 p0 p1 p2 p3 p4 p5 p6 p7
  go_wp2_with fail
  refine (wlist_any b g4 _ keys _ _ w4 HU4.out (take_len _) (HK.out.wrote HB4.out)).mono ?_
  rintro e w5 ⟨rfl, g5, hU5, hW5⟩
  rw [take_join] at hU5
  have HE := hid (show Wd b g w l (testT (n + 1) ⟨6, (m : Int), part, names, keys, over, limit, tests⟩) (.returned (.tuple #[])) w5 from ⟨rfl, g5, by simpa [testT, wordT, tagT, List.append_assoc] using hU5, HW4.out.trans hW5⟩)
  clear hU5 hW5
  go_wp2
  go_end0
  exact HE.out

set_option maxHeartbeats 8000000 in
set_option maxRecDepth 100000 in
theorem wtest_k7 (n : Nat) (ih : WrT n) (mat part limit : Int) (names keys : List (List UInt8)) (over : Bool) (tests : List Tst) (d b : Nat) (g : Option Nat) (l : List Tok) (w : World) (an ak at' : Option Addr) (cn ck ct : Nat) (hR : WrB w b g l) (hl : l.length ≤ 401) (hG : 0 < b) (hw : WordsAt w)
    (hF : faultTst (n + 1) d ⟨7, mat, part, names, keys, over, limit, tests⟩ = 0) (hn : TxtsM (und b) w (.slice an names.length cn) names) (hk : TxtsM (und b) w (.slice ak keys.length ck) keys) (ht : TstsM (und b) n w (.slice at' tests.length ct) tests) :
    Calls Tryd.prog 68 #[.pointer (some ⟨b, 0, none⟩), .agg #[.int .i64 7, .int .i64 mat, .int .i64 part, .slice an names.length cn, .slice ak keys.length ck, .bool over, .int .i64 limit, .slice at' tests.length ct]] w (Wd b g w l (testT (n + 1) ⟨7, mat, part, names, keys, over, limit, tests⟩)) := by
  obtain ⟨_, hd6, hfit, hF2⟩ := fault_tst hF
  have HF2 := hid hF2
  have HIH := hid ih
  have HR := hid hR
  have HN := hid hn
  have HK := hid hk
  have HT := hid ht
  have hbl := hR.lt
  have hgf := hR.fresh
  have hbne : w.heap.size ≠ b := by omega
  clear hF hF2 ih hn hk ht
  obtain ⟨W0, hW0⟩ : ∃ W0, W0 = w.alloc (.cells #[.int .i64 7, .int .i64 mat, .int .i64 part, .slice an names.length cn, .slice ak keys.length ck, .bool over, .int .i64 limit, .slice at' tests.length ct] 26) := ⟨_, rfl⟩
  have hal : Below w.heap.size w W0 := by rw [hW0]; exact (Below.refl _ _).alloc (Nat.le_refl _) _
  have hH : W0.heap[w.heap.size]? = some (.cells #[.int .i64 7, .int .i64 mat, .int .i64 part, .slice an names.length cn, .slice ak keys.length ck, .bool over, .int .i64 limit, .slice at' tests.length ct] 26) := by rw [hW0]; exact heap_alloc_new w _
  have f0 : W0.cell? ⟨w.heap.size, 0, none⟩ = some (.int .i64 7) := by simp [World.cell?, hH]
  have f1 : W0.cell? ⟨w.heap.size, 1, none⟩ = some (.int .i64 mat) := by simp [World.cell?, hH]
  have f2 : W0.cell? ⟨w.heap.size, 2, none⟩ = some (.int .i64 part) := by simp [World.cell?, hH]
  have f3 : W0.cell? ⟨w.heap.size, 3, none⟩ = some (.slice an names.length cn) := by simp [World.cell?, hH]
  have f4 : W0.cell? ⟨w.heap.size, 4, none⟩ = some (.slice ak keys.length ck) := by simp [World.cell?, hH]
  have f5 : W0.cell? ⟨w.heap.size, 5, none⟩ = some (.bool over) := by simp [World.cell?, hH]
  have f6 : W0.cell? ⟨w.heap.size, 6, none⟩ = some (.int .i64 limit) := by simp [World.cell?, hH]
  have f7 : W0.cell? ⟨w.heap.size, 7, none⟩ = some (.slice at' tests.length ct) := by simp [World.cell?, hH]
  have HWE := hid hW0
  have HAL := hid hal
  have hc := hw 1 7 (by omega) (by omega)
  simp at hc
  have hGn : (0 : Nat) ≠ w.heap.size := by omega
  have hG0 : 0 < w.heap.size := by omega
  have HWW := hid (hw.next hal)
  clear hW0 hal hH hw hR
  go_enter Tryd.func68, Tryd.ntmps68
  go_wp2_with fail
  rw [← HWE.out]
  refine (put_any b g l 1 (wordOf 1 7) W0 (HR.out.next HAL.out) hl).mono ?_
  rintro e w1 ⟨rfl, g1, hU1, hW1⟩
  have k0 := hW1.cellAt f0 hbne hgf
  have k1 := hW1.cellAt f1 hbne hgf
  have k2 := hW1.cellAt f2 hbne hgf
  have k3 := hW1.cellAt f3 hbne hgf
  have k4 := hW1.cellAt f4 hbne hgf
  have k5 := hW1.cellAt f5 hbne hgf
  have k6 := hW1.cellAt f6 hbne hgf
  have k7 := hW1.cellAt f7 hbne hgf
  have hs1 := hW1.stay (k := w.heap.size) (World.block_lt_of_cell? W0 _ f0) hgf
  have HL1 := hid ((HR.out.next HAL.out).below hW1)
  have HU1 := hid hU1
  have HW1 := hid ((Wrote.of HAL.out).trans hW1)
  clear hU1 hW1 f0 f1 f2 f3 f4 f5 f6 f7 hc
  have HB1 := hid ((HAL.out.mono (Nat.le_of_lt hbl)).trans HL1.out)
  have hmat : 1 ≤ mat ∧ mat ≤ 3 ∧ 1 ≤ part ∧ part ≤ 3 := by
    have := hfit
    unfold fitsT cmpB at this
    simp [isNum_mat, isNum_part] at this
    omega
  obtain ⟨m, rfl⟩ := Int.eq_ofNat_of_zero_le (show 0 ≤ mat by omega)
  have hm11 : m < 11 := by omega
  have hmi : (m : Int) < 11 := by omega
  have hm0 : (0 : Int) ≤ (m : Int) := by omega
  obtain ⟨p, rfl⟩ := Int.eq_ofNat_of_zero_le (show 0 ≤ part by omega)
  have hp11 : p < 11 := by omega
  have hpi : (p : Int) < 11 := by omega
  have hp0 : (0 : Int) ≤ (p : Int) := by omega
  have hcp := (HWW.out.low HL1.out hG) 3 p (by omega) hp11
  simp at hcp
  go_wp2_with fail
  refine (put_any b g1 _ 2 (wordOf 3 p) w1 HU1.out (take_len _)).mono ?_
  rintro e w2 ⟨rfl, g2, hU2, hW2⟩
  rw [take_join] at hU2
  have m0 := hW2.cellAt k0 hbne hs1
  have m1 := hW2.cellAt k1 hbne hs1
  have m2 := hW2.cellAt k2 hbne hs1
  have m3 := hW2.cellAt k3 hbne hs1
  have m4 := hW2.cellAt k4 hbne hs1
  have m5 := hW2.cellAt k5 hbne hs1
  have m6 := hW2.cellAt k6 hbne hs1
  have m7 := hW2.cellAt k7 hbne hs1
  have hs2 := hW2.stay (k := w.heap.size) (World.block_lt_of_cell? w1 _ k0) hs1
  have HL2 := hid (HL1.out.trans (HU1.out.below hW2))
  have HB2 := hid (HB1.out.trans (HU1.out.below hW2))
  have HU2 := hid hU2
  have HW2 := hid (HW1.out.trans hW2)
  clear hU2 hW2 k0 k1 k2 k3 k4 k5 k6 k7 hcp
  have hcm := (HWW.out.low HL2.out hG) 2 m (by omega) hm11
  simp at hcm
  go_wp2_with fail
  refine (put_any b g2 _ 2 (wordOf 2 m) w2 HU2.out (take_len _)).mono ?_
  rintro e w3 ⟨rfl, g3, hU3, hW3⟩
  rw [take_join] at hU3
  have p0 := hW3.cellAt m0 hbne hs2
  have p1 := hW3.cellAt m1 hbne hs2
  have p2 := hW3.cellAt m2 hbne hs2
  have p3 := hW3.cellAt m3 hbne hs2
  have p4 := hW3.cellAt m4 hbne hs2
  have p5 := hW3.cellAt m5 hbne hs2
  have p6 := hW3.cellAt m6 hbne hs2
  have p7 := hW3.cellAt m7 hbne hs2
  have hs3 := hW3.stay (k := w.heap.size) (World.block_lt_of_cell? w2 _ m0) hs2
  have HB3 := hid (HB2.out.trans (HU2.out.below hW3))
  have HU3 := hid hU3
  have HW3 := hid (HW2.out.trans hW3)
  clear hU3 hW3 hcm
  clear m0 m1 m2 m3 m4 m5 m6 m7
  go_wp2_with fail
  refine (wlist_any b g3 _ names _ _ w3 HU3.out (take_len _) (HN.out.wrote HB3.out)).mono ?_
  rintro e w4 ⟨rfl, g4, hU4, hW4⟩
  rw [take_join] at hU4
  have q0 := hW4.cellAt p0 hbne hs3
  have q1 := hW4.cellAt p1 hbne hs3
  have q2 := hW4.cellAt p2 hbne hs3
  have q3 := hW4.cellAt p3 hbne hs3
  have q4 := hW4.cellAt p4 hbne hs3
  have q5 := hW4.cellAt p5 hbne hs3
  have q6 := hW4.cellAt p6 hbne hs3
  have q7 := hW4.cellAt p7 hbne hs3
  have HB4 := hid (HB3.out.trans (HU3.out.below hW4))
  have HU4 := hid hU4
  have HW4 := hid (HW3.out.trans hW4)
  clear hU4 hW4 p0 p1 p2 p3 p4 p5 p6 p7
  go_wp2_with fail
  refine (wlist_any b g4 _ keys _ _ w4 HU4.out (take_len _) (HK.out.wrote HB4.out)).mono ?_
  rintro e w5 ⟨rfl, g5, hU5, hW5⟩
  rw [take_join] at hU5
  have HE := hid (show Wd b g w l (testT (n + 1) ⟨7, (m : Int), (p : Int), names, keys, over, limit, tests⟩) (.returned (.tuple #[])) w5 from ⟨rfl, g5, by simpa [testT, wordT, tagT, List.append_assoc] using hU5, HW4.out.trans hW5⟩)
  clear hU5 hW5
  go_wp2
  go_end0
  exact HE.out

set_option maxHeartbeats 8000000 in
set_option maxRecDepth 100000 in
theorem wtest_k8 (n : Nat) (ih : WrT n) (mat part limit : Int) (names keys : List (List UInt8)) (over : Bool) (tests : List Tst) (d b : Nat) (g : Option Nat) (l : List Tok) (w : World) (an ak at' : Option Addr) (cn ck ct : Nat) (hR : WrB w b g l) (hl : l.length ≤ 401) (hG : 0 < b) (hw : WordsAt w)
    (hF : faultTst (n + 1) d ⟨8, mat, part, names, keys, over, limit, tests⟩ = 0) (hn : TxtsM (und b) w (.slice an names.length cn) names) (hk : TxtsM (und b) w (.slice ak keys.length ck) keys) (ht : TstsM (und b) n w (.slice at' tests.length ct) tests) :
    Calls Tryd.prog 68 #[.pointer (some ⟨b, 0, none⟩), .agg #[.int .i64 8, .int .i64 mat, .int .i64 part, .slice an names.length cn, .slice ak keys.length ck, .bool over, .int .i64 limit, .slice at' tests.length ct]] w (Wd b g w l (testT (n + 1) ⟨8, mat, part, names, keys, over, limit, tests⟩)) := by
  obtain ⟨_, hd6, hfit, hF2⟩ := fault_tst hF
  have HF2 := hid hF2
  have HIH := hid ih
  have HR := hid hR
  have HN := hid hn
  have HK := hid hk
  have HT := hid ht
  have hbl := hR.lt
  have hgf := hR.fresh
  have hbne : w.heap.size ≠ b := by omega
  clear hF hF2 ih hn hk ht
  obtain ⟨W0, hW0⟩ : ∃ W0, W0 = w.alloc (.cells #[.int .i64 8, .int .i64 mat, .int .i64 part, .slice an names.length cn, .slice ak keys.length ck, .bool over, .int .i64 limit, .slice at' tests.length ct] 26) := ⟨_, rfl⟩
  have hal : Below w.heap.size w W0 := by rw [hW0]; exact (Below.refl _ _).alloc (Nat.le_refl _) _
  have hH : W0.heap[w.heap.size]? = some (.cells #[.int .i64 8, .int .i64 mat, .int .i64 part, .slice an names.length cn, .slice ak keys.length ck, .bool over, .int .i64 limit, .slice at' tests.length ct] 26) := by rw [hW0]; exact heap_alloc_new w _
  have f0 : W0.cell? ⟨w.heap.size, 0, none⟩ = some (.int .i64 8) := by simp [World.cell?, hH]
  have f1 : W0.cell? ⟨w.heap.size, 1, none⟩ = some (.int .i64 mat) := by simp [World.cell?, hH]
  have f2 : W0.cell? ⟨w.heap.size, 2, none⟩ = some (.int .i64 part) := by simp [World.cell?, hH]
  have f3 : W0.cell? ⟨w.heap.size, 3, none⟩ = some (.slice an names.length cn) := by simp [World.cell?, hH]
  have f4 : W0.cell? ⟨w.heap.size, 4, none⟩ = some (.slice ak keys.length ck) := by simp [World.cell?, hH]
  have f5 : W0.cell? ⟨w.heap.size, 5, none⟩ = some (.bool over) := by simp [World.cell?, hH]
  have f6 : W0.cell? ⟨w.heap.size, 6, none⟩ = some (.int .i64 limit) := by simp [World.cell?, hH]
  have f7 : W0.cell? ⟨w.heap.size, 7, none⟩ = some (.slice at' tests.length ct) := by simp [World.cell?, hH]
  have HWE := hid hW0
  have HAL := hid hal
  have hc := hw 1 8 (by omega) (by omega)
  simp at hc
  have hGn : (0 : Nat) ≠ w.heap.size := by omega
  have hG0 : 0 < w.heap.size := by omega
  have HWW := hid (hw.next hal)
  clear hW0 hal hH hw hR
  go_enter Tryd.func68, Tryd.ntmps68
  go_wp2_with fail
  rw [← HWE.out]
  refine (put_any b g l 1 (wordOf 1 8) W0 (HR.out.next HAL.out) hl).mono ?_
  rintro e w1 ⟨rfl, g1, hU1, hW1⟩
  have k0 := hW1.cellAt f0 hbne hgf
  have k1 := hW1.cellAt f1 hbne hgf
  have k2 := hW1.cellAt f2 hbne hgf
  have k3 := hW1.cellAt f3 hbne hgf
  have k4 := hW1.cellAt f4 hbne hgf
  have k5 := hW1.cellAt f5 hbne hgf
  have k6 := hW1.cellAt f6 hbne hgf
  have k7 := hW1.cellAt f7 hbne hgf
  have hs1 := hW1.stay (k := w.heap.size) (World.block_lt_of_cell? W0 _ f0) hgf
  have HL1 := hid ((HR.out.next HAL.out).below hW1)
  have HU1 := hid hU1
  have HW1 := hid ((Wrote.of HAL.out).trans hW1)
  clear hU1 hW1 f0 f1 f2 f3 f4 f5 f6 f7 hc
  have HB1 := hid ((HAL.out.mono (Nat.le_of_lt hbl)).trans HL1.out)
  have hmat : 1 ≤ mat ∧ mat ≤ 3 ∧ 1 ≤ part ∧ part ≤ 3 := by
    have := hfit
    unfold fitsT cmpB at this
    simp [isNum_mat, isNum_part] at this
    omega
  obtain ⟨m, rfl⟩ := Int.eq_ofNat_of_zero_le (show 0 ≤ mat by omega)
  have hm11 : m < 11 := by omega
  have hmi : (m : Int) < 11 := by omega
  have hm0 : (0 : Int) ≤ (m : Int) := by omega
  obtain ⟨p, rfl⟩ := Int.eq_ofNat_of_zero_le (show 0 ≤ part by omega)
  have hp11 : p < 11 := by omega
  have hpi : (p : Int) < 11 := by omega
  have hp0 : (0 : Int) ≤ (p : Int) := by omega
  have hcp := (HWW.out.low HL1.out hG) 3 p (by omega) hp11
  simp at hcp
  go_wp2_with fail
  refine (put_any b g1 _ 2 (wordOf 3 p) w1 HU1.out (take_len _)).mono ?_
  rintro e w2 ⟨rfl, g2, hU2, hW2⟩
  rw [take_join] at hU2
  have m0 := hW2.cellAt k0 hbne hs1
  have m1 := hW2.cellAt k1 hbne hs1
  have m2 := hW2.cellAt k2 hbne hs1
  have m3 := hW2.cellAt k3 hbne hs1
  have m4 := hW2.cellAt k4 hbne hs1
  have m5 := hW2.cellAt k5 hbne hs1
  have m6 := hW2.cellAt k6 hbne hs1
  have m7 := hW2.cellAt k7 hbne hs1
  have hs2 := hW2.stay (k := w.heap.size) (World.block_lt_of_cell? w1 _ k0) hs1
  have HL2 := hid (HL1.out.trans (HU1.out.below hW2))
  have HB2 := hid (HB1.out.trans (HU1.out.below hW2))
  have HU2 := hid hU2
  have HW2 := hid (HW1.out.trans hW2)
  clear hU2 hW2 k0 k1 k2 k3 k4 k5 k6 k7 hcp
  have hcm := (HWW.out.low HL2.out hG) 2 m (by omega) hm11
  simp at hcm
  go_wp2_with fail
  refine (put_any b g2 _ 2 (wordOf 2 m) w2 HU2.out (take_len _)).mono ?_
  rintro e w3 ⟨rfl, g3, hU3, hW3⟩
  rw [take_join] at hU3
  have p0 := hW3.cellAt m0 hbne hs2
  have p1 := hW3.cellAt m1 hbne hs2
  have p2 := hW3.cellAt m2 hbne hs2
  have p3 := hW3.cellAt m3 hbne hs2
  have p4 := hW3.cellAt m4 hbne hs2
  have p5 := hW3.cellAt m5 hbne hs2
  have p6 := hW3.cellAt m6 hbne hs2
  have p7 := hW3.cellAt m7 hbne hs2
  have hs3 := hW3.stay (k := w.heap.size) (World.block_lt_of_cell? w2 _ m0) hs2
  have HB3 := hid (HB2.out.trans (HU2.out.below hW3))
  have HU3 := hid hU3
  have HW3 := hid (HW2.out.trans hW3)
  clear hU3 hW3 hcm
  clear m0 m1 m2 m3 m4 m5 m6 m7
  go_wp2_with fail
  refine (wlist_any b g3 _ names _ _ w3 HU3.out (take_len _) (HN.out.wrote HB3.out)).mono ?_
  rintro e w4 ⟨rfl, g4, hU4, hW4⟩
  rw [take_join] at hU4
  have q0 := hW4.cellAt p0 hbne hs3
  have q1 := hW4.cellAt p1 hbne hs3
  have q2 := hW4.cellAt p2 hbne hs3
  have q3 := hW4.cellAt p3 hbne hs3
  have q4 := hW4.cellAt p4 hbne hs3
  have q5 := hW4.cellAt p5 hbne hs3
  have q6 := hW4.cellAt p6 hbne hs3
  have q7 := hW4.cellAt p7 hbne hs3
  have HB4 := hid (HB3.out.trans (HU3.out.below hW4))
  have HU4 := hid hU4
  have HW4 := hid (HW3.out.trans hW4)
  clear hU4 hW4 p0 p1 p2 p3 p4 p5 p6 p7
  go_wp2_with fail
  refine (wlist_any b g4 _ keys _ _ w4 HU4.out (take_len _) (HK.out.wrote HB4.out)).mono ?_
  rintro e w5 ⟨rfl, g5, hU5, hW5⟩
  rw [take_join] at hU5
  have HE := hid (show Wd b g w l (testT (n + 1) ⟨8, (m : Int), (p : Int), names, keys, over, limit, tests⟩) (.returned (.tuple #[])) w5 from ⟨rfl, g5, by simpa [testT, wordT, tagT, List.append_assoc] using hU5, HW4.out.trans hW5⟩)
  clear hU5 hW5
  go_wp2
  go_end0
  exact HE.out

set_option maxHeartbeats 8000000 in
set_option maxRecDepth 100000 in
theorem wtest_k9 (n : Nat) (ih : WrT n) (mat part limit : Int) (names keys : List (List UInt8)) (over : Bool) (tests : List Tst) (d b : Nat) (g : Option Nat) (l : List Tok) (w : World) (an ak at' : Option Addr) (cn ck ct : Nat) (hR : WrB w b g l) (hl : l.length ≤ 401) (hG : 0 < b) (hw : WordsAt w)
    (hF : faultTst (n + 1) d ⟨9, mat, part, names, keys, over, limit, tests⟩ = 0) (hn : TxtsM (und b) w (.slice an names.length cn) names) (hk : TxtsM (und b) w (.slice ak keys.length ck) keys) (ht : TstsM (und b) n w (.slice at' tests.length ct) tests) :
    Calls Tryd.prog 68 #[.pointer (some ⟨b, 0, none⟩), .agg #[.int .i64 9, .int .i64 mat, .int .i64 part, .slice an names.length cn, .slice ak keys.length ck, .bool over, .int .i64 limit, .slice at' tests.length ct]] w (Wd b g w l (testT (n + 1) ⟨9, mat, part, names, keys, over, limit, tests⟩)) := by
  obtain ⟨_, hd6, hfit, hF2⟩ := fault_tst hF
  have HF2 := hid hF2
  have HIH := hid ih
  have HR := hid hR
  have HN := hid hn
  have HK := hid hk
  have HT := hid ht
  have hbl := hR.lt
  have hgf := hR.fresh
  have hbne : w.heap.size ≠ b := by omega
  clear hF hF2 ih hn hk ht
  obtain ⟨W0, hW0⟩ : ∃ W0, W0 = w.alloc (.cells #[.int .i64 9, .int .i64 mat, .int .i64 part, .slice an names.length cn, .slice ak keys.length ck, .bool over, .int .i64 limit, .slice at' tests.length ct] 26) := ⟨_, rfl⟩
  have hal : Below w.heap.size w W0 := by rw [hW0]; exact (Below.refl _ _).alloc (Nat.le_refl _) _
  have hH : W0.heap[w.heap.size]? = some (.cells #[.int .i64 9, .int .i64 mat, .int .i64 part, .slice an names.length cn, .slice ak keys.length ck, .bool over, .int .i64 limit, .slice at' tests.length ct] 26) := by rw [hW0]; exact heap_alloc_new w _
  have f0 : W0.cell? ⟨w.heap.size, 0, none⟩ = some (.int .i64 9) := by simp [World.cell?, hH]
  have f1 : W0.cell? ⟨w.heap.size, 1, none⟩ = some (.int .i64 mat) := by simp [World.cell?, hH]
  have f2 : W0.cell? ⟨w.heap.size, 2, none⟩ = some (.int .i64 part) := by simp [World.cell?, hH]
  have f3 : W0.cell? ⟨w.heap.size, 3, none⟩ = some (.slice an names.length cn) := by simp [World.cell?, hH]
  have f4 : W0.cell? ⟨w.heap.size, 4, none⟩ = some (.slice ak keys.length ck) := by simp [World.cell?, hH]
  have f5 : W0.cell? ⟨w.heap.size, 5, none⟩ = some (.bool over) := by simp [World.cell?, hH]
  have f6 : W0.cell? ⟨w.heap.size, 6, none⟩ = some (.int .i64 limit) := by simp [World.cell?, hH]
  have f7 : W0.cell? ⟨w.heap.size, 7, none⟩ = some (.slice at' tests.length ct) := by simp [World.cell?, hH]
  have HWE := hid hW0
  have HAL := hid hal
  have hc := hw 1 9 (by omega) (by omega)
  simp at hc
  have hGn : (0 : Nat) ≠ w.heap.size := by omega
  have hG0 : 0 < w.heap.size := by omega
  have HWW := hid (hw.next hal)
  clear hW0 hal hH hw hR
  go_enter Tryd.func68, Tryd.ntmps68
  go_wp2_with fail
  rw [← HWE.out]
  refine (put_any b g l 1 (wordOf 1 9) W0 (HR.out.next HAL.out) hl).mono ?_
  rintro e w1 ⟨rfl, g1, hU1, hW1⟩
  have k0 := hW1.cellAt f0 hbne hgf
  have k1 := hW1.cellAt f1 hbne hgf
  have k2 := hW1.cellAt f2 hbne hgf
  have k3 := hW1.cellAt f3 hbne hgf
  have k4 := hW1.cellAt f4 hbne hgf
  have k5 := hW1.cellAt f5 hbne hgf
  have k6 := hW1.cellAt f6 hbne hgf
  have k7 := hW1.cellAt f7 hbne hgf
  have hs1 := hW1.stay (k := w.heap.size) (World.block_lt_of_cell? W0 _ f0) hgf
  have HL1 := hid ((HR.out.next HAL.out).below hW1)
  have HU1 := hid hU1
  have HW1 := hid ((Wrote.of HAL.out).trans hW1)
  clear hU1 hW1 f0 f1 f2 f3 f4 f5 f6 f7 hc
  have HB1 := hid ((HAL.out.mono (Nat.le_of_lt hbl)).trans HL1.out)
  go_wp2_with fail
  refine (wlist_any b g1 _ names _ _ w1 HU1.out (take_len _) (HN.out.wrote HB1.out)).mono ?_
  rintro e w2 ⟨rfl, g2, hU2, hW2⟩
  rw [take_join] at hU2
  have HE := hid (show Wd b g w l (testT (n + 1) ⟨9, mat, part, names, keys, over, limit, tests⟩) (.returned (.tuple #[])) w2 from ⟨rfl, g2, hU2, HW1.out.trans hW2⟩)
  clear hU2 hW2
  go_wp2
  go_end0
  exact HE.out

set_option maxHeartbeats 8000000 in
set_option maxRecDepth 100000 in
theorem wtest_k10 (n : Nat) (ih : WrT n) (mat part limit : Int) (names keys : List (List UInt8)) (over : Bool) (tests : List Tst) (d b : Nat) (g : Option Nat) (l : List Tok) (w : World) (an ak at' : Option Addr) (cn ck ct : Nat) (hR : WrB w b g l) (hl : l.length ≤ 401) (hG : 0 < b) (hw : WordsAt w)
    (hF : faultTst (n + 1) d ⟨10, mat, part, names, keys, over, limit, tests⟩ = 0) (hn : TxtsM (und b) w (.slice an names.length cn) names) (hk : TxtsM (und b) w (.slice ak keys.length ck) keys) (ht : TstsM (und b) n w (.slice at' tests.length ct) tests) :
    Calls Tryd.prog 68 #[.pointer (some ⟨b, 0, none⟩), .agg #[.int .i64 10, .int .i64 mat, .int .i64 part, .slice an names.length cn, .slice ak keys.length ck, .bool over, .int .i64 limit, .slice at' tests.length ct]] w (Wd b g w l (testT (n + 1) ⟨10, mat, part, names, keys, over, limit, tests⟩)) := by
  obtain ⟨_, hd6, hfit, hF2⟩ := fault_tst hF
  have HF2 := hid hF2
  have HIH := hid ih
  have HR := hid hR
  have HN := hid hn
  have HK := hid hk
  have HT := hid ht
  have hbl := hR.lt
  have hgf := hR.fresh
  have hbne : w.heap.size ≠ b := by omega
  clear hF hF2 ih hn hk ht
  obtain ⟨W0, hW0⟩ : ∃ W0, W0 = w.alloc (.cells #[.int .i64 10, .int .i64 mat, .int .i64 part, .slice an names.length cn, .slice ak keys.length ck, .bool over, .int .i64 limit, .slice at' tests.length ct] 26) := ⟨_, rfl⟩
  have hal : Below w.heap.size w W0 := by rw [hW0]; exact (Below.refl _ _).alloc (Nat.le_refl _) _
  have hH : W0.heap[w.heap.size]? = some (.cells #[.int .i64 10, .int .i64 mat, .int .i64 part, .slice an names.length cn, .slice ak keys.length ck, .bool over, .int .i64 limit, .slice at' tests.length ct] 26) := by rw [hW0]; exact heap_alloc_new w _
  have f0 : W0.cell? ⟨w.heap.size, 0, none⟩ = some (.int .i64 10) := by simp [World.cell?, hH]
  have f1 : W0.cell? ⟨w.heap.size, 1, none⟩ = some (.int .i64 mat) := by simp [World.cell?, hH]
  have f2 : W0.cell? ⟨w.heap.size, 2, none⟩ = some (.int .i64 part) := by simp [World.cell?, hH]
  have f3 : W0.cell? ⟨w.heap.size, 3, none⟩ = some (.slice an names.length cn) := by simp [World.cell?, hH]
  have f4 : W0.cell? ⟨w.heap.size, 4, none⟩ = some (.slice ak keys.length ck) := by simp [World.cell?, hH]
  have f5 : W0.cell? ⟨w.heap.size, 5, none⟩ = some (.bool over) := by simp [World.cell?, hH]
  have f6 : W0.cell? ⟨w.heap.size, 6, none⟩ = some (.int .i64 limit) := by simp [World.cell?, hH]
  have f7 : W0.cell? ⟨w.heap.size, 7, none⟩ = some (.slice at' tests.length ct) := by simp [World.cell?, hH]
  have HWE := hid hW0
  have HAL := hid hal
  have hc := hw 1 10 (by omega) (by omega)
  simp at hc
  have hGn : (0 : Nat) ≠ w.heap.size := by omega
  have hG0 : 0 < w.heap.size := by omega
  have HWW := hid (hw.next hal)
  clear hW0 hal hH hw hR
  go_enter Tryd.func68, Tryd.ntmps68
  go_wp2_with fail
  rw [← HWE.out]
  refine (put_any b g l 1 (wordOf 1 10) W0 (HR.out.next HAL.out) hl).mono ?_
  rintro e w1 ⟨rfl, g1, hU1, hW1⟩
  have k0 := hW1.cellAt f0 hbne hgf
  have k1 := hW1.cellAt f1 hbne hgf
  have k2 := hW1.cellAt f2 hbne hgf
  have k3 := hW1.cellAt f3 hbne hgf
  have k4 := hW1.cellAt f4 hbne hgf
  have k5 := hW1.cellAt f5 hbne hgf
  have k6 := hW1.cellAt f6 hbne hgf
  have k7 := hW1.cellAt f7 hbne hgf
  have hs1 := hW1.stay (k := w.heap.size) (World.block_lt_of_cell? W0 _ f0) hgf
  have HL1 := hid ((HR.out.next HAL.out).below hW1)
  have HU1 := hid hU1
  have HW1 := hid ((Wrote.of HAL.out).trans hW1)
  clear hU1 hW1 f0 f1 f2 f3 f4 f5 f6 f7 hc
  have HB1 := hid ((HAL.out.mono (Nat.le_of_lt hbl)).trans HL1.out)
  go_wp2_with fail
  refine (bound_any b g1 _ over limit w1 HU1.out (take_len _)).mono ?_
  rintro e w2 ⟨rfl, g2, hU2, hW2⟩
  rw [take_join] at hU2
  have HE := hid (show Wd b g w l (testT (n + 1) ⟨10, mat, part, names, keys, over, limit, tests⟩) (.returned (.tuple #[])) w2 from ⟨rfl, g2, hU2, HW1.out.trans hW2⟩)
  clear hU2 hW2
  go_wp2
  go_end0
  exact HE.out

theorem wtest_any (n : Nat) : WrT n := by
  induction n with
  | zero => intro t d b g l w an ak at' cn ck ct _ _ _ _ _ h; exact h.elim
  | succ n ih =>
    intro t d b g l w an ak at' cn ck ct hR hl hG hw hF hT
    obtain ⟨_, _, _, _, _, _, m, hm, he, h1, h2, h3⟩ := tst_form hT
    simp only [List.cons.injEq, Value.slice.injEq, true_and, and_true] at he
    obtain ⟨⟨rfl, rfl⟩, ⟨rfl, rfl⟩, rfl, rfl⟩ := he
    obtain rfl : n = m := by omega
    obtain ⟨hk, _⟩ := fault_tst hF
    obtain ⟨kind, mat, part, names, keys, over, limit, tests⟩ := t
    simp only at hk
    have h10 : kind = 1 ∨ kind = 2 ∨ kind = 3 ∨ kind = 4 ∨ kind = 5 ∨ kind = 6 ∨ kind = 7 ∨ kind = 8 ∨ kind = 9 ∨ kind = 10 := by omega
    rcases h10 with rfl | rfl | rfl | rfl | rfl | rfl | rfl | rfl | rfl | rfl
    · exact wtest_k1 n ih mat part limit names keys over tests d b g l w _ _ _ _ _ _ hR hl hG hw hF h1 h2 h3
    · exact wtest_k2 n ih mat part limit names keys over tests d b g l w _ _ _ _ _ _ hR hl hG hw hF h1 h2 h3
    · exact wtest_k3 n ih mat part limit names keys over tests d b g l w _ _ _ _ _ _ hR hl hG hw hF h1 h2 h3
    · exact wtest_k4 n ih mat part limit names keys over tests d b g l w _ _ _ _ _ _ hR hl hG hw hF h1 h2 h3
    · exact wtest_k5 n ih mat part limit names keys over tests d b g l w _ _ _ _ _ _ hR hl hG hw hF h1 h2 h3
    · exact wtest_k6 n ih mat part limit names keys over tests d b g l w _ _ _ _ _ _ hR hl hG hw hF h1 h2 h3
    · exact wtest_k7 n ih mat part limit names keys over tests d b g l w _ _ _ _ _ _ hR hl hG hw hF h1 h2 h3
    · exact wtest_k8 n ih mat part limit names keys over tests d b g l w _ _ _ _ _ _ hR hl hG hw hF h1 h2 h3
    · exact wtest_k9 n ih mat part limit names keys over tests d b g l w _ _ _ _ _ _ hR hl hG hw hF h1 h2 h3
    · exact wtest_k10 n ih mat part limit names keys over tests d b g l w _ _ _ _ _ _ hR hl hG hw hF h1 h2 h3
end Go.Proofs.YtdmiidbncpgfpabDoor
