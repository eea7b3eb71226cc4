/-
  The same asked for twice is asked for once; but Reject goes with nothing, not with itself: walked.
-/
import Derived.Test.YtiefkkmkhhannaaGreatDoorDoOnF
import Derived.Deep.RegionLaw
import Derived.Deep.RegionHeld3
import Derived.Deep.DeepCutAuto
namespace Go.Proofs.YtiefkkmkhhannaaGreatDoor
open Go.RowKit Go.Proofs

set_option maxHeartbeats 2000000 in
set_option maxRecDepth 100000 in
theorem doOnce_walk (w : World) (hm : TabsM w) (al : Option Addr) (cl : Nat) (l : List Stk) (n : Nat) (hS : SticksM n w (.slice al l.length cl) l) (x : Stk) (nx : Nat) (xs : List Value) (hX : StkM nx w x xs) :
    Calls Tryz.prog 4 #[.slice al l.length cl, .agg xs.toArray] w fun e w' => e = .returned (.bool true) ∧ Below w.heap.size w w' := by
  have HM := hid hm.1
  have HX := hid hX
  obtain ⟨ai, ci, hxs⟩ : ∃ ai ci, xs = [.int .i64 x.kind, .int .i64 x.a, .int .i64 x.b, .string (S x.s), .string (S x.t), .slice ai x.ins.length ci] := by
    cases nx with
    | zero => exact hX.elim
    | succ nx => obtain ⟨ai, ci, e, _⟩ := hX; exact ⟨ai, ci, e⟩
  subst hxs
  obtain ⟨W1, hW1⟩ : ∃ W1, W1 = (w.alloc (.cells #[.int .i64 x.kind, .int .i64 x.a, .int .i64 x.b, .string (S x.s), .string (S x.t), .slice ai x.ins.length ci] 29)).alloc (.cells #[.slice none 0 0, .int .i64 0, .bool false, .int .i64 0] 49) := ⟨_, rfl⟩
  have HWE := hid hW1
  have hB1 : Below w.heap.size w W1 := by rw [hW1]; exact ((Below.refl _ _).alloc (Nat.le_refl _) _).alloc (by simp) _
  have HB1 := hid hB1
  have HK1 := hid (show W1.heap[w.heap.size]? = some (.cells #[.int .i64 x.kind, .int .i64 x.a, .int .i64 x.b, .string (S x.s), .string (S x.t), .slice ai x.ins.length ci] 29) by rw [hW1]; exact tl_old _ (tl_at _ rfl))
  obtain ⟨CB, hCB⟩ : ∃ CB, CB = w.heap.size + 1 := ⟨_, rfl⟩
  have HCB := hid hCB
  have HC1 := hid (show W1.heap[CB]? = some (.cells #[.slice none 0 0, .int .i64 0, .bool false, .int .i64 0] 49) by rw [hW1, hCB]; exact tl_at _ (by simp))
  have hs1 : W1.heap.size = CB + 1 := by rw [hW1, hCB]; simp
  have HCS := hid (cmds_two 0 n l al cl W1 (SticksM.next hS hB1))
  clear hm hX hS hW1 hB1
  go_enter Tryz.func4, Tryz.ntmps4
  go_upto_region 2 with fail
  rw [← HWE.out, ← HCB.out]
  go_wp2_with fail
  refine HCS.out.mono ?_
  rintro e w2 ⟨L, aL, kL, rfl, hM2, hN2, hL4, _, hb2⟩
  simp only
  have HNC := hid hN2
  have HB2 := hid (show Below w.heap.size w w2 from HB1.out.trans (hb2.mono HB1.out.size))
  have HC2 := hid (tl_low hb2 HC1.out)
  have HK2 := hid (tl_low hb2 HK1.out)
  have HL2 := hid (show CmdsM (fun b => b ≠ CB) 2 w2 (.slice aL L.length kL) L from RowM.imp hM2 (fun b hb => by have hb' : W1.heap.size ≤ b := hb; omega) (Keeps.refl _ _) fun _ _ h => CmdM.imp (fun b hb => by have hb' : W1.heap.size ≤ b := hb; show b ≠ CB; omega) (Keeps.refl _ _) _ _ _ h)
  have HCW := hid (show w.heap.size < CB by have := HCB.out; omega)
  clear hM2 hN2 hb2 hs1 hCB HWE HCS HB1 HK1 HC1
  go_upto_region 4 with fail
  go_loopw [7] (fun v wr => OnceI w CB (.cells #[.int .i64 x.kind, .int .i64 x.a, .int .i64 x.b, .string (S x.s), .string (S x.t), .slice ai x.ins.length ci] 29) (.slice aL L.length kL) L v wr) (fun v _ => L.length - (intOf v).toNat)
  case atStart => exact ⟨0, newC, none, 0, Nat.zero_le _, rfl, HC2.out, rowM_nil _ _ _ _ _ _, (fun _ => ⟨rfl, rfl⟩), new_ok, HL2.out, HB2.out, HK2.out⟩
  case round =>
    obtain ⟨i, c, a, k, hi, rfl, hC', hA', hN', hOK', hL', hB', hK'⟩ := hrel
    have HC := hid hC'
    have HA := hid hA'
    have HN := hid hN'
    have HOK := hid hOK'
    have HL := hid hL'
    have HB := hid hB'
    have HK := hid hK'
    clear hC' hA' hN' hOK' hL' hB' hK'
    by_cases hlt : i < L.length
    · have i1 : (i : Int) < (L.length : Int) := by omega
      have i0 : (0 : Int) ≤ (i : Int) := by omega
      obtain ⟨y, hy⟩ : ∃ y, L[i]? = some y := ⟨_, List.getElem?_eq_getElem hlt⟩
      have HN2y := hid (HNC.out y (List.mem_of_getElem? hy))
      obtain ⟨bb, oo, ax, cx, an, cn, ak, ck, at', ct, aa, ca, ae, ce, rfl, hbb, b0, b1, b2, b3, b4, b5, b6, b7, b8, b9, b10, b11, hCM⟩ := cmd_at HL.out hy
      have hC := HC.out
      have q0 : wr.cell? ⟨CB, 0, none⟩ = some (.slice a c.acts.length k) := tl_cell (j := 0) hC rfl
      have q1 : wr.cell? ⟨CB, 1, none⟩ = some (.int .i64 c.flags) := tl_cell (j := 1) hC rfl
      have q2 : wr.cell? ⟨CB, 2, none⟩ = some (.bool c.asked) := tl_cell (j := 2) hC rfl
      have q3 : wr.cell? ⟨CB, 3, none⟩ = some (.int .i64 c.fault) := tl_cell (j := 3) hC rfl
      have HDO := hid (show ∀ u, Below wr.heap.size wr u → Calls Tryz.prog 11 #[.agg #[.slice a c.acts.length k, .int .i64 c.flags, .bool c.asked, .int .i64 c.fault], .agg #[.int .i64 y.kind, .slice ax y.texts.length cx, .int .i64 y.test.kind, .int .i64 y.test.mat, .int .i64 y.test.part, .slice an y.test.names.length cn, .slice ak y.test.keys.length ck, .bool y.test.over, .int .i64 y.test.limit, .slice at' y.test.tests.length ct, .slice aa y.thn.length ca, .slice ae y.els.length ce]] u (fun e w' => DoR u (goesP c y) e w' ∧ Below wr.heap.size wr w') from fun u hu =>
        (Do_ok 0 c a k y ax an ak at' aa ae cx cn ck ct ca ce u (HM.out.next (HB.out.trans (hu.mono HB.out.size))) (AtnsM.next HA.out hu) HN.out HOK.out.1 HOK.out.2.1 HOK.out.2.2 (CmdM.imp (fun _ _ => trivial) (Keeps.of_below hu) _ _ _ hCM) (one_do HN2y.out).1 (one_do HN2y.out).2.1 (one_do HN2y.out).2.2).mono fun e w' h => ⟨h, by obtain ⟨_, _, _, _, _, hb⟩ := h; exact hu.trans (hb.mono hu.size)⟩)
      have HKS := hid (show ∀ u, Below wr.heap.size wr u → (u.cell? ⟨CB, 0, none⟩ = some (.slice a c.acts.length k) ∧ u.cell? ⟨CB, 1, none⟩ = some (.int .i64 c.flags) ∧ u.cell? ⟨CB, 2, none⟩ = some (.bool c.asked) ∧ u.cell? ⟨CB, 3, none⟩ = some (.int .i64 c.fault) ∧ u.cell? ⟨bb, oo + i * 12, none⟩ = some (.int .i64 y.kind) ∧ u.cell? ⟨bb, oo + i * 12 + 1, none⟩ = some (.slice ax y.texts.length cx) ∧ u.cell? ⟨bb, oo + i * 12 + 2, none⟩ = some (.int .i64 y.test.kind) ∧ u.cell? ⟨bb, oo + i * 12 + 3, none⟩ = some (.int .i64 y.test.mat) ∧ u.cell? ⟨bb, oo + i * 12 + 4, none⟩ = some (.int .i64 y.test.part) ∧ u.cell? ⟨bb, oo + i * 12 + 5, none⟩ = some (.slice an y.test.names.length cn) ∧ u.cell? ⟨bb, oo + i * 12 + 6, none⟩ = some (.slice ak y.test.keys.length ck) ∧ u.cell? ⟨bb, oo + i * 12 + 7, none⟩ = some (.bool y.test.over) ∧ u.cell? ⟨bb, oo + i * 12 + 8, none⟩ = some (.int .i64 y.test.limit) ∧ u.cell? ⟨bb, oo + i * 12 + 9, none⟩ = some (.slice at' y.test.tests.length ct) ∧ u.cell? ⟨bb, oo + i * 12 + 10, none⟩ = some (.slice aa y.thn.length ca) ∧ u.cell? ⟨bb, oo + i * 12 + 11, none⟩ = some (.slice ae y.els.length ce)) from fun u hu => ⟨wcell_next q0 hu, wcell_next q1 hu, wcell_next q2 hu, wcell_next q3 hu, wcell_next b0 hu, wcell_next b1 hu, wcell_next b2 hu, wcell_next b3 hu, wcell_next b4 hu, wcell_next b5 hu, wcell_next b6 hu, wcell_next b7 hu, wcell_next b8 hu, wcell_next b9 hu, wcell_next b10 hu, wcell_next b11 hu⟩)
      have HOK2 := hid (goes_ok HOK.out y)
      clear hy hC hCM
      generalize hr : goesP c y = r at *
      have HRE := hid hr
      clear hr
      obtain ⟨Wr, hWr⟩ : ∃ Wr, Wr = wr := ⟨_, rfl⟩
      go_upto_region 6 with fail
      go_cut [8, 9, 10] from 24 to 44 (fun p o e wx => DoB wr r p o e wx)
      case first =>
        go_region_held3 (fun w' => w'.cell? ⟨CB, 0, none⟩ = some (.slice a c.acts.length k) ∧ w'.cell? ⟨CB, 1, none⟩ = some (.int .i64 c.flags) ∧ w'.cell? ⟨CB, 2, none⟩ = some (.bool c.asked) ∧ w'.cell? ⟨CB, 3, none⟩ = some (.int .i64 c.fault) ∧ w'.cell? ⟨bb, oo + i * 12, none⟩ = some (.int .i64 y.kind) ∧ w'.cell? ⟨bb, oo + i * 12 + 1, none⟩ = some (.slice ax y.texts.length cx) ∧ w'.cell? ⟨bb, oo + i * 12 + 2, none⟩ = some (.int .i64 y.test.kind) ∧ w'.cell? ⟨bb, oo + i * 12 + 3, none⟩ = some (.int .i64 y.test.mat) ∧ w'.cell? ⟨bb, oo + i * 12 + 4, none⟩ = some (.int .i64 y.test.part) ∧ w'.cell? ⟨bb, oo + i * 12 + 5, none⟩ = some (.slice an y.test.names.length cn) ∧ w'.cell? ⟨bb, oo + i * 12 + 6, none⟩ = some (.slice ak y.test.keys.length ck) ∧ w'.cell? ⟨bb, oo + i * 12 + 7, none⟩ = some (.bool y.test.over) ∧ w'.cell? ⟨bb, oo + i * 12 + 8, none⟩ = some (.int .i64 y.test.limit) ∧ w'.cell? ⟨bb, oo + i * 12 + 9, none⟩ = some (.slice at' y.test.tests.length ct) ∧ w'.cell? ⟨bb, oo + i * 12 + 10, none⟩ = some (.slice aa y.thn.length ca) ∧ w'.cell? ⟨bb, oo + i * 12 + 11, none⟩ = some (.slice ae y.els.length ce)) (first | (refine HKS.out _ ?_; repeat (first | exact HB5.out | exact Below.refl _ _ | refine Below.drew ?_ | refine Below.alloc ?_ (by first | exact Nat.le_refl _ | exact HB5.out.size | (simp <;> omega)) _ | refine Below.setCell ?_ (by first | exact HPP.out | exact HB5.out.size | simp) _)) | fail)
          (first
            | (go_at_call 11
               refine (HDO.out _ ?_).mono ?_
               · repeat (first | exact HB5.out | exact Below.refl _ _ | refine Below.drew ?_ | refine Below.alloc ?_ (by first | exact Nat.le_refl _ | exact HB5.out.size | (simp <;> omega)) _ | refine Below.setCell ?_ (by first | exact HPP.out | exact HB5.out.size | simp) _)
               rintro e w5 ⟨⟨a5, k5, rfl, hA5, hn5, hb5⟩, hB5⟩
               have HA5 := hid hA5
               have HN5 := hid hn5
               have HB5 := hid hB5
               first
                 | (have HK5 : Hid (w5.heap[wr.heap.size]? = some (.cells #[.slice none 0 0, .int .i64 0, .bool false, .int .i64 0] 49)) := hid (tl_low hb5 (show (wr.alloc (.cells #[.slice none 0 0, .int .i64 0, .bool false, .int .i64 0] 49)).drew.heap[wr.heap.size]? = _ from tl_at (w := wr) _ rfl)); have HPP : Hid (wr.heap.size ≤ wr.heap.size) := hid (Nat.le_refl _); have hk := HK5.out; have y0 := box_free hk 0; have z0 : w5.cell? ⟨wr.heap.size, 0, none⟩ = some (.slice none 0 0) := tl_cell (j := 0) hk rfl; have y1 := box_free hk 1; have z1 : w5.cell? ⟨wr.heap.size, 1, none⟩ = some (.int .i64 0) := tl_cell (j := 1) hk rfl; have y2 := box_free hk 2; have z2 : w5.cell? ⟨wr.heap.size, 2, none⟩ = some (.bool false) := tl_cell (j := 2) hk rfl; have y3 := box_free hk 3; have z3 : w5.cell? ⟨wr.heap.size, 3, none⟩ = some (.int .i64 0) := tl_cell (j := 3) hk rfl; clear hk)
                 | skip
               clear hA5 hn5 hb5 hB5)
            | fail)
        all_goals
          first
            | (have HE := hid (DoB.old (W := wr) (r := r) HPP.out HK5.out HA5.out HN5.out HB5.out)
               go_wp2_with fail
               go_meet
               exact HE.out)
            | (have HE := hid (DoB.new (W := wr) (r := r) HA5.out HN5.out HB5.out)
               go_wp2_with fail
               go_meet
               exact HE.out)
      case rest =>
        obtain ⟨P, a5, k5, rfl, rfl, rfl, hP, hX5, hA5, hn5, hb5⟩ := hcut
        obtain ⟨c', ov⟩ := r
        simp only at hX5 hA5 hn5
        have p0 : wc.cell? ⟨P, 0, none⟩ = some (.slice a5 c'.acts.length k5) := tl_cell (j := 0) hX5 rfl
        have p1 : wc.cell? ⟨P, 1, none⟩ = some (.int .i64 c'.flags) := tl_cell (j := 1) hX5 rfl
        have p2 : wc.cell? ⟨P, 2, none⟩ = some (.bool c'.asked) := tl_cell (j := 2) hX5 rfl
        have p3 : wc.cell? ⟨P, 3, none⟩ = some (.int .i64 c'.fault) := tl_cell (j := 3) hX5 rfl
        have hCc := tl_low hb5 HC.out
        have HCwr := hid (show CB < wr.heap.size from (Array.getElem?_eq_some_iff.1 HC.out).1)
        have hPC : P ≠ CB := by have := HCwr.out; omega
        have f0 := box_free hCc 0
        have f1 := box_free hCc 1
        have f2 := box_free hCc 2
        have f3 := box_free hCc 3
        have g0 : wc.cell? ⟨CB, 0, none⟩ = some (.slice a c.acts.length k) := tl_cell (j := 0) hCc rfl
        have g1 : wc.cell? ⟨CB, 1, none⟩ = some (.int .i64 c.flags) := tl_cell (j := 1) hCc rfl
        have g2 : wc.cell? ⟨CB, 2, none⟩ = some (.bool c.asked) := tl_cell (j := 2) hCc rfl
        have g3 : wc.cell? ⟨CB, 3, none⟩ = some (.int .i64 c.fault) := tl_cell (j := 3) hCc rfl
        obtain ⟨W6, hW6⟩ : ∃ W6, W6 = (((wc.setCell ⟨CB, 0, none⟩ (.slice a5 c'.acts.length k5)).setCell ⟨CB, 1, none⟩ (.int .i64 c'.flags)).setCell ⟨CB, 2, none⟩ (.bool c'.asked)).setCell ⟨CB, 3, none⟩ (.int .i64 c'.fault) := ⟨_, rfl⟩
        have HWE6 := hid hW6
        have HC6 := hid (show W6.heap[CB]? = some (.cells #[.slice a5 c'.acts.length k5, .int .i64 c'.flags, .bool c'.asked, .int .i64 c'.fault] 49) by rw [hW6]; exact fset4 hCc)
        have HA6 := hid (show AtnsM anyB W6 (.slice a5 c'.acts.length k5) c'.acts by rw [hW6]; exact facts_set (facts_apart hCc hA5))
        have HN6 := hid hn5
        have HL6 := hid (show CmdsM (fun b => b ≠ CB) 2 W6 (.slice (some ⟨bb, oo, none⟩) L.length kL) L by rw [hW6]; exact cmds_keep (cmds_keep HL.out (Keeps.of_below hb5)) (keeps4 _ _ _ _))
        have HB6 := hid (show Below w.heap.size w W6 by
          have h := HB.out.trans (hb5.mono HB.out.size)
          have hw := HCW.out
          rw [hW6]; exact (((h.setCell (Nat.le_of_lt hw) _).setCell (Nat.le_of_lt hw) _).setCell (Nat.le_of_lt hw) _).setCell (Nat.le_of_lt hw) _)
        have HK6 := hid (show W6.heap[w.heap.size]? = some (.cells #[.int .i64 x.kind, .int .i64 x.a, .int .i64 x.b, .string (S x.s), .string (S x.t), .slice ai x.ins.length ci] 29) by
          have hw := HCW.out
          rw [hW6, put4 _ _ _ _ (Nat.ne_of_lt hw)]; exact tl_low hb5 HK.out)
        have HOK6 := hid (show crsOk c' from HOK2.out)
        clear hP hX5 hA5 hn5 hb5 hCc hW6 HKS HDO
        cases ov with
        | false =>
          go_wp2_with fail
          go_upto_region 10 with fail
          rw [← HWE6.out]
          go_wp2
          go_roundw
          case rel => exact ⟨i + 1, c', a5, k5, by omega, by go_num, HC6.out, HA6.out, HN6.out, HOK6.out, HL6.out, HB6.out, HK6.out⟩
          case measure => simp [intOf]; omega
        | true =>
          go_upto_region 10 with fail
          rw [← HWE6.out]
          have hKx := HK6.out
          have s0 : W6.cell? ⟨w.heap.size, 0, none⟩ = some (.int .i64 x.kind) := tl_cell (j := 0) hKx rfl
          have s1 : W6.cell? ⟨w.heap.size, 1, none⟩ = some (.int .i64 x.a) := tl_cell (j := 1) hKx rfl
          have s2 : W6.cell? ⟨w.heap.size, 2, none⟩ = some (.int .i64 x.b) := tl_cell (j := 2) hKx rfl
          have s3 : W6.cell? ⟨w.heap.size, 3, none⟩ = some (.string (S x.s)) := tl_cell (j := 3) hKx rfl
          have s4 : W6.cell? ⟨w.heap.size, 4, none⟩ = some (.string (S x.t)) := tl_cell (j := 4) hKx rfl
          have s5 : W6.cell? ⟨w.heap.size, 5, none⟩ = some (.slice ai x.ins.length ci) := tl_cell (j := 5) hKx rfl
          have HCM := hid (show Calls Tryz.prog 12 #[.agg #[.int .i64 x.kind, .int .i64 x.a, .int .i64 x.b, .string (S x.s), .string (S x.t), .slice ai x.ins.length ci], .int .i64 2] W6 (CmdP2 2 W6) from cmd_of2 2 0 (by omega) nx x _ W6 (StkM.next HX.out HB6.out))
          clear hKx
          go_wp2_with fail
          refine HCM.out.mono ?_
          rintro e w7 ⟨K, ks, rfl, hK7, hN7, hb7⟩
          obtain ⟨ax, cx, an, cn, ak, ck, at', ct, aa, ca, ae, ce, m7, hm7, hks, hrest⟩ := cmd_form hK7
          subst hks
          clear hm7 hrest
          simp only
          obtain ⟨W8, hW8⟩ : ∃ W8, W8 = w7.alloc (.cells #[.int .i64 K.kind, .slice ax K.texts.length cx, .int .i64 K.test.kind, .int .i64 K.test.mat, .int .i64 K.test.part, .slice an K.test.names.length cn, .slice ak K.test.keys.length ck, .bool K.test.over, .int .i64 K.test.limit, .slice at' K.test.tests.length ct, .slice aa K.thn.length ca, .slice ae K.els.length ce] 55) := ⟨_, rfl⟩
          have HWE8 := hid hW8
          obtain ⟨KB, hKB⟩ : ∃ KB, KB = w7.heap.size := ⟨_, rfl⟩
          have HKBE := hid hKB
          have hB78 : Below w7.heap.size w7 W8 := by rw [hW8]; exact (Below.refl _ _).alloc (Nat.le_refl _) _
          have hB8 : Below W6.heap.size W6 W8 := hb7.trans (hB78.mono hb7.size)
          have HB8 := hid (show Below w.heap.size w W8 from HB6.out.trans (hB8.mono HB6.out.size))
          have HKX := hid (show W8.heap[KB]? = some (.cells #[.int .i64 K.kind, .slice ax K.texts.length cx, .int .i64 K.test.kind, .int .i64 K.test.mat, .int .i64 K.test.part, .slice an K.test.names.length cn, .slice ak K.test.keys.length ck, .bool K.test.over, .int .i64 K.test.limit, .slice at' K.test.tests.length ct, .slice aa K.thn.length ca, .slice ae K.els.length ce] 55) by rw [hW8, hKB]; exact tl_at _ rfl)
          have HNK := hid hN7
          have HKM := hid (show CmdM anyB 2 W8 K [.int .i64 K.kind, .slice ax K.texts.length cx, .int .i64 K.test.kind, .int .i64 K.test.mat, .int .i64 K.test.part, .slice an K.test.names.length cn, .slice ak K.test.keys.length ck, .bool K.test.over, .int .i64 K.test.limit, .slice at' K.test.tests.length ct, .slice aa K.thn.length ca, .slice ae K.els.length ce] from CmdM.imp (fun _ _ => trivial) (Keeps.of_below hB78) _ _ _ hK7)
          have HC8 := hid (tl_low hB8 HC6.out)
          have HA8 := hid (AtnsM.next HA6.out hB8)
          have HDO := hid (show ∀ (u : World) (d : Crs) (b : Option Addr) (q : Nat), Below W8.heap.size W8 u → AtnsM anyB u (.slice b d.acts.length q) d.acts → (b = none → d.acts = [] ∧ q = 0) → crsOk d → Calls Tryz.prog 11 #[.agg #[.slice b d.acts.length q, .int .i64 d.flags, .bool d.asked, .int .i64 d.fault], .agg #[.int .i64 K.kind, .slice ax K.texts.length cx, .int .i64 K.test.kind, .int .i64 K.test.mat, .int .i64 K.test.part, .slice an K.test.names.length cn, .slice ak K.test.keys.length ck, .bool K.test.over, .int .i64 K.test.limit, .slice at' K.test.tests.length ct, .slice aa K.thn.length ca, .slice ae K.els.length ce]] u (DoR u (goesP d K)) from fun u d b q hu h1 h2 h3 =>
            Do_ok 0 d b q K ax an ak at' aa ae cx cn ck ct ca ce u (HM.out.next (HB8.out.trans (hu.mono HB8.out.size))) h1 h2 h3.1 h3.2.1 h3.2.2 (CmdM.imp (fun _ h => h) (Keeps.of_below hu) _ _ _ HKM.out) (one_do HNK.out).1 (one_do HNK.out).2.1 (one_do HNK.out).2.2)
          have HD8 := hid (HDO.out W8 c' a5 k5 (Below.refl _ _) HA8.out HN6.out HOK6.out)
          have hkx := HKX.out
          have kc0 : W8.cell? ⟨KB, 0, none⟩ = some (.int .i64 K.kind) := tl_cell (j := 0) hkx rfl
          have kc1 : W8.cell? ⟨KB, 1, none⟩ = some (.slice ax K.texts.length cx) := tl_cell (j := 1) hkx rfl
          have kc2 : W8.cell? ⟨KB, 2, none⟩ = some (.int .i64 K.test.kind) := tl_cell (j := 2) hkx rfl
          have kc3 : W8.cell? ⟨KB, 3, none⟩ = some (.int .i64 K.test.mat) := tl_cell (j := 3) hkx rfl
          have kc4 : W8.cell? ⟨KB, 4, none⟩ = some (.int .i64 K.test.part) := tl_cell (j := 4) hkx rfl
          have kc5 : W8.cell? ⟨KB, 5, none⟩ = some (.slice an K.test.names.length cn) := tl_cell (j := 5) hkx rfl
          have kc6 : W8.cell? ⟨KB, 6, none⟩ = some (.slice ak K.test.keys.length ck) := tl_cell (j := 6) hkx rfl
          have kc7 : W8.cell? ⟨KB, 7, none⟩ = some (.bool K.test.over) := tl_cell (j := 7) hkx rfl
          have kc8 : W8.cell? ⟨KB, 8, none⟩ = some (.int .i64 K.test.limit) := tl_cell (j := 8) hkx rfl
          have kc9 : W8.cell? ⟨KB, 9, none⟩ = some (.slice at' K.test.tests.length ct) := tl_cell (j := 9) hkx rfl
          have kc10 : W8.cell? ⟨KB, 10, none⟩ = some (.slice aa K.thn.length ca) := tl_cell (j := 10) hkx rfl
          have kc11 : W8.cell? ⟨KB, 11, none⟩ = some (.slice ae K.els.length ce) := tl_cell (j := 11) hkx rfl
          have hcx := HC8.out
          have q0 : W8.cell? ⟨CB, 0, none⟩ = some (.slice a5 c'.acts.length k5) := tl_cell (j := 0) hcx rfl
          have q1 : W8.cell? ⟨CB, 1, none⟩ = some (.int .i64 c'.flags) := tl_cell (j := 1) hcx rfl
          have q2 : W8.cell? ⟨CB, 2, none⟩ = some (.bool c'.asked) := tl_cell (j := 2) hcx rfl
          have q3 : W8.cell? ⟨CB, 3, none⟩ = some (.int .i64 c'.fault) := tl_cell (j := 3) hcx rfl
          clear hkx hcx hK7 hN7 hb7 hB78 hB8 hW8 hKB s0 s1 s2 s3 s4 s5 HCM
          go_upto_region 12 with fail
          rw [← HWE8.out, ← HKBE.out]
          clear HWE8 HKBE
          go_wp2_with fail
          refine HD8.out.mono ?_
          rintro e w9 ⟨a9, k9, rfl, hA9, hn9, hb9⟩
          have HR1 := hid (goes_ok HOK6.out K)
          have HEQ := hid (show K.kind = 7 ∧ ((goesP c' K).2 = false ∧ (goesP (goesP c' K).1 K).2 = true ∧ (goesP (goesP c' K).1 K).1.fault = 9 ∨ (goesP c' K).2 = true ∧ goesP (goesP c' K).1 K = goesP c' K) ∨ (K.kind ≠ 7 ∧ goesP (goesP c' K).1 K = goesP c' K) from by
            rcases one_kinds HNK.out with h | h
            · exact .inl ⟨h, goes_reject c' K h⟩
            · exact .inr ⟨by omega, goes_twice c' K h⟩)
          generalize hr1 : goesP c' K = r1 at *
          obtain ⟨d1, o1⟩ := r1
          simp only at hA9 hn9 HR1 HEQ
          simp only
          obtain ⟨W10, hW10⟩ : ∃ W10, W10 = w9.alloc (.cells #[.slice a9 d1.acts.length k9, .int .i64 d1.flags, .bool d1.asked, .int .i64 d1.fault] 49) := ⟨_, rfl⟩
          have HWE10 := hid hW10
          obtain ⟨AB, hAB⟩ : ∃ AB, AB = w9.heap.size := ⟨_, rfl⟩
          have HABE := hid hAB
          have hB910 : Below w9.heap.size w9 W10 := by rw [hW10]; exact (Below.refl _ _).alloc (Nat.le_refl _) _
          have hB10 : Below W8.heap.size W8 W10 := hb9.trans (hB910.mono hb9.size)
          have HB10 := hid hB10
          have HX10 := hid (show W10.heap[AB]? = some (.cells #[.slice a9 d1.acts.length k9, .int .i64 d1.flags, .bool d1.asked, .int .i64 d1.fault] 49) by rw [hW10, hAB]; exact tl_at _ rfl)
          have HA10 := hid (AtnsM.next hA9 hB910)
          have HN10 := hid hn9
          have HD10 := hid (HDO.out W10 d1 a9 k9 hB10 HA10.out hn9 HR1.out)
          have hkx := tl_low hB10 HKX.out
          have kc0 : W10.cell? ⟨KB, 0, none⟩ = some (.int .i64 K.kind) := tl_cell (j := 0) hkx rfl
          have kc1 : W10.cell? ⟨KB, 1, none⟩ = some (.slice ax K.texts.length cx) := tl_cell (j := 1) hkx rfl
          have kc2 : W10.cell? ⟨KB, 2, none⟩ = some (.int .i64 K.test.kind) := tl_cell (j := 2) hkx rfl
          have kc3 : W10.cell? ⟨KB, 3, none⟩ = some (.int .i64 K.test.mat) := tl_cell (j := 3) hkx rfl
          have kc4 : W10.cell? ⟨KB, 4, none⟩ = some (.int .i64 K.test.part) := tl_cell (j := 4) hkx rfl
          have kc5 : W10.cell? ⟨KB, 5, none⟩ = some (.slice an K.test.names.length cn) := tl_cell (j := 5) hkx rfl
          have kc6 : W10.cell? ⟨KB, 6, none⟩ = some (.slice ak K.test.keys.length ck) := tl_cell (j := 6) hkx rfl
          have kc7 : W10.cell? ⟨KB, 7, none⟩ = some (.bool K.test.over) := tl_cell (j := 7) hkx rfl
          have kc8 : W10.cell? ⟨KB, 8, none⟩ = some (.int .i64 K.test.limit) := tl_cell (j := 8) hkx rfl
          have kc9 : W10.cell? ⟨KB, 9, none⟩ = some (.slice at' K.test.tests.length ct) := tl_cell (j := 9) hkx rfl
          have kc10 : W10.cell? ⟨KB, 10, none⟩ = some (.slice aa K.thn.length ca) := tl_cell (j := 10) hkx rfl
          have kc11 : W10.cell? ⟨KB, 11, none⟩ = some (.slice ae K.els.length ce) := tl_cell (j := 11) hkx rfl
          have hax := HX10.out
          have u0 : W10.cell? ⟨AB, 0, none⟩ = some (.slice a9 d1.acts.length k9) := tl_cell (j := 0) hax rfl
          have u1 : W10.cell? ⟨AB, 1, none⟩ = some (.int .i64 d1.flags) := tl_cell (j := 1) hax rfl
          have u2 : W10.cell? ⟨AB, 2, none⟩ = some (.bool d1.asked) := tl_cell (j := 2) hax rfl
          have u3 : W10.cell? ⟨AB, 3, none⟩ = some (.int .i64 d1.fault) := tl_cell (j := 3) hax rfl
          clear hkx hax hA9 hn9 hb9 hB910 hB10 hW10 hAB hr1
          go_upto_region 13 with fail
          rw [← HWE10.out, ← HABE.out]
          clear HWE10 HABE
          go_wp2_with fail
          refine HD10.out.mono ?_
          rintro e w11 ⟨a11, k11, rfl, hA11, hn11, hb11⟩
          have HR2 := hid (goes_ok HR1.out K)
          generalize hr2 : goesP d1 K = r2 at *
          obtain ⟨d2, o2⟩ := r2
          simp only at hA11 HR2 HEQ
          simp only
          obtain ⟨W12, hW12⟩ : ∃ W12, W12 = w11.alloc (.cells #[.slice a11 d2.acts.length k11, .int .i64 d2.flags, .bool d2.asked, .int .i64 d2.fault] 49) := ⟨_, rfl⟩
          have HWE12 := hid hW12
          obtain ⟨BB, hBB⟩ : ∃ BB, BB = w11.heap.size := ⟨_, rfl⟩
          have HBBE := hid hBB
          have hB1112 : Below w11.heap.size w11 W12 := by rw [hW12]; exact (Below.refl _ _).alloc (Nat.le_refl _) _
          have hB12 : Below W10.heap.size W10 W12 := hb11.trans (hB1112.mono hb11.size)
          have HB12 := hid hB12
          have HX12 := hid (show W12.heap[BB]? = some (.cells #[.slice a11 d2.acts.length k11, .int .i64 d2.flags, .bool d2.asked, .int .i64 d2.fault] 49) by rw [hW12, hBB]; exact tl_at _ rfl)
          have HA12 := hid (AtnsM.next hA11 hB1112)
          have HDI := hid (Do_if c' a5 k5 1 W12 HOK6.out.1 HOK6.out.2.1 HOK6.out.2.2)
          have hcx := tl_low hB12 (tl_low HB10.out HC8.out)
          have q0 : W12.cell? ⟨CB, 0, none⟩ = some (.slice a5 c'.acts.length k5) := tl_cell (j := 0) hcx rfl
          have q1 : W12.cell? ⟨CB, 1, none⟩ = some (.int .i64 c'.flags) := tl_cell (j := 1) hcx rfl
          have q2 : W12.cell? ⟨CB, 2, none⟩ = some (.bool c'.asked) := tl_cell (j := 2) hcx rfl
          have q3 : W12.cell? ⟨CB, 3, none⟩ = some (.int .i64 c'.fault) := tl_cell (j := 3) hcx rfl
          clear hcx hA11 hn11 hb11 hB1112 hB12 hW12 hBB hr2
          go_upto_region 14 with fail
          rw [← HWE12.out, ← HBBE.out]
          clear HWE12 HBBE
          go_wp2_with fail
          refine HDI.out.mono ?_
          rintro e w13 ⟨rfl, hb13⟩
          simp only
          obtain ⟨W14, hW14⟩ : ∃ W14, W14 = w13.alloc (.cells #[.slice none 0 0, .int .i64 0, .bool false, .int .i64 0] 49) := ⟨_, rfl⟩
          have HWE14 := hid hW14
          have hB14 : Below W12.heap.size W12 W14 := by rw [hW14]; exact hb13.alloc hb13.size _
          have HB14 := hid (show Below w.heap.size w W14 from (((HB8.out.trans (HB10.out.mono HB8.out.size)).trans (HB12.out.mono (Nat.le_trans HB8.out.size HB10.out.size)))).trans (hB14.mono (Nat.le_trans (Nat.le_trans HB8.out.size HB10.out.size) HB12.out.size)))
          have hkx := tl_low hB14 (tl_low HB12.out (tl_low HB10.out HKX.out))
          have t0 : W14.cell? ⟨KB, 0, none⟩ = some (.int .i64 K.kind) := tl_cell (j := 0) hkx rfl
          have hax := tl_low hB14 (tl_low HB12.out HX10.out)
          have u0 : W14.cell? ⟨AB, 0, none⟩ = some (.slice a9 d1.acts.length k9) := tl_cell (j := 0) hax rfl
          have u1 : W14.cell? ⟨AB, 1, none⟩ = some (.int .i64 d1.flags) := tl_cell (j := 1) hax rfl
          have u2 : W14.cell? ⟨AB, 2, none⟩ = some (.bool d1.asked) := tl_cell (j := 2) hax rfl
          have u3 : W14.cell? ⟨AB, 3, none⟩ = some (.int .i64 d1.fault) := tl_cell (j := 3) hax rfl
          have hbx := tl_low hB14 HX12.out
          have v0 : W14.cell? ⟨BB, 0, none⟩ = some (.slice a11 d2.acts.length k11) := tl_cell (j := 0) hbx rfl
          have v1 : W14.cell? ⟨BB, 1, none⟩ = some (.int .i64 d2.flags) := tl_cell (j := 1) hbx rfl
          have v2 : W14.cell? ⟨BB, 2, none⟩ = some (.bool d2.asked) := tl_cell (j := 2) hbx rfl
          have v3 : W14.cell? ⟨BB, 3, none⟩ = some (.int .i64 d2.fault) := tl_cell (j := 3) hbx rfl
          have HA14 := hid (AtnsM.next (AtnsM.next HA10.out HB12.out) hB14)
          have HB14a := hid (AtnsM.next HA12.out hB14)
          clear hkx hax hbx hb13 hW14 hB14
          go_upto_region 15 with fail
          rw [← HWE14.out]
          clear HWE14
          rcases HEQ.out with ⟨h7, h | ⟨h1, h2⟩⟩ | ⟨h7, h2⟩
          · obtain ⟨h1, h2, h3⟩ := h
            subst h1 h2
            have k7 : (K.kind == 7) = true := by simpa using h7
            have k9 : (d2.fault == 9) = true := by simpa using h3
            have H7 := hid h7
            have H3 := hid h3
            clear h7 h3
            go_wp2
            go_ret
            exact ⟨by first | rfl | simp [*], HB14.out⟩
          · cases h2
            subst h1
            have k7 : (K.kind == 7) = true := by simpa using h7
            have H7 := hid h7
            have HSC := hid (sameCourse_any a9 a11 k9 k11 d1 W14 HA14.out HB14a.out HR1.out.1)
            clear h7
            go_wp2_with fail
            refine HSC.out.mono ?_
            rintro e w15 ⟨rfl, hb15⟩
            simp only
            have HB15 := hid (show Below w.heap.size w w15 from HB14.out.trans (hb15.mono HB14.out.size))
            clear hb15
            go_wp2
            go_ret
            exact ⟨by first | rfl | simp, HB15.out⟩
          · cases h2
            have k7 : (K.kind == 7) = false := by simpa using h7
            have H7 := hid h7
            have HSC := hid (sameCourse_any a9 a11 k9 k11 d1 W14 HA14.out HB14a.out HR1.out.1)
            clear h7
            cases o1
            · go_wp2_with fail
              refine HSC.out.mono ?_
              rintro e w15 ⟨rfl, hb15⟩
              simp only
              have HB15 := hid (show Below w.heap.size w w15 from HB14.out.trans (hb15.mono HB14.out.size))
              clear hb15
              go_wp2
              go_ret
              exact ⟨by first | rfl | simp, HB15.out⟩
            · go_wp2_with fail
              refine HSC.out.mono ?_
              rintro e w15 ⟨rfl, hb15⟩
              simp only
              have HB15 := hid (show Below w.heap.size w w15 from HB14.out.trans (hb15.mono HB14.out.size))
              clear hb15
              go_wp2
              go_ret
              exact ⟨by first | rfl | simp, HB15.out⟩
    · have i1 : ¬ (i : Int) < (L.length : Int) := by omega
      have hKx := HK.out
      have s0 : wr.cell? ⟨w.heap.size, 0, none⟩ = some (.int .i64 x.kind) := tl_cell (j := 0) hKx rfl
      have s1 : wr.cell? ⟨w.heap.size, 1, none⟩ = some (.int .i64 x.a) := tl_cell (j := 1) hKx rfl
      have s2 : wr.cell? ⟨w.heap.size, 2, none⟩ = some (.int .i64 x.b) := tl_cell (j := 2) hKx rfl
      have s3 : wr.cell? ⟨w.heap.size, 3, none⟩ = some (.string (S x.s)) := tl_cell (j := 3) hKx rfl
      have s4 : wr.cell? ⟨w.heap.size, 4, none⟩ = some (.string (S x.t)) := tl_cell (j := 4) hKx rfl
      have s5 : wr.cell? ⟨w.heap.size, 5, none⟩ = some (.slice ai x.ins.length ci) := tl_cell (j := 5) hKx rfl
      have HCM := hid (show Calls Tryz.prog 12 #[.agg #[.int .i64 x.kind, .int .i64 x.a, .int .i64 x.b, .string (S x.s), .string (S x.t), .slice ai x.ins.length ci], .int .i64 2] wr (CmdP2 2 wr) from cmd_of2 2 0 (by omega) nx x _ wr (StkM.next HX.out HB.out))
      clear hKx
      go_wp2_with fail
      refine HCM.out.mono ?_
      rintro e w7 ⟨K, ks, rfl, hK7, hN7, hb7⟩
      obtain ⟨ax, cx, an, cn, ak, ck, at', ct, aa, ca, ae, ce, m7, hm7, hks, hrest⟩ := cmd_form hK7
      subst hks
      clear hm7 hrest
      simp only
      obtain ⟨W8, hW8⟩ : ∃ W8, W8 = w7.alloc (.cells #[.int .i64 K.kind, .slice ax K.texts.length cx, .int .i64 K.test.kind, .int .i64 K.test.mat, .int .i64 K.test.part, .slice an K.test.names.length cn, .slice ak K.test.keys.length ck, .bool K.test.over, .int .i64 K.test.limit, .slice at' K.test.tests.length ct, .slice aa K.thn.length ca, .slice ae K.els.length ce] 55) := ⟨_, rfl⟩
      have HWE8 := hid hW8
      obtain ⟨KB, hKB⟩ : ∃ KB, KB = w7.heap.size := ⟨_, rfl⟩
      have HKBE := hid hKB
      have hB78 : Below w7.heap.size w7 W8 := by rw [hW8]; exact (Below.refl _ _).alloc (Nat.le_refl _) _
      have hB8 : Below wr.heap.size wr W8 := hb7.trans (hB78.mono hb7.size)
      have HB8 := hid (show Below w.heap.size w W8 from HB.out.trans (hB8.mono HB.out.size))
      have HKX := hid (show W8.heap[KB]? = some (.cells #[.int .i64 K.kind, .slice ax K.texts.length cx, .int .i64 K.test.kind, .int .i64 K.test.mat, .int .i64 K.test.part, .slice an K.test.names.length cn, .slice ak K.test.keys.length ck, .bool K.test.over, .int .i64 K.test.limit, .slice at' K.test.tests.length ct, .slice aa K.thn.length ca, .slice ae K.els.length ce] 55) by rw [hW8, hKB]; exact tl_at _ rfl)
      have HNK := hid hN7
      have HKM := hid (show CmdM anyB 2 W8 K [.int .i64 K.kind, .slice ax K.texts.length cx, .int .i64 K.test.kind, .int .i64 K.test.mat, .int .i64 K.test.part, .slice an K.test.names.length cn, .slice ak K.test.keys.length ck, .bool K.test.over, .int .i64 K.test.limit, .slice at' K.test.tests.length ct, .slice aa K.thn.length ca, .slice ae K.els.length ce] from CmdM.imp (fun _ _ => trivial) (Keeps.of_below hB78) _ _ _ hK7)
      have HC8 := hid (tl_low hB8 HC.out)
      have HA8 := hid (AtnsM.next HA.out hB8)
      have HDO := hid (show ∀ (u : World) (d : Crs) (b : Option Addr) (q : Nat), Below W8.heap.size W8 u → AtnsM anyB u (.slice b d.acts.length q) d.acts → (b = none → d.acts = [] ∧ q = 0) → crsOk d → Calls Tryz.prog 11 #[.agg #[.slice b d.acts.length q, .int .i64 d.flags, .bool d.asked, .int .i64 d.fault], .agg #[.int .i64 K.kind, .slice ax K.texts.length cx, .int .i64 K.test.kind, .int .i64 K.test.mat, .int .i64 K.test.part, .slice an K.test.names.length cn, .slice ak K.test.keys.length ck, .bool K.test.over, .int .i64 K.test.limit, .slice at' K.test.tests.length ct, .slice aa K.thn.length ca, .slice ae K.els.length ce]] u (DoR u (goesP d K)) from fun u d b q hu h1 h2 h3 =>
        Do_ok 0 d b q K ax an ak at' aa ae cx cn ck ct ca ce u (HM.out.next (HB8.out.trans (hu.mono HB8.out.size))) h1 h2 h3.1 h3.2.1 h3.2.2 (CmdM.imp (fun _ h => h) (Keeps.of_below hu) _ _ _ HKM.out) (one_do HNK.out).1 (one_do HNK.out).2.1 (one_do HNK.out).2.2)
      have HD8 := hid (HDO.out W8 c a k (Below.refl _ _) HA8.out HN.out HOK.out)
      have hkx := HKX.out
      have kc0 : W8.cell? ⟨KB, 0, none⟩ = some (.int .i64 K.kind) := tl_cell (j := 0) hkx rfl
      have kc1 : W8.cell? ⟨KB, 1, none⟩ = some (.slice ax K.texts.length cx) := tl_cell (j := 1) hkx rfl
      have kc2 : W8.cell? ⟨KB, 2, none⟩ = some (.int .i64 K.test.kind) := tl_cell (j := 2) hkx rfl
      have kc3 : W8.cell? ⟨KB, 3, none⟩ = some (.int .i64 K.test.mat) := tl_cell (j := 3) hkx rfl
      have kc4 : W8.cell? ⟨KB, 4, none⟩ = some (.int .i64 K.test.part) := tl_cell (j := 4) hkx rfl
      have kc5 : W8.cell? ⟨KB, 5, none⟩ = some (.slice an K.test.names.length cn) := tl_cell (j := 5) hkx rfl
      have kc6 : W8.cell? ⟨KB, 6, none⟩ = some (.slice ak K.test.keys.length ck) := tl_cell (j := 6) hkx rfl
      have kc7 : W8.cell? ⟨KB, 7, none⟩ = some (.bool K.test.over) := tl_cell (j := 7) hkx rfl
      have kc8 : W8.cell? ⟨KB, 8, none⟩ = some (.int .i64 K.test.limit) := tl_cell (j := 8) hkx rfl
      have kc9 : W8.cell? ⟨KB, 9, none⟩ = some (.slice at' K.test.tests.length ct) := tl_cell (j := 9) hkx rfl
      have kc10 : W8.cell? ⟨KB, 10, none⟩ = some (.slice aa K.thn.length ca) := tl_cell (j := 10) hkx rfl
      have kc11 : W8.cell? ⟨KB, 11, none⟩ = some (.slice ae K.els.length ce) := tl_cell (j := 11) hkx rfl
      have hcx := HC8.out
      have q0 : W8.cell? ⟨CB, 0, none⟩ = some (.slice a c.acts.length k) := tl_cell (j := 0) hcx rfl
      have q1 : W8.cell? ⟨CB, 1, none⟩ = some (.int .i64 c.flags) := tl_cell (j := 1) hcx rfl
      have q2 : W8.cell? ⟨CB, 2, none⟩ = some (.bool c.asked) := tl_cell (j := 2) hcx rfl
      have q3 : W8.cell? ⟨CB, 3, none⟩ = some (.int .i64 c.fault) := tl_cell (j := 3) hcx rfl
      clear hkx hcx hK7 hN7 hb7 hB78 hB8 hW8 hKB s0 s1 s2 s3 s4 s5 HCM
      go_upto_region 12 with fail
      rw [← HWE8.out, ← HKBE.out]
      clear HWE8 HKBE
      go_wp2_with fail
      refine HD8.out.mono ?_
      rintro e w9 ⟨a9, k9, rfl, hA9, hn9, hb9⟩
      have HR1 := hid (goes_ok HOK.out K)
      have HEQ := hid (show K.kind = 7 ∧ ((goesP c K).2 = false ∧ (goesP (goesP c K).1 K).2 = true ∧ (goesP (goesP c K).1 K).1.fault = 9 ∨ (goesP c K).2 = true ∧ goesP (goesP c K).1 K = goesP c K) ∨ (K.kind ≠ 7 ∧ goesP (goesP c K).1 K = goesP c K) from by
        rcases one_kinds HNK.out with h | h
        · exact .inl ⟨h, goes_reject c K h⟩
        · exact .inr ⟨by omega, goes_twice c K h⟩)
      generalize hr1 : goesP c K = r1 at *
      obtain ⟨d1, o1⟩ := r1
      simp only at hA9 hn9 HR1 HEQ
      simp only
      obtain ⟨W10, hW10⟩ : ∃ W10, W10 = w9.alloc (.cells #[.slice a9 d1.acts.length k9, .int .i64 d1.flags, .bool d1.asked, .int .i64 d1.fault] 49) := ⟨_, rfl⟩
      have HWE10 := hid hW10
      obtain ⟨AB, hAB⟩ : ∃ AB, AB = w9.heap.size := ⟨_, rfl⟩
      have HABE := hid hAB
      have hB910 : Below w9.heap.size w9 W10 := by rw [hW10]; exact (Below.refl _ _).alloc (Nat.le_refl _) _
      have hB10 : Below W8.heap.size W8 W10 := hb9.trans (hB910.mono hb9.size)
      have HB10 := hid hB10
      have HX10 := hid (show W10.heap[AB]? = some (.cells #[.slice a9 d1.acts.length k9, .int .i64 d1.flags, .bool d1.asked, .int .i64 d1.fault] 49) by rw [hW10, hAB]; exact tl_at _ rfl)
      have HA10 := hid (AtnsM.next hA9 hB910)
      have HN10 := hid hn9
      have HD10 := hid (HDO.out W10 d1 a9 k9 hB10 HA10.out hn9 HR1.out)
      have hkx := tl_low hB10 HKX.out
      have kc0 : W10.cell? ⟨KB, 0, none⟩ = some (.int .i64 K.kind) := tl_cell (j := 0) hkx rfl
      have kc1 : W10.cell? ⟨KB, 1, none⟩ = some (.slice ax K.texts.length cx) := tl_cell (j := 1) hkx rfl
      have kc2 : W10.cell? ⟨KB, 2, none⟩ = some (.int .i64 K.test.kind) := tl_cell (j := 2) hkx rfl
      have kc3 : W10.cell? ⟨KB, 3, none⟩ = some (.int .i64 K.test.mat) := tl_cell (j := 3) hkx rfl
      have kc4 : W10.cell? ⟨KB, 4, none⟩ = some (.int .i64 K.test.part) := tl_cell (j := 4) hkx rfl
      have kc5 : W10.cell? ⟨KB, 5, none⟩ = some (.slice an K.test.names.length cn) := tl_cell (j := 5) hkx rfl
      have kc6 : W10.cell? ⟨KB, 6, none⟩ = some (.slice ak K.test.keys.length ck) := tl_cell (j := 6) hkx rfl
      have kc7 : W10.cell? ⟨KB, 7, none⟩ = some (.bool K.test.over) := tl_cell (j := 7) hkx rfl
      have kc8 : W10.cell? ⟨KB, 8, none⟩ = some (.int .i64 K.test.limit) := tl_cell (j := 8) hkx rfl
      have kc9 : W10.cell? ⟨KB, 9, none⟩ = some (.slice at' K.test.tests.length ct) := tl_cell (j := 9) hkx rfl
      have kc10 : W10.cell? ⟨KB, 10, none⟩ = some (.slice aa K.thn.length ca) := tl_cell (j := 10) hkx rfl
      have kc11 : W10.cell? ⟨KB, 11, none⟩ = some (.slice ae K.els.length ce) := tl_cell (j := 11) hkx rfl
      have hax := HX10.out
      have u0 : W10.cell? ⟨AB, 0, none⟩ = some (.slice a9 d1.acts.length k9) := tl_cell (j := 0) hax rfl
      have u1 : W10.cell? ⟨AB, 1, none⟩ = some (.int .i64 d1.flags) := tl_cell (j := 1) hax rfl
      have u2 : W10.cell? ⟨AB, 2, none⟩ = some (.bool d1.asked) := tl_cell (j := 2) hax rfl
      have u3 : W10.cell? ⟨AB, 3, none⟩ = some (.int .i64 d1.fault) := tl_cell (j := 3) hax rfl
      clear hkx hax hA9 hn9 hb9 hB910 hB10 hW10 hAB hr1
      go_upto_region 13 with fail
      rw [← HWE10.out, ← HABE.out]
      clear HWE10 HABE
      go_wp2_with fail
      refine HD10.out.mono ?_
      rintro e w11 ⟨a11, k11, rfl, hA11, hn11, hb11⟩
      have HR2 := hid (goes_ok HR1.out K)
      generalize hr2 : goesP d1 K = r2 at *
      obtain ⟨d2, o2⟩ := r2
      simp only at hA11 HR2 HEQ
      simp only
      obtain ⟨W12, hW12⟩ : ∃ W12, W12 = w11.alloc (.cells #[.slice a11 d2.acts.length k11, .int .i64 d2.flags, .bool d2.asked, .int .i64 d2.fault] 49) := ⟨_, rfl⟩
      have HWE12 := hid hW12
      obtain ⟨BB, hBB⟩ : ∃ BB, BB = w11.heap.size := ⟨_, rfl⟩
      have HBBE := hid hBB
      have hB1112 : Below w11.heap.size w11 W12 := by rw [hW12]; exact (Below.refl _ _).alloc (Nat.le_refl _) _
      have hB12 : Below W10.heap.size W10 W12 := hb11.trans (hB1112.mono hb11.size)
      have HB12 := hid hB12
      have HX12 := hid (show W12.heap[BB]? = some (.cells #[.slice a11 d2.acts.length k11, .int .i64 d2.flags, .bool d2.asked, .int .i64 d2.fault] 49) by rw [hW12, hBB]; exact tl_at _ rfl)
      have HA12 := hid (AtnsM.next hA11 hB1112)
      have HDI := hid (Do_if c a k 1 W12 HOK.out.1 HOK.out.2.1 HOK.out.2.2)
      have hcx := tl_low hB12 (tl_low HB10.out HC8.out)
      have q0 : W12.cell? ⟨CB, 0, none⟩ = some (.slice a c.acts.length k) := tl_cell (j := 0) hcx rfl
      have q1 : W12.cell? ⟨CB, 1, none⟩ = some (.int .i64 c.flags) := tl_cell (j := 1) hcx rfl
      have q2 : W12.cell? ⟨CB, 2, none⟩ = some (.bool c.asked) := tl_cell (j := 2) hcx rfl
      have q3 : W12.cell? ⟨CB, 3, none⟩ = some (.int .i64 c.fault) := tl_cell (j := 3) hcx rfl
      clear hcx hA11 hn11 hb11 hB1112 hB12 hW12 hBB hr2
      go_upto_region 14 with fail
      rw [← HWE12.out, ← HBBE.out]
      clear HWE12 HBBE
      go_wp2_with fail
      refine HDI.out.mono ?_
      rintro e w13 ⟨rfl, hb13⟩
      simp only
      obtain ⟨W14, hW14⟩ : ∃ W14, W14 = w13.alloc (.cells #[.slice none 0 0, .int .i64 0, .bool false, .int .i64 0] 49) := ⟨_, rfl⟩
      have HWE14 := hid hW14
      have hB14 : Below W12.heap.size W12 W14 := by rw [hW14]; exact hb13.alloc hb13.size _
      have HB14 := hid (show Below w.heap.size w W14 from (((HB8.out.trans (HB10.out.mono HB8.out.size)).trans (HB12.out.mono (Nat.le_trans HB8.out.size HB10.out.size)))).trans (hB14.mono (Nat.le_trans (Nat.le_trans HB8.out.size HB10.out.size) HB12.out.size)))
      have hkx := tl_low hB14 (tl_low HB12.out (tl_low HB10.out HKX.out))
      have t0 : W14.cell? ⟨KB, 0, none⟩ = some (.int .i64 K.kind) := tl_cell (j := 0) hkx rfl
      have hax := tl_low hB14 (tl_low HB12.out HX10.out)
      have u0 : W14.cell? ⟨AB, 0, none⟩ = some (.slice a9 d1.acts.length k9) := tl_cell (j := 0) hax rfl
      have u1 : W14.cell? ⟨AB, 1, none⟩ = some (.int .i64 d1.flags) := tl_cell (j := 1) hax rfl
      have u2 : W14.cell? ⟨AB, 2, none⟩ = some (.bool d1.asked) := tl_cell (j := 2) hax rfl
      have u3 : W14.cell? ⟨AB, 3, none⟩ = some (.int .i64 d1.fault) := tl_cell (j := 3) hax rfl
      have hbx := tl_low hB14 HX12.out
      have v0 : W14.cell? ⟨BB, 0, none⟩ = some (.slice a11 d2.acts.length k11) := tl_cell (j := 0) hbx rfl
      have v1 : W14.cell? ⟨BB, 1, none⟩ = some (.int .i64 d2.flags) := tl_cell (j := 1) hbx rfl
      have v2 : W14.cell? ⟨BB, 2, none⟩ = some (.bool d2.asked) := tl_cell (j := 2) hbx rfl
      have v3 : W14.cell? ⟨BB, 3, none⟩ = some (.int .i64 d2.fault) := tl_cell (j := 3) hbx rfl
      have HA14 := hid (AtnsM.next (AtnsM.next HA10.out HB12.out) hB14)
      have HB14a := hid (AtnsM.next HA12.out hB14)
      clear hkx hax hbx hb13 hW14 hB14
      go_upto_region 15 with fail
      rw [← HWE14.out]
      clear HWE14
      rcases HEQ.out with ⟨h7, h | ⟨h1, h2⟩⟩ | ⟨h7, h2⟩
      · obtain ⟨h1, h2, h3⟩ := h
        subst h1 h2
        have k7 : (K.kind == 7) = true := by simpa using h7
        have k9 : (d2.fault == 9) = true := by simpa using h3
        have H7 := hid h7
        have H3 := hid h3
        clear h7 h3
        go_wp2
        go_ret
        exact ⟨by first | rfl | simp [*], HB14.out⟩
      · cases h2
        subst h1
        have k7 : (K.kind == 7) = true := by simpa using h7
        have H7 := hid h7
        have HSC := hid (sameCourse_any a9 a11 k9 k11 d1 W14 HA14.out HB14a.out HR1.out.1)
        clear h7
        go_wp2_with fail
        refine HSC.out.mono ?_
        rintro e w15 ⟨rfl, hb15⟩
        simp only
        have HB15 := hid (show Below w.heap.size w w15 from HB14.out.trans (hb15.mono HB14.out.size))
        clear hb15
        go_wp2
        go_ret
        exact ⟨by first | rfl | simp, HB15.out⟩
      · cases h2
        have k7 : (K.kind == 7) = false := by simpa using h7
        have H7 := hid h7
        have HSC := hid (sameCourse_any a9 a11 k9 k11 d1 W14 HA14.out HB14a.out HR1.out.1)
        clear h7
        cases o1
        · go_wp2_with fail
          refine HSC.out.mono ?_
          rintro e w15 ⟨rfl, hb15⟩
          simp only
          have HB15 := hid (show Below w.heap.size w w15 from HB14.out.trans (hb15.mono HB14.out.size))
          clear hb15
          go_wp2
          go_ret
          exact ⟨by first | rfl | simp, HB15.out⟩
        · go_wp2_with fail
          refine HSC.out.mono ?_
          rintro e w15 ⟨rfl, hb15⟩
          simp only
          have HB15 := hid (show Below w.heap.size w w15 from HB14.out.trans (hb15.mono HB14.out.size))
          clear hb15
          go_wp2
          go_ret
          exact ⟨by first | rfl | simp, HB15.out⟩
end Go.Proofs.YtiefkkmkhhannaaGreatDoor
