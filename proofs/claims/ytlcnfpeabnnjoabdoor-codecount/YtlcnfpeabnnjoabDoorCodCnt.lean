/-
  What the laws count in a script: the walks.
-/
import Derived.Test.YtlcnfpeabnnjoabDoorCodCo
namespace Go.Proofs.YtlcnfpeabnnjoabDoor
open Go.RowKit Go.Proofs

theorem sum_snoc {A : Type} {f : A → Nat} {l : List A} {m : Nat} {x : A} (hx : l[m]? = some x) : ((l.take (m + 1)).map f).sum = ((l.take m).map f).sum + f x := by
  rw [List.take_add_one, hx]
  simp
theorem sum_take {A : Type} {f : A → Nat} (l : List A) (m : Nat) : ((l.take m).map f).sum ≤ (l.map f).sum := by
  have h : (l.map f).sum = ((l.take m ++ l.drop m).map f).sum := by rw [List.take_append_drop]
  rw [h, List.map_append, List.sum_append]
  omega
theorem leaf_le {n : Nat} {t : Tst} (h : shT n t) : leavesP n t ≤ (testT n t).length := by
  have h1 := (tst_count n t h 0).1
  have h2 := tst_tok n t 0
  have h3 : asksN (oTst n t 0) ≤ (oTst n t 0).length := List.countP_le_length
  omega
theorem tests_sum {n : Nat} {t : Tst} (h0 : t.tests.length ≠ 0) : leavesP (n + 1) t = (t.tests.map (leavesP n)).sum := by
  rw [leavesP, if_neg h0]
def LvW (n : Nat) : Prop := ∀ (t : Tst) (an ak at' : Option Addr) (cn ck ct : Nat) (w : World), TstM anyB n w t [.int .i64 t.kind, .int .i64 t.mat, .int .i64 t.part, .slice an t.names.length cn, .slice ak t.keys.length ck, .bool t.over, .int .i64 t.limit, .slice at' t.tests.length ct] → shT n t → FitT n t → leavesP n t ≤ 1000 →
    Calls Tryd.prog 12 #[.agg #[.int .i64 t.kind, .int .i64 t.mat, .int .i64 t.part, .slice an t.names.length cn, .slice ak t.keys.length ck, .bool t.over, .int .i64 t.limit, .slice at' t.tests.length ct]] w fun e w' => e = .returned (.int .i64 (leavesP n t : Int)) ∧ Below w.heap.size w w'
set_option maxHeartbeats 1000000 in
set_option maxRecDepth 100000 in
theorem leaves_step (n : Nat) (ih : LvW n) : LvW (n + 1) := by
  intro t an ak at' cn ck ct w hM hS hF hle
  obtain ⟨vn, vk, vt, e8, _, _, hR⟩ := hM
  simp only [List.cons.injEq, true_and, and_true] at e8
  obtain ⟨rfl, rfl, rfl⟩ := e8
  obtain ⟨W1, hW1⟩ : ∃ W1, W1 = w.alloc (.cells #[.int .i64 t.kind, .int .i64 t.mat, .int .i64 t.part, .slice an t.names.length cn, .slice ak t.keys.length ck, .bool t.over, .int .i64 t.limit, .slice at' t.tests.length ct] 32) := ⟨_, rfl⟩
  have HWE := hid hW1
  have hal : Below w.heap.size w W1 := by rw [hW1]; exact (Below.refl _ _).alloc (Nat.le_refl _) _
  have HB1 := hid hal
  have HBX := hid (show W1.heap[w.heap.size]? = some (.cells #[.int .i64 t.kind, .int .i64 t.mat, .int .i64 t.part, .slice an t.names.length cn, .slice ak t.keys.length ck, .bool t.over, .int .i64 t.limit, .slice at' t.tests.length ct] 32) by rw [hW1]; exact heap_alloc_new w _)
  have HR := hid (TstsM.next hR hal)
  have HSS := hid hS
  have hln := (fit_head hF).2.2.1
  have HFT := hid hF.2
  have hbx := HBX.out
  rw [hW1] at hbx
  have x7 := gm_cell (j := 7) hbx rfl
  clear hbx hR hS hF hal hW1
  by_cases h0 : t.tests.length = 0
  · have h0' : ((t.tests.length : Int) == 0) = true := by simp [h0]
    have HE := hid (show leavesP (n + 1) t = 1 by rw [leavesP, if_pos h0])
    clear h0
    go_enter Tryd.func12, Tryd.ntmps12
    go_wp2
    rw [← HWE.out]
    go_ret
    exact ⟨by rw [HE.out]; rfl, HB1.out⟩
  · have h0' : ((t.tests.length : Int) == 0) = false := by rw [beq_eq_false_iff_ne]; omega
    have HE := hid (tests_sum (n := n) h0)
    have HLE := hid (show (t.tests.map (leavesP n)).sum ≤ 1000 by rw [← tests_sum (n := n) h0]; exact hle)
    clear h0 hle
    go_enter Tryd.func12, Tryd.ntmps12
    go_wp2
    rw [← HWE.out]
    go_loopw [3, 4] (fun s i wr => ∃ m : Nat, m ≤ t.tests.length ∧ i = .int .i64 m ∧ s = .int .i64 (((t.tests.take m).map (leavesP n)).sum : Nat) ∧ Hid (Below W1.heap.size W1 wr)) (fun _ i _ => t.tests.length - (intOf i).toNat)
    case atStart => exact ⟨0, Nat.zero_le _, rfl, rfl, hid (Below.refl _ _)⟩
    case round =>
      obtain ⟨m, hm, rfl, rfl, HI⟩ := hrel
      have y7 := gm_cell (j := 7) (gm_low HI.out HBX.out) rfl
      by_cases hlm : m < t.tests.length
      · have i1 : (m : Int) < (t.tests.length : Int) := by omega
        have i3 : (0 : Int) ≤ (m : Int) := by omega
        obtain ⟨x, hx⟩ : ∃ x, t.tests[m]? = some x := ⟨_, List.getElem?_eq_getElem hlm⟩
        obtain ⟨b', o, an', ak', at2, cn', ck', ct', rfl, hb', hTx, z0, z1, z2, z3, z4, z5, z6, z7⟩ := tstO_at (b := W1.heap.size) HI.out (Nat.le_refl _) HR.out hx
        obtain ⟨S0, hS0⟩ : ∃ S0, S0 = ((t.tests.take m).map (leavesP n)).sum := ⟨_, rfl⟩
        have hsn := sum_snoc (f := leavesP n) hx
        have hst := sum_take (f := leavesP n) t.tests (m + 1)
        obtain ⟨y, hy⟩ : ∃ y, y = leavesP n x := ⟨_, rfl⟩
        rw [← hS0, ← hy] at hsn
        have hb1 : S0 + y ≤ 1000 := by have := HLE.out; omega
        have hshx : shT n x := HSS.out.2.2.2 x (List.mem_of_getElem? hx)
        have HNX := hid hsn
        have HLV := hid (show Calls Tryd.prog 12 #[.agg #[.int .i64 x.kind, .int .i64 x.mat, .int .i64 x.part, .slice an' x.names.length cn', .slice ak' x.keys.length ck', .bool x.over, .int .i64 x.limit, .slice at2 x.tests.length ct']] wr fun e w' => e = .returned (.int .i64 (y : Int)) ∧ Below wr.heap.size wr w' by
          rw [hy]
          exact ih x an' ak' at2 cn' ck' ct' wr (TstM.next hTx HI.out) hshx (HFT.out x (List.mem_of_getElem? hx)) (by omega))
        rw [← hS0]
        clear hTx hx hsn hst hS0 hy hshx
        go_wp2_with fail
        refine HLV.out.mono ?_
        rintro e w3 ⟨rfl, hb3⟩
        have HN := hid (HI.out.trans (hb3.mono HI.out.size))
        clear hb3 y7 z0 z1 z2 z3 z4 z5 z6 z7
        go_wp2
        go_roundw
        case rel => exact ⟨m + 1, by omega, by go_num, by rw [HNX.out]; go_num, HN⟩
        case measure => simp [intOf]; omega
      · have i1 : ¬ (m : Int) < (t.tests.length : Int) := by omega
        obtain rfl : m = t.tests.length := by omega
        rw [List.take_length]
        have HEND := hid (HB1.out.trans (HI.out.mono HB1.out.size))
        go_wp2
        go_ret
        exact ⟨by rw [HE.out]; rfl, HEND.out⟩
theorem leaves_any : ∀ n, LvW n := by
  intro n
  induction n with
  | zero => exact fun _ _ _ _ _ _ _ _ hM => hM.elim
  | succ n ih => exact leaves_step n ih
/-- Commands whose tests have as many others in them as their kinds have. -/
def CnC : Nat → Cmd → Prop
  | 0, _ => True
  | n + 1, c => c.kind = 2 → (shT n c.test ∧ FitT n c.test) ∧ (∀ x ∈ c.thn, CnC n x) ∧ ∀ x ∈ c.els, CnC n x
/-- Their lists are not too long. -/
def LnC : Nat → Cmd → Prop
  | 0, _ => True
  | n + 1, c => c.kind = 2 → c.thn.length ≤ 1000 ∧ c.els.length ≤ 1000 ∧ (∀ x ∈ c.thn, n ≠ 0 → LnC n x) ∧ ∀ x ∈ c.els, n ≠ 0 → LnC n x
def CntW (n : Nat) : Prop := ∀ (l : List Cmd) (a : Option Addr) (k : Nat) (w : World), CmdsM anyB n w (.slice a l.length k) l → (∀ c ∈ l, CnC n c) → l.length ≤ 1000 → (l.map (cntD n)).sum ≤ 1000 → (l.map (cntA n)).sum ≤ 1000 → (∀ c ∈ l, n ≠ 0 → LnC n c) →
    Calls Tryd.prog 6 #[.slice a l.length k] w fun e w' => e = .returned (.tuple #[.int .i64 ((l.map (cntD n)).sum : Nat), .int .i64 ((l.map (cntA n)).sum : Nat)]) ∧ Below w.heap.size w w'
set_option maxHeartbeats 1000000 in
set_option maxRecDepth 100000 in
theorem counted_step (n : Nat) (ih : ∀ q, n = q + 1 → CntW q) : CntW n := by
  intro l a k w hM hF hl hd hA hln
  have HM := hid hM
  have HF := hid hF
  have HLN := hid hln
  have HD := hid hd
  have HAA := hid hA
  clear hM hF hln hd hA
  go_enter Tryd.func6, Tryd.ntmps6
  go_wp2
  go_loopw [4, 5, 6] (fun d s i wr => ∃ m : Nat, m ≤ l.length ∧ i = .int .i64 m ∧ d = .int .i64 (((l.take m).map (cntD n)).sum : Nat) ∧ s = .int .i64 (((l.take m).map (cntA n)).sum : Nat) ∧ Hid (Below w.heap.size w wr)) (fun _ _ i _ => l.length - (intOf i).toNat)
  case atStart => exact ⟨0, Nat.zero_le _, rfl, rfl, rfl, hid (Below.refl _ _)⟩
  case round =>
    obtain ⟨m, hm, rfl, rfl, rfl, HI⟩ := hrel
    by_cases hlm : m < l.length
    · have i1 : (m : Int) < (l.length : Int) := by omega
      have i3 : (0 : Int) ≤ (m : Int) := by omega
      obtain ⟨x, hx⟩ : ∃ x, l[m]? = some x := ⟨_, List.getElem?_eq_getElem hlm⟩
      obtain ⟨b', o, ax, an, ak, at', aa, ae, cx, cn, ck, ct, ca, ce, rfl, hb', hCx, y0, y1, y2, y3, y4, y5, y6, y7, y8, y9, y10, y11⟩ := cmdO_at (w := w) (b := w.heap.size) (Below.refl _ _) (Nat.le_refl _) HM.out hx
      have HY0 := hid y0
      have HY2 := hid y2
      have HY3 := hid y3
      have HY4 := hid y4
      have HY5 := hid y5
      have HY6 := hid y6
      have HY7 := hid y7
      have HY8 := hid y8
      have HY9 := hid y9
      have HY10 := hid y10
      have HY11 := hid y11
      clear y0 y1 y2 y3 y4 y5 y6 y7 y8 y9 y10 y11
      have y0 := low_cell HI.out (Nat.le_refl _) HY0.out
      have y10 := low_cell HI.out (Nat.le_refl _) HY10.out
      obtain ⟨q, rfl⟩ : ∃ q, n = q + 1 := by
        cases n with
        | zero => exact hCx.elim
        | succ q => exact ⟨q, rfl⟩
      have hsd := sum_snoc (f := cntD (q + 1)) hx
      have hsa := sum_snoc (f := cntA (q + 1)) hx
      have htd := sum_take (f := cntD (q + 1)) l (m + 1)
      have hta := sum_take (f := cntA (q + 1)) l (m + 1)
      obtain ⟨D0, hD0⟩ : ∃ D0, D0 = ((l.take m).map (cntD (q + 1))).sum := ⟨_, rfl⟩
      obtain ⟨A0, hA0⟩ : ∃ A0, A0 = ((l.take m).map (cntA (q + 1))).sum := ⟨_, rfl⟩
      rw [← hD0] at hsd
      rw [← hA0] at hsa
      have hbd : D0 + cntD (q + 1) x ≤ 1000 := by have := HD.out; omega
      have hba : A0 + cntA (q + 1) x ≤ 1000 := by have := HAA.out; omega
      have HSD := hid hsd
      have HSA := hid hsa
      have hCN := HF.out x (List.mem_of_getElem? hx)
      have hLN := HLN.out x (List.mem_of_getElem? hx) (by omega)
      rw [← hD0, ← hA0]
      by_cases k2 : x.kind = 2
      · have c2 : (x.kind == 2) = true := by simp [k2]
        obtain ⟨⟨hsT, hfT⟩, hcA, hcE⟩ := hCN k2
        obtain ⟨hlA, hlE, hnA, hnE⟩ := hLN k2
        obtain ⟨_, _, _, _, _, _, e8, _, hT, hA', hE'⟩ := hCx
        simp only [List.cons.injEq, true_and, and_true] at e8
        obtain ⟨rfl, rfl, rfl, rfl, rfl, rfl⟩ := e8
        have ed : cntD (q + 1) x = (x.thn.map (cntD q)).sum + (x.els.map (cntD q)).sum := by rw [cntD, if_pos k2]
        have ea : cntA (q + 1) x = (x.thn.map (cntA q)).sum + (x.els.map (cntA q)).sum + leavesP q x.test := by rw [cntA, if_pos k2]
        rw [ed] at hbd HSD
        rw [ea] at hba HSA
        obtain ⟨d1, hd1⟩ : ∃ d1, d1 = (x.thn.map (cntD q)).sum := ⟨_, rfl⟩
        obtain ⟨d2, hd2⟩ : ∃ d2, d2 = (x.els.map (cntD q)).sum := ⟨_, rfl⟩
        obtain ⟨s1, hs1⟩ : ∃ s1, s1 = (x.thn.map (cntA q)).sum := ⟨_, rfl⟩
        obtain ⟨s2, hs2⟩ : ∃ s2, s2 = (x.els.map (cntA q)).sum := ⟨_, rfl⟩
        obtain ⟨s3, hs3⟩ : ∃ s3, s3 = leavesP q x.test := ⟨_, rfl⟩
        rw [← hd1, ← hd2] at hbd HSD
        rw [← hs1, ← hs2, ← hs3] at hba HSA
        have HC1 := hid (show Calls Tryd.prog 6 #[.slice aa x.thn.length ca] wr fun e w' => e = .returned (.tuple #[.int .i64 (d1 : Nat), .int .i64 (s1 : Nat)]) ∧ Below wr.heap.size wr w' by
          rw [hd1, hs1]
          exact ih q rfl x.thn aa ca wr (CmdsM.next hA' HI.out) hcA hlA (by omega) (by omega) hnA)
        have HC2 := hid (show ∀ u, Below w.heap.size w u → Calls Tryd.prog 6 #[.slice ae x.els.length ce] u fun e w' => e = .returned (.tuple #[.int .i64 (d2 : Nat), .int .i64 (s2 : Nat)]) ∧ Below u.heap.size u w' from fun u hu => by
          rw [hd2, hs2]
          exact ih q rfl x.els ae ce u (CmdsM.next hE' hu) hcE hlE (by omega) (by omega) hnE)
        have HC3 := hid (show ∀ u, Below w.heap.size w u → Calls Tryd.prog 12 #[.agg #[.int .i64 x.test.kind, .int .i64 x.test.mat, .int .i64 x.test.part, .slice an x.test.names.length cn, .slice ak x.test.keys.length ck, .bool x.test.over, .int .i64 x.test.limit, .slice at' x.test.tests.length ct]] u fun e w' => e = .returned (.int .i64 (s3 : Int)) ∧ Below u.heap.size u w' from fun u hu => by
          rw [hs3]
          exact leaves_any q x.test an ak at' cn ck ct u (TstM.next hT hu) hsT hfT (by omega))
        have HXM := hid hx
        have HB' := hid hb'
        clear hCN hLN hsT hfT hcA hcE hlA hlE hnA hnE hT hA' hE' ed ea hd1 hd2 hs1 hs2 hs3 hx hsd hsa htd hta hD0 hA0 k2
        go_wp2_with fail
        refine HC1.out.mono ?_
        rintro e w1 ⟨rfl, hb1⟩
        simp only
        have HI1 := hid (HI.out.trans (hb1.mono HI.out.size))
        have y11 := low_cell HI1.out (Nat.le_refl _) HY11.out
        have HC2' := hid (HC2.out w1 HI1.out)
        clear hb1 y0 y10
        go_wp2_with fail
        refine HC2'.out.mono ?_
        rintro e w2 ⟨rfl, hb2⟩
        simp only
        have HI2 := hid (HI1.out.trans (hb2.mono HI1.out.size))
        have y2 := low_cell HI2.out (Nat.le_refl _) HY2.out
        have y3 := low_cell HI2.out (Nat.le_refl _) HY3.out
        have y4 := low_cell HI2.out (Nat.le_refl _) HY4.out
        have y5 := low_cell HI2.out (Nat.le_refl _) HY5.out
        have y6 := low_cell HI2.out (Nat.le_refl _) HY6.out
        have y7 := low_cell HI2.out (Nat.le_refl _) HY7.out
        have y8 := low_cell HI2.out (Nat.le_refl _) HY8.out
        have y9 := low_cell HI2.out (Nat.le_refl _) HY9.out
        have HC3' := hid (HC3.out w2 HI2.out)
        clear hb2 y11
        go_wp2_with fail
        refine HC3'.out.mono ?_
        rintro e w3 ⟨rfl, hb3⟩
        have HI3 := hid (HI2.out.trans (hb3.mono HI2.out.size))
        clear hb3 y2 y3 y4 y5 y6 y7 y8 y9
        go_wp2
        go_roundw
        case rel => exact ⟨m + 1, by omega, by go_num, by rw [HSD.out]; go_num, by rw [HSA.out]; go_num, HI3⟩
        case measure => simp [intOf]; omega
      · have c2 : (x.kind == 2) = false := by simp [k2]
        have ed : cntD (q + 1) x = 1 := by rw [cntD, if_neg k2]
        have ea : cntA (q + 1) x = 0 := by rw [cntA, if_neg k2]
        rw [ed] at hbd HSD
        rw [ea] at hba HSA
        clear hCN hLN hCx ed ea hx hsd hsa htd hta hD0 hA0 k2
        go_wp2
        go_roundw
        case rel => exact ⟨m + 1, by omega, by go_num, by rw [HSD.out]; go_num, by rw [HSA.out]; go_num, HI⟩
        case measure => simp [intOf]; omega
    · have i1 : ¬ (m : Int) < (l.length : Int) := by omega
      obtain rfl : m = l.length := by omega
      rw [List.take_length]
      go_wp2
      go_ret2
      exact ⟨rfl, HI.out⟩
end Go.Proofs.YtlcnfpeabnnjoabDoor
