/-
  Not is the other thing; all of them is not that one of them is not: walked.
-/
import Derived.Test.YtmnlaijggoojkaaGreatDoorAskNot
import Derived.Test.YtmnlaijggoojkaaGreatDoorLtrMsg
import Derived.Deep.RegionLaw
import Derived.Deep.RegionHeld3
import Derived.Deep.DeepCutAuto
namespace Go.Proofs.YtmnlaijggoojkaaGreatDoor
open Go.RowKit Go.Proofs

theorem tst_shape {Q : Nat → Prop} {n : Nat} {w : World} {t : Tst} {cs : List Value} (h : TstM Q n w t cs) : ∃ an cn ak ck at' ct, cs = [.int .i64 t.kind, .int .i64 t.mat, .int .i64 t.part, .slice an t.names.length cn, .slice ak t.keys.length ck, .bool t.over, .int .i64 t.limit, .slice at' t.tests.length ct] := by
  obtain ⟨an, cn, ak, ck, at', ct, _, _, e, _⟩ := tst_form h
  exact ⟨an, cn, ak, ck, at', ct, e⟩
set_option maxHeartbeats 2000000 in
set_option maxRecDepth 100000 in
theorem askLogic_walk (w : World) (hm : TabsM w) (fl fd fg tl td tg : ByteArray) (a : Option Addr) (c : Nat) (fs : List F) (body : ByteArray) (hF : FieldsAt w a fs) (hL : fs.length ≤ maxLen) (hB : ∀ f ∈ fs, f.1.length ≤ maxLen ∧ f.2.length ≤ maxLen) (hY : body.size ≤ maxLen) (s1 : fl.size ≤ maxLen) (s2 : fd.size ≤ maxLen) (s3 : tl.size ≤ maxLen) (s4 : td.size ≤ maxLen) (x : Stk) (nx : Nat) (cx : List Value) (hx : StkM nx w x cx) (y : Stk) (ny : Nat) (cy : List Value) (hy : StkM ny w y cy) :
    Calls Tryz.prog 3 #[.agg #[.string fl, .string fd, .string fg, .string tl, .string td, .string tg, .slice a fs.length c, .string body], .agg cx.toArray, .agg cy.toArray] w fun e w' => e = .returned (.bool true) ∧ Below w.heap.size w w' := by
  have HM := hid hm
  have HX := hid hx
  have HY' := hid hy
  obtain ⟨ax, kx, ex⟩ := stk_form hx
  obtain ⟨ay, ky, ey⟩ := stk_form hy
  subst ex
  subst ey
  obtain ⟨o, ho⟩ : ∃ o, o = ltrO fl fd tl td fs body := ⟨_, rfl⟩
  have HO := hid (show Opened o by rw [ho]; exact ltr_opened _ _ _ _ _ _)
  obtain ⟨W0, hW0⟩ : ∃ W0, W0 = ((w.alloc (.cells #[.string fl, .string fd, .string fg, .string tl, .string td, .string tg, .slice a fs.length c, .string body] 26)).alloc (.cells #[.int .i64 x.kind, .int .i64 x.a, .int .i64 x.b, .string (S x.s), .string (S x.t), .slice ax x.ins.length kx] 29)).alloc (.cells #[.int .i64 y.kind, .int .i64 y.a, .int .i64 y.b, .string (S y.s), .string (S y.t), .slice ay y.ins.length ky] 29) := ⟨_, rfl⟩
  have HWE := hid hW0
  have HB0 := hid (show Below w.heap.size w W0 by rw [hW0]; exact (((Below.refl _ _).alloc (Nat.le_refl _) _).alloc (by simp) _).alloc (by simp; omega) _)
  have HXB := hid (show W0.heap[w.heap.size + 1]? = some (.cells #[.int .i64 x.kind, .int .i64 x.a, .int .i64 x.b, .string (S x.s), .string (S x.t), .slice ax x.ins.length kx] 29) by rw [hW0]; exact heap_old _ (heap_at _ (by simp)))
  have HYB := hid (show W0.heap[w.heap.size + 1 + 1]? = some (.cells #[.int .i64 y.kind, .int .i64 y.a, .int .i64 y.b, .string (S y.s), .string (S y.t), .slice ay y.ins.length ky] 29) by rw [hW0]; exact heap_at _ (by simp))
  have HLt := hid (show Calls Tryz.prog 9 #[.agg #[.string fl, .string fd, .string fg, .string tl, .string td, .string tg, .slice a fs.length c, .string body]] W0 (LtrP W0 o) by
    rw [ho]
    exact letter_ok fl fd fg tl td tg a c fs body W0 (hF.below HB0.out) hL hB hY s1 s2 s3 s4 (maxLenCell_below hm.2 HB0.out))
  clear hm hx hy hF hL hB hY s1 s2 s3 s4 hW0 ho
  go_enter Tryz.func3, Tryz.ntmps3
  go_wp2_with fail
  rw [← HWE.out]
  refine HLt.out.mono ?_
  rintro e w1 ⟨he, hb1⟩
  rw [show e = .returned (.tuple #[.agg #[.string (S o.fl), .string (S o.fd), .string (S o.tl), .string (S o.td), .string (S o.tx)], .bool true]) from he]
  simp only
  obtain ⟨W1, hW1⟩ : ∃ W1, W1 = w1.alloc (.cells #[.string (S o.fl), .string (S o.fd), .string (S o.tl), .string (S o.td), .string (S o.tx)] 33) := ⟨_, rfl⟩
  have HWE1 := hid hW1
  have hal : Below w1.heap.size w1 W1 := by rw [hW1]; exact (Below.refl _ _).alloc (Nat.le_refl _) _
  have hb01 := hb1.trans (hal.mono hb1.size)
  have HB1 := hid (HB0.out.trans (hb01.mono HB0.out.size))
  have HX1 := hid (tl_low hb01 HXB.out)
  have HY1 := hid (tl_low hb01 HYB.out)
  obtain ⟨LB, hLB⟩ : ∃ LB, LB = w1.heap.size := ⟨_, rfl⟩
  have HLB := hid hLB
  have HL1 := hid (show W1.heap[LB]? = some (.cells #[.string (S o.fl), .string (S o.fd), .string (S o.tl), .string (S o.td), .string (S o.tx)] 33) by rw [hW1, hLB]; exact tl_at _ rfl)
  have HTX := hid (show Calls Tryz.prog 10 #[.agg #[.int .i64 x.kind, .int .i64 x.a, .int .i64 x.b, .string (S x.s), .string (S x.t), .slice ax x.ins.length kx], .int .i64 3] W1 (TestP 1 W1) from test3 nx x _ W1 (StkM.next HX.out HB1.out))
  have hX1 := HX1.out
  rw [HWE1.out] at hX1
  have x0 := tl_cell (j := 0) hX1 rfl
  have x1 := tl_cell (j := 1) hX1 rfl
  have x2 := tl_cell (j := 2) hX1 rfl
  have x3 := tl_cell (j := 3) hX1 rfl
  have x4 := tl_cell (j := 4) hX1 rfl
  have x5 := tl_cell (j := 5) hX1 rfl
  clear he hb1 hal hb01 hW1 hLB hX1 HWE HX1 HLt
  go_wp2_with fail
  rw [← HWE1.out, ← HLB.out]
  refine HTX.out.mono ?_
  rintro e w2 ⟨t, c2, he, hT, hNt, hb2⟩
  obtain ⟨ax1, kx1, ax2, kx2, ax3, kx3, ec⟩ := tst_shape hT
  subst ec
  rw [show e = .returned (.agg #[.int .i64 t.kind, .int .i64 t.mat, .int .i64 t.part, .slice ax1 t.names.length kx1, .slice ax2 t.keys.length kx2, .bool t.over, .int .i64 t.limit, .slice ax3 t.tests.length kx3]) from he]
  simp only
  obtain ⟨W2, hW2⟩ : ∃ W2, W2 = w2.alloc (.cells #[.int .i64 t.kind, .int .i64 t.mat, .int .i64 t.part, .slice ax1 t.names.length kx1, .slice ax2 t.keys.length kx2, .bool t.over, .int .i64 t.limit, .slice ax3 t.tests.length kx3] 39) := ⟨_, rfl⟩
  have HWE2 := hid hW2
  have hal : Below w2.heap.size w2 W2 := by rw [hW2]; exact (Below.refl _ _).alloc (Nat.le_refl _) _
  have hb12 := hb2.trans (hal.mono hb2.size)
  have HB2 := hid (HB1.out.trans (hb12.mono HB1.out.size))
  have HY2 := hid (tl_low hb12 HY1.out)
  have HL2 := hid (tl_low hb12 HL1.out)
  have HT2 := hid (show TstM anyB 1 W2 t #[.int .i64 t.kind, .int .i64 t.mat, .int .i64 t.part, .slice ax1 t.names.length kx1, .slice ax2 t.keys.length kx2, .bool t.over, .int .i64 t.limit, .slice ax3 t.tests.length kx3].toList from TstM.imp (fun _ _ => trivial) (Keeps.of_below hal) _ _ _ hT)
  have HNT := hid hNt
  obtain ⟨AB, hAB⟩ : ∃ AB, AB = w2.heap.size := ⟨_, rfl⟩
  have HAB := hid hAB
  have HA2 := hid (show W2.heap[AB]? = some (.cells #[.int .i64 t.kind, .int .i64 t.mat, .int .i64 t.part, .slice ax1 t.names.length kx1, .slice ax2 t.keys.length kx2, .bool t.over, .int .i64 t.limit, .slice ax3 t.tests.length kx3] 39) by rw [hW2, hAB]; exact tl_at _ rfl)
  have HTY := hid (show Calls Tryz.prog 10 #[.agg #[.int .i64 y.kind, .int .i64 y.a, .int .i64 y.b, .string (S y.s), .string (S y.t), .slice ay y.ins.length ky], .int .i64 3] W2 (TestP 1 W2) from test3 ny y _ W2 (StkM.next HY'.out HB2.out))
  have hY2 := HY2.out
  rw [HWE2.out] at hY2
  have y0 := tl_cell (j := 0) hY2 rfl
  have y1 := tl_cell (j := 1) hY2 rfl
  have y2 := tl_cell (j := 2) hY2 rfl
  have y3 := tl_cell (j := 3) hY2 rfl
  have y4 := tl_cell (j := 4) hY2 rfl
  have y5 := tl_cell (j := 5) hY2 rfl
  clear he hT hNt hb2 hal hb12 hW2 hAB hY2 x0 x1 x2 x3 x4 x5 HWE1 HLB HTX
  go_wp2_with fail
  rw [← HWE2.out, ← HAB.out]
  refine HTY.out.mono ?_
  rintro e w3 ⟨u, c3, he, hT, hNu, hb3⟩
  obtain ⟨ay1, ky1, ay2, ky2, ay3, ky3, ec⟩ := tst_shape hT
  subst ec
  rw [show e = .returned (.agg #[.int .i64 u.kind, .int .i64 u.mat, .int .i64 u.part, .slice ay1 u.names.length ky1, .slice ay2 u.keys.length ky2, .bool u.over, .int .i64 u.limit, .slice ay3 u.tests.length ky3]) from he]
  simp only
  obtain ⟨W3, hW3⟩ : ∃ W3, W3 = w3.alloc (.cells #[.int .i64 u.kind, .int .i64 u.mat, .int .i64 u.part, .slice ay1 u.names.length ky1, .slice ay2 u.keys.length ky2, .bool u.over, .int .i64 u.limit, .slice ay3 u.tests.length ky3] 39) := ⟨_, rfl⟩
  have HWE3 := hid hW3
  have hal : Below w3.heap.size w3 W3 := by rw [hW3]; exact (Below.refl _ _).alloc (Nat.le_refl _) _
  have hb23 := hb3.trans (hal.mono hb3.size)
  have HB3 := hid (HB2.out.trans (hb23.mono HB2.out.size))
  have HL3 := hid (tl_low hb23 HL2.out)
  have HA3 := hid (tl_low hb23 HA2.out)
  have HT3 := hid (TstM.next HT2.out hb23)
  have HU3 := hid (show TstM anyB 1 W3 u #[.int .i64 u.kind, .int .i64 u.mat, .int .i64 u.part, .slice ay1 u.names.length ky1, .slice ay2 u.keys.length ky2, .bool u.over, .int .i64 u.limit, .slice ay3 u.tests.length ky3].toList from TstM.imp (fun _ _ => trivial) (Keeps.of_below hal) _ _ _ hT)
  have HNU := hid hNu
  obtain ⟨BB, hBB⟩ : ∃ BB, BB = w3.heap.size := ⟨_, rfl⟩
  have HBB := hid hBB
  have HC3 := hid (show W3.heap[BB]? = some (.cells #[.int .i64 u.kind, .int .i64 u.mat, .int .i64 u.part, .slice ay1 u.names.length ky1, .slice ay2 u.keys.length ky2, .bool u.over, .int .i64 u.limit, .slice ay3 u.tests.length ky3] 39) by rw [hW3, hBB]; exact tl_at _ rfl)
  have HAT := hid (show ∀ v : World, Below W3.heap.size W3 v → Calls Tryz.prog 12 #[.agg #[.int .i64 t.kind, .int .i64 t.mat, .int .i64 t.part, .slice ax1 t.names.length kx1, .slice ax2 t.keys.length kx2, .bool t.over, .int .i64 t.limit, .slice ax3 t.tests.length kx3], .agg #[.string (S o.fl), .string (S o.fd), .string (S o.tl), .string (S o.td), .string (S o.tx)]] v fun e w' => e = .returned (.tuple #[.bool (tellsP o 1 t), .int .i64 0]) ∧ Below v.heap.size v w' from fun v hv => ask_nt 0 (by omega) t o HO.out ax1 ax2 ax3 kx1 kx2 kx3 v (HM.out.1.next (HB3.out.trans (hv.mono HB3.out.size))) (maxLenCell_below HM.out.2 (HB3.out.trans (hv.mono HB3.out.size))) (TstM.next HT3.out hv) HNT.out (Nat.le_trans (leaf_short HT3.out HNT.out) (by omega)))
  have hL3 := HL3.out
  rw [HWE3.out] at hL3
  have l0 := tl_cell (j := 0) hL3 rfl
  have l1 := tl_cell (j := 1) hL3 rfl
  have l2 := tl_cell (j := 2) hL3 rfl
  have l3 := tl_cell (j := 3) hL3 rfl
  have l4 := tl_cell (j := 4) hL3 rfl
  have hA3 := HA3.out
  rw [HWE3.out] at hA3
  have a0 := tl_cell (j := 0) hA3 rfl
  have a1 := tl_cell (j := 1) hA3 rfl
  have a2 := tl_cell (j := 2) hA3 rfl
  have a3 := tl_cell (j := 3) hA3 rfl
  have a4 := tl_cell (j := 4) hA3 rfl
  have a5 := tl_cell (j := 5) hA3 rfl
  have a6 := tl_cell (j := 6) hA3 rfl
  have a7 := tl_cell (j := 7) hA3 rfl
  clear he hT hNu hb3 hal hb23 hW3 hBB hL3 hA3 y0 y1 y2 y3 y4 y5 HWE2 HAB HTY
  have HAU := hid (show ∀ v : World, Below W3.heap.size W3 v → Calls Tryz.prog 12 #[.agg #[.int .i64 u.kind, .int .i64 u.mat, .int .i64 u.part, .slice ay1 u.names.length ky1, .slice ay2 u.keys.length ky2, .bool u.over, .int .i64 u.limit, .slice ay3 u.tests.length ky3], .agg #[.string (S o.fl), .string (S o.fd), .string (S o.tl), .string (S o.td), .string (S o.tx)]] v fun e w' => e = .returned (.tuple #[.bool (tellsP o 1 u), .int .i64 0]) ∧ Below v.heap.size v w' from fun v hv => ask_nt 0 (by omega) u o HO.out ay1 ay2 ay3 ky1 ky2 ky3 v (HM.out.1.next (HB3.out.trans (hv.mono HB3.out.size))) (maxLenCell_below HM.out.2 (HB3.out.trans (hv.mono HB3.out.size))) (TstM.next HU3.out hv) HNU.out (Nat.le_trans (leaf_short HU3.out HNU.out) (by omega)))
  have HNA := hid (show ∀ v : World, Below W3.heap.size W3 v → Calls Tryz.prog 11 #[.agg #[.int .i64 t.kind, .int .i64 t.mat, .int .i64 t.part, .slice ax1 t.names.length kx1, .slice ax2 t.keys.length kx2, .bool t.over, .int .i64 t.limit, .slice ax3 t.tests.length kx3]] v (NotP v 1 t) from fun v hv => not_any v 1 t _ _ _ _ _ _ _ _ (TstM.next HT3.out hv))
  have HNB := hid (show ∀ v : World, Below W3.heap.size W3 v → Calls Tryz.prog 11 #[.agg #[.int .i64 u.kind, .int .i64 u.mat, .int .i64 u.part, .slice ay1 u.names.length ky1, .slice ay2 u.keys.length ky2, .bool u.over, .int .i64 u.limit, .slice ay3 u.tests.length ky3]] v (NotP v 1 u) from fun v hv => not_any v 1 u _ _ _ _ _ _ _ _ (TstM.next HU3.out hv))
  have HAN := hid (show ∀ (v : World) (P : Nat), Below W3.heap.size W3 v → TstM anyB 2 v (notT t) #[.int .i64 3, .int .i64 0, .int .i64 0, .slice none 0 0, .slice none 0 0, .bool false, .int .i64 0, .slice (some ⟨P, 0, none⟩) 1 1].toList → Calls Tryz.prog 12 #[.agg #[.int .i64 3, .int .i64 0, .int .i64 0, .slice none 0 0, .slice none 0 0, .bool false, .int .i64 0, .slice (some ⟨P, 0, none⟩) 1 1], .agg #[.string (S o.fl), .string (S o.fd), .string (S o.tl), .string (S o.td), .string (S o.tx)]] v fun e w' => e = .returned (.tuple #[.bool (!tellsP o 1 t), .int .i64 0]) ∧ Below v.heap.size v w' from fun v P hv hT => by
    rw [← tells_not]
    exact ask_nt 1 (by omega) (notT t) o HO.out none none (some ⟨P, 0, none⟩) 0 0 1 v (HM.out.1.next (HB3.out.trans (hv.mono HB3.out.size))) (maxLenCell_below HM.out.2 (HB3.out.trans (hv.mono HB3.out.size))) hT HNT.out.not (by rw [not_len]; exact Nat.le_trans (Nat.succ_le_succ (leaf_short HT3.out HNT.out)) (by omega)))
  have HAL := hid (show ∀ (v : World) (P : Nat), Below W3.heap.size W3 v → TstM anyB 2 v (allT t u) #[.int .i64 4, .int .i64 0, .int .i64 0, .slice none 0 0, .slice none 0 0, .bool false, .int .i64 0, .slice (some ⟨P, 0, none⟩) 2 2].toList → Calls Tryz.prog 12 #[.agg #[.int .i64 4, .int .i64 0, .int .i64 0, .slice none 0 0, .slice none 0 0, .bool false, .int .i64 0, .slice (some ⟨P, 0, none⟩) 2 2], .agg #[.string (S o.fl), .string (S o.fd), .string (S o.tl), .string (S o.td), .string (S o.tx)]] v fun e w' => e = .returned (.tuple #[.bool (tellsP o 1 t && tellsP o 1 u), .int .i64 0]) ∧ Below v.heap.size v w' from fun v P hv hT => by
    rw [← tells_all]
    have h1 := leaf_short HT3.out HNT.out
    have h2 := leaf_short HU3.out HNU.out
    have h3 : (testT (1 + 1) (allT t u)).length = (testT 1 t).length + (testT 1 u).length + 4 := two_len 1 4 (Or.inl rfl) t u
    exact ask_nt 1 (by omega) (allT t u) o HO.out none none (some ⟨P, 0, none⟩) 0 0 2 v (HM.out.1.next (HB3.out.trans (hv.mono HB3.out.size))) (maxLenCell_below HM.out.2 (HB3.out.trans (hv.mono HB3.out.size))) hT (HNT.out.two (Or.inl rfl) HNU.out) (by rw [h3]; omega))
  have HAO := hid (show ∀ (v : World) (P : Nat), Below W3.heap.size W3 v → TstM anyB 4 v (notT (anyT (notT t) (notT u))) #[.int .i64 3, .int .i64 0, .int .i64 0, .slice none 0 0, .slice none 0 0, .bool false, .int .i64 0, .slice (some ⟨P, 0, none⟩) 1 1].toList → Calls Tryz.prog 12 #[.agg #[.int .i64 3, .int .i64 0, .int .i64 0, .slice none 0 0, .slice none 0 0, .bool false, .int .i64 0, .slice (some ⟨P, 0, none⟩) 1 1], .agg #[.string (S o.fl), .string (S o.fd), .string (S o.tl), .string (S o.td), .string (S o.tx)]] v fun e w' => e = .returned (.tuple #[.bool (tellsP o 1 t && tellsP o 1 u), .int .i64 0]) ∧ Below v.heap.size v w' from fun v P hv hT => by
    have h1 := leaf_short HT3.out HNT.out
    have h2 := leaf_short HU3.out HNU.out
    have e1 : tellsP o (3 + 1) (notT (anyT (notT t) (notT u))) = (tellsP o 1 t && tellsP o 1 u) := by
      rw [tells_not, tells_or, tells_not, tells_not]
      cases tellsP o 1 t <;> cases tellsP o 1 u <;> rfl
    have h3 : (testT (2 + 1) (anyT (notT t) (notT u))).length = (testT 2 (notT t)).length + (testT 2 (notT u)).length + 4 := two_len 2 5 (Or.inr rfl) _ _
    have h4 : (testT (3 + 1) (notT (anyT (notT t) (notT u)))).length ≤ 390 := by
      rw [not_len, h3, not_len, not_len]
      omega
    rw [← e1]
    exact ask_nt 3 (by omega) (notT (anyT (notT t) (notT u))) o HO.out none none (some ⟨P, 0, none⟩) 0 0 1 v (HM.out.1.next (HB3.out.trans (hv.mono HB3.out.size))) (maxLenCell_below HM.out.2 (HB3.out.trans (hv.mono HB3.out.size))) hT (NT.not (NT.two (Or.inr rfl) HNT.out.not HNU.out.not)) h4)
  obtain ⟨p, hp⟩ : ∃ p, p = tellsP o 1 t := ⟨_, rfl⟩
  obtain ⟨q, hq⟩ : ∃ q, q = tellsP o 1 u := ⟨_, rfl⟩
  rw [← hp] at HAT HAN HAL HAO
  rw [← hq] at HAU HAL HAO
  clear hp hq
  have HAT3 := hid (HAT.out W3 (Below.refl _ _))
  go_wp2_with fail
  rw [← HWE3.out, ← HBB.out]
  refine HAT3.out.mono ?_
  rintro e w4 ⟨rfl, hb4⟩
  simp only
  have HB4 := hid hb4
  clear l0 l1 l2 l3 l4 a0 a1 a2 a3 a4 a5 a6 a7 hb4 HAT3 HWE3 HBB
  have hl := tl_low HB4.out HL3.out
  have l0 := tl_cell (j := 0) hl rfl
  have l1 := tl_cell (j := 1) hl rfl
  have l2 := tl_cell (j := 2) hl rfl
  have l3 := tl_cell (j := 3) hl rfl
  have l4 := tl_cell (j := 4) hl rfl
  clear hl
  have ha := tl_low HB4.out HA3.out
  have a0 := tl_cell (j := 0) ha rfl
  have a1 := tl_cell (j := 1) ha rfl
  have a2 := tl_cell (j := 2) ha rfl
  have a3 := tl_cell (j := 3) ha rfl
  have a4 := tl_cell (j := 4) ha rfl
  have a5 := tl_cell (j := 5) ha rfl
  have a6 := tl_cell (j := 6) ha rfl
  have a7 := tl_cell (j := 7) ha rfl
  clear ha
  have hb := tl_low HB4.out HC3.out
  have b0 := tl_cell (j := 0) hb rfl
  have b1 := tl_cell (j := 1) hb rfl
  have b2 := tl_cell (j := 2) hb rfl
  have b3 := tl_cell (j := 3) hb rfl
  have b4 := tl_cell (j := 4) hb rfl
  have b5 := tl_cell (j := 5) hb rfl
  have b6 := tl_cell (j := 6) hb rfl
  have b7 := tl_cell (j := 7) hb rfl
  clear hb
  have HN4 := hid (HNA.out w4.drew HB4.out.drew)
  clear b0 b1 b2 b3 b4 b5 b6 b7
  go_wp2
  go_cut [14, 15] (fun x y wx => x = .bool (!p) ∧ y = .int .i64 0 ∧ Hid (Below W3.heap.size W3 wx))
  case first =>
    go_region_held3 (fun w' => w'.cell? ⟨AB, 0, none⟩ = some (.int .i64 t.kind) ∧ w'.cell? ⟨AB, 1, none⟩ = some (.int .i64 t.mat) ∧ w'.cell? ⟨AB, 2, none⟩ = some (.int .i64 t.part) ∧ w'.cell? ⟨AB, 3, none⟩ = some (.slice ax1 t.names.length kx1) ∧ w'.cell? ⟨AB, 4, none⟩ = some (.slice ax2 t.keys.length kx2) ∧ w'.cell? ⟨AB, 5, none⟩ = some (.bool t.over) ∧ w'.cell? ⟨AB, 6, none⟩ = some (.int .i64 t.limit) ∧ w'.cell? ⟨AB, 7, none⟩ = some (.slice ax3 t.tests.length kx3) ∧ w'.cell? ⟨LB, 0, none⟩ = some (.string (S o.fl)) ∧ w'.cell? ⟨LB, 1, none⟩ = some (.string (S o.fd)) ∧ w'.cell? ⟨LB, 2, none⟩ = some (.string (S o.tl)) ∧ w'.cell? ⟨LB, 3, none⟩ = some (.string (S o.td)) ∧ w'.cell? ⟨LB, 4, none⟩ = some (.string (S o.tx))) (go_keep)
      (first
        | (go_at_call 11
           with_reducible refine HN4.out.mono ?_
           rintro e w5 ⟨P5, rfl, hM5, hb5⟩
           have HB5 := hid (show Below W3.heap.size W3 w5 from HB4.out.drew.trans (hb5.mono HB4.out.drew.size))
           have HA5 := hid (HAN.out w5 P5 HB5.out hM5)
           clear hM5 hb5 l0 l1 l2 l3 l4 a0 a1 a2 a3 a4 a5 a6 a7
           have hl := tl_low HB5.out HL3.out
           have l0 := tl_cell (j := 0) hl rfl
           have l1 := tl_cell (j := 1) hl rfl
           have l2 := tl_cell (j := 2) hl rfl
           have l3 := tl_cell (j := 3) hl rfl
           have l4 := tl_cell (j := 4) hl rfl
           clear hl
           have ha := tl_low HB5.out HA3.out
           have a0 := tl_cell (j := 0) ha rfl
           have a1 := tl_cell (j := 1) ha rfl
           have a2 := tl_cell (j := 2) ha rfl
           have a3 := tl_cell (j := 3) ha rfl
           have a4 := tl_cell (j := 4) ha rfl
           have a5 := tl_cell (j := 5) ha rfl
           have a6 := tl_cell (j := 6) ha rfl
           have a7 := tl_cell (j := 7) ha rfl
           clear ha)
        | (go_at_call 12
           with_reducible refine HA5.out.mono ?_
           rintro e w6 ⟨rfl, hb6⟩
           have HB6 := hid (HB5.out.trans (hb6.mono HB5.out.size))
           clear hb6 l0 l1 l2 l3 l4 a0 a1 a2 a3 a4 a5 a6 a7
           have hl := tl_low HB6.out HL3.out
           have l0 := tl_cell (j := 0) hl rfl
           have l1 := tl_cell (j := 1) hl rfl
           have l2 := tl_cell (j := 2) hl rfl
           have l3 := tl_cell (j := 3) hl rfl
           have l4 := tl_cell (j := 4) hl rfl
           clear hl
           have ha := tl_low HB6.out HA3.out
           have a0 := tl_cell (j := 0) ha rfl
           have a1 := tl_cell (j := 1) ha rfl
           have a2 := tl_cell (j := 2) ha rfl
           have a3 := tl_cell (j := 3) ha rfl
           have a4 := tl_cell (j := 4) ha rfl
           have a5 := tl_cell (j := 5) ha rfl
           have a6 := tl_cell (j := 6) ha rfl
           have a7 := tl_cell (j := 7) ha rfl
           clear ha))
    all_goals
      go_wp2_with fail
      go_meet
      exact ⟨rfl, rfl, HB6⟩
  case rest =>
    obtain ⟨rfl, rfl, HC6⟩ := hcut
    obtain ⟨w6, hw6⟩ : ∃ w6, w6 = wc := ⟨_, rfl⟩
    subst hw6
    clear HN4 l0 l1 l2 l3 l4 a0 a1 a2 a3 a4 a5 a6 a7
    have hl := tl_low HC6.out HL3.out
    have l0 := tl_cell (j := 0) hl rfl
    have l1 := tl_cell (j := 1) hl rfl
    have l2 := tl_cell (j := 2) hl rfl
    have l3 := tl_cell (j := 3) hl rfl
    have l4 := tl_cell (j := 4) hl rfl
    clear hl
    have ha := tl_low HC6.out HA3.out
    have a0 := tl_cell (j := 0) ha rfl
    have a1 := tl_cell (j := 1) ha rfl
    have a2 := tl_cell (j := 2) ha rfl
    have a3 := tl_cell (j := 3) ha rfl
    have a4 := tl_cell (j := 4) ha rfl
    have a5 := tl_cell (j := 5) ha rfl
    have a6 := tl_cell (j := 6) ha rfl
    have a7 := tl_cell (j := 7) ha rfl
    clear ha
    have hb := tl_low HC6.out HC3.out
    have b0 := tl_cell (j := 0) hb rfl
    have b1 := tl_cell (j := 1) hb rfl
    have b2 := tl_cell (j := 2) hb rfl
    have b3 := tl_cell (j := 3) hb rfl
    have b4 := tl_cell (j := 4) hb rfl
    have b5 := tl_cell (j := 5) hb rfl
    have b6 := tl_cell (j := 6) hb rfl
    have b7 := tl_cell (j := 7) hb rfl
    clear hb
    have lo0 : ∀ ob, (w6.alloc ob).cell? ⟨LB, 0, none⟩ = some (.string (S o.fl)) := fun ob => cell_alloc' l0
    have lo1 : ∀ ob, (w6.alloc ob).cell? ⟨LB, 1, none⟩ = some (.string (S o.fd)) := fun ob => cell_alloc' l1
    have lo2 : ∀ ob, (w6.alloc ob).cell? ⟨LB, 2, none⟩ = some (.string (S o.tl)) := fun ob => cell_alloc' l2
    have lo3 : ∀ ob, (w6.alloc ob).cell? ⟨LB, 3, none⟩ = some (.string (S o.td)) := fun ob => cell_alloc' l3
    have lo4 : ∀ ob, (w6.alloc ob).cell? ⟨LB, 4, none⟩ = some (.string (S o.tx)) := fun ob => cell_alloc' l4
    obtain ⟨W7, hW7⟩ : ∃ W7, W7 = w6.alloc (.cells #[.int .i64 t.kind, .int .i64 t.mat, .int .i64 t.part, .slice ax1 t.names.length kx1, .slice ax2 t.keys.length kx2, .bool t.over, .int .i64 t.limit, .slice ax3 t.tests.length kx3, .int .i64 u.kind, .int .i64 u.mat, .int .i64 u.part, .slice ay1 u.names.length ky1, .slice ay2 u.keys.length ky2, .bool u.over, .int .i64 u.limit, .slice ay3 u.tests.length ky3] 39) := ⟨_, rfl⟩
    have HWE7 := hid hW7
    have HB7 := hid (show Below W3.heap.size W3 W7 by rw [hW7]; exact HC6.out.alloc HC6.out.size _)
    have HA7 := hid (HAL.out W7 w6.heap.size HB7.out (two_mem (k := 4) (t := t) (u := u) (cs := #[.int .i64 t.kind, .int .i64 t.mat, .int .i64 t.part, .slice ax1 t.names.length kx1, .slice ax2 t.keys.length kx2, .bool t.over, .int .i64 t.limit, .slice ax3 t.tests.length kx3].toList) (ds := #[.int .i64 u.kind, .int .i64 u.mat, .int .i64 u.part, .slice ay1 u.names.length ky1, .slice ay2 u.keys.length ky2, .bool u.over, .int .i64 u.limit, .slice ay3 u.tests.length ky3].toList) (ty := 39) (fr := (0, 0)) (by rw [hW7]; exact tl_at _ rfl) (TstM.next HT3.out HB7.out) (TstM.next HU3.out HB7.out)))
    clear hW7
    go_wp2_with fail
    rw [← HWE7.out]
    refine HA7.out.mono ?_
    rintro e w8 ⟨rfl, hb8⟩
    simp only
    have HB8 := hid (HB7.out.trans (hb8.mono HB7.out.size))
    clear hb8 HA7 HWE7 lo0 lo1 lo2 lo3 lo4 l0 l1 l2 l3 l4 a0 a1 a2 a3 a4 a5 a6 a7 b0 b1 b2 b3 b4 b5 b6 b7
    have hl := tl_low HB8.out HL3.out
    have l0 := tl_cell (j := 0) hl rfl
    have l1 := tl_cell (j := 1) hl rfl
    have l2 := tl_cell (j := 2) hl rfl
    have l3 := tl_cell (j := 3) hl rfl
    have l4 := tl_cell (j := 4) hl rfl
    clear hl
    have ha := tl_low HB8.out HA3.out
    have a0 := tl_cell (j := 0) ha rfl
    have a1 := tl_cell (j := 1) ha rfl
    have a2 := tl_cell (j := 2) ha rfl
    have a3 := tl_cell (j := 3) ha rfl
    have a4 := tl_cell (j := 4) ha rfl
    have a5 := tl_cell (j := 5) ha rfl
    have a6 := tl_cell (j := 6) ha rfl
    have a7 := tl_cell (j := 7) ha rfl
    clear ha
    have hb := tl_low HB8.out HC3.out
    have b0 := tl_cell (j := 0) hb rfl
    have b1 := tl_cell (j := 1) hb rfl
    have b2 := tl_cell (j := 2) hb rfl
    have b3 := tl_cell (j := 3) hb rfl
    have b4 := tl_cell (j := 4) hb rfl
    have b5 := tl_cell (j := 5) hb rfl
    have b6 := tl_cell (j := 6) hb rfl
    have b7 := tl_cell (j := 7) hb rfl
    clear hb
    have HN8 := hid (HNA.out w8.drew HB8.out.drew)
    have HNO := hid (show ∀ (v : World) (P Q : Nat), TstM anyB 2 v (notT t) #[.int .i64 3, .int .i64 0, .int .i64 0, .slice none 0 0, .slice none 0 0, .bool false, .int .i64 0, .slice (some ⟨P, 0, none⟩) 1 1].toList → TstM anyB 2 v (notT u) #[.int .i64 3, .int .i64 0, .int .i64 0, .slice none 0 0, .slice none 0 0, .bool false, .int .i64 0, .slice (some ⟨Q, 0, none⟩) 1 1].toList → Calls Tryz.prog 11 #[.agg #[.int .i64 5, .int .i64 0, .int .i64 0, .slice none 0 0, .slice none 0 0, .bool false, .int .i64 0, .slice (some ⟨v.heap.size, 0, none⟩) 2 2]] (v.alloc (.cells #[.int .i64 3, .int .i64 0, .int .i64 0, .slice none 0 0, .slice none 0 0, .bool false, .int .i64 0, .slice (some ⟨P, 0, none⟩) 1 1, .int .i64 3, .int .i64 0, .int .i64 0, .slice none 0 0, .slice none 0 0, .bool false, .int .i64 0, .slice (some ⟨Q, 0, none⟩) 1 1] 39)) (NotP (v.alloc (.cells #[.int .i64 3, .int .i64 0, .int .i64 0, .slice none 0 0, .slice none 0 0, .bool false, .int .i64 0, .slice (some ⟨P, 0, none⟩) 1 1, .int .i64 3, .int .i64 0, .int .i64 0, .slice none 0 0, .slice none 0 0, .bool false, .int .i64 0, .slice (some ⟨Q, 0, none⟩) 1 1] 39)) 3 (anyT (notT t) (notT u))) from fun v P Q h1 h2 => by
      have hal := (Below.refl v.heap.size v).alloc (Nat.le_refl _) (.cells #[.int .i64 3, .int .i64 0, .int .i64 0, .slice none 0 0, .slice none 0 0, .bool false, .int .i64 0, .slice (some ⟨P, 0, none⟩) 1 1, .int .i64 3, .int .i64 0, .int .i64 0, .slice none 0 0, .slice none 0 0, .bool false, .int .i64 0, .slice (some ⟨Q, 0, none⟩) 1 1] 39)
      exact not_any _ 3 (anyT (notT t) (notT u)) _ _ _ _ _ _ _ _ (two_mem (k := 5) (t := notT t) (u := notT u) (cs := #[.int .i64 3, .int .i64 0, .int .i64 0, .slice none 0 0, .slice none 0 0, .bool false, .int .i64 0, .slice (some ⟨P, 0, none⟩) 1 1].toList) (ds := #[.int .i64 3, .int .i64 0, .int .i64 0, .slice none 0 0, .slice none 0 0, .bool false, .int .i64 0, .slice (some ⟨Q, 0, none⟩) 1 1].toList) (ty := 39) (fr := (0, 0)) (tl_at (w := v) _ rfl) (TstM.next h1 hal) (TstM.next h2 hal)))
    go_wp2
    go_cut [18, 19] (fun x y wx => x = .bool (p && q) ∧ y = .int .i64 0 ∧ Hid (Below W3.heap.size W3 wx))
    case first =>
      go_region_held3 (fun w' => w'.cell? ⟨AB, 0, none⟩ = some (.int .i64 t.kind) ∧ w'.cell? ⟨AB, 1, none⟩ = some (.int .i64 t.mat) ∧ w'.cell? ⟨AB, 2, none⟩ = some (.int .i64 t.part) ∧ w'.cell? ⟨AB, 3, none⟩ = some (.slice ax1 t.names.length kx1) ∧ w'.cell? ⟨AB, 4, none⟩ = some (.slice ax2 t.keys.length kx2) ∧ w'.cell? ⟨AB, 5, none⟩ = some (.bool t.over) ∧ w'.cell? ⟨AB, 6, none⟩ = some (.int .i64 t.limit) ∧ w'.cell? ⟨AB, 7, none⟩ = some (.slice ax3 t.tests.length kx3) ∧ w'.cell? ⟨BB, 0, none⟩ = some (.int .i64 u.kind) ∧ w'.cell? ⟨BB, 1, none⟩ = some (.int .i64 u.mat) ∧ w'.cell? ⟨BB, 2, none⟩ = some (.int .i64 u.part) ∧ w'.cell? ⟨BB, 3, none⟩ = some (.slice ay1 u.names.length ky1) ∧ w'.cell? ⟨BB, 4, none⟩ = some (.slice ay2 u.keys.length ky2) ∧ w'.cell? ⟨BB, 5, none⟩ = some (.bool u.over) ∧ w'.cell? ⟨BB, 6, none⟩ = some (.int .i64 u.limit) ∧ w'.cell? ⟨BB, 7, none⟩ = some (.slice ay3 u.tests.length ky3) ∧ w'.cell? ⟨LB, 0, none⟩ = some (.string (S o.fl)) ∧ w'.cell? ⟨LB, 1, none⟩ = some (.string (S o.fd)) ∧ w'.cell? ⟨LB, 2, none⟩ = some (.string (S o.tl)) ∧ w'.cell? ⟨LB, 3, none⟩ = some (.string (S o.td)) ∧ w'.cell? ⟨LB, 4, none⟩ = some (.string (S o.tx))) (go_keep)
        (first
          | (go_at_call 11
             with_reducible refine HN8.out.mono ?_
             rintro e w9 ⟨P9, rfl, hM9, hb9⟩
             have HB9 := hid (show Below W3.heap.size W3 w9 from HB8.out.drew.trans (hb9.mono HB8.out.drew.size))
             have HM9 := hid hM9
             have HN9 := hid (HNB.out w9 HB9.out)
             clear hM9 hb9 l0 l1 l2 l3 l4 a0 a1 a2 a3 a4 a5 a6 a7 b0 b1 b2 b3 b4 b5 b6 b7
             have hl := tl_low HB9.out HL3.out
             have l0 := tl_cell (j := 0) hl rfl
             have l1 := tl_cell (j := 1) hl rfl
             have l2 := tl_cell (j := 2) hl rfl
             have l3 := tl_cell (j := 3) hl rfl
             have l4 := tl_cell (j := 4) hl rfl
             clear hl
             have ha := tl_low HB9.out HA3.out
             have a0 := tl_cell (j := 0) ha rfl
             have a1 := tl_cell (j := 1) ha rfl
             have a2 := tl_cell (j := 2) ha rfl
             have a3 := tl_cell (j := 3) ha rfl
             have a4 := tl_cell (j := 4) ha rfl
             have a5 := tl_cell (j := 5) ha rfl
             have a6 := tl_cell (j := 6) ha rfl
             have a7 := tl_cell (j := 7) ha rfl
             clear ha
             have hb := tl_low HB9.out HC3.out
             have b0 := tl_cell (j := 0) hb rfl
             have b1 := tl_cell (j := 1) hb rfl
             have b2 := tl_cell (j := 2) hb rfl
             have b3 := tl_cell (j := 3) hb rfl
             have b4 := tl_cell (j := 4) hb rfl
             have b5 := tl_cell (j := 5) hb rfl
             have b6 := tl_cell (j := 6) hb rfl
             have b7 := tl_cell (j := 7) hb rfl
             clear hb)
          | (go_at_call 11
             with_reducible refine HN9.out.mono ?_
             rintro e w10 ⟨P10, rfl, hM10, hb10⟩
             have HB10 := hid (HB9.out.trans (hb10.mono HB9.out.size))
             have HAL10 := hid ((Below.refl w10.heap.size w10).alloc (Nat.le_refl _) (.cells #[.int .i64 3, .int .i64 0, .int .i64 0, .slice none 0 0, .slice none 0 0, .bool false, .int .i64 0, .slice (some ⟨P9, 0, none⟩) 1 1, .int .i64 3, .int .i64 0, .int .i64 0, .slice none 0 0, .slice none 0 0, .bool false, .int .i64 0, .slice (some ⟨P10, 0, none⟩) 1 1] 39))
             have HB11 := hid (HB10.out.trans (HAL10.out.mono HB10.out.size))
             have HN11 := hid (HNO.out w10 P9 P10 (TstM.next HM9.out hb10) hM10)
             clear hM10 hb10 l0 l1 l2 l3 l4 a0 a1 a2 a3 a4 a5 a6 a7 b0 b1 b2 b3 b4 b5 b6 b7
             have hl := tl_low HB10.out HL3.out
             have l0 := tl_cell (j := 0) hl rfl
             have l1 := tl_cell (j := 1) hl rfl
             have l2 := tl_cell (j := 2) hl rfl
             have l3 := tl_cell (j := 3) hl rfl
             have l4 := tl_cell (j := 4) hl rfl
             clear hl
             have ha := tl_low HB10.out HA3.out
             have a0 := tl_cell (j := 0) ha rfl
             have a1 := tl_cell (j := 1) ha rfl
             have a2 := tl_cell (j := 2) ha rfl
             have a3 := tl_cell (j := 3) ha rfl
             have a4 := tl_cell (j := 4) ha rfl
             have a5 := tl_cell (j := 5) ha rfl
             have a6 := tl_cell (j := 6) ha rfl
             have a7 := tl_cell (j := 7) ha rfl
             clear ha
             have hb := tl_low HB10.out HC3.out
             have b0 := tl_cell (j := 0) hb rfl
             have b1 := tl_cell (j := 1) hb rfl
             have b2 := tl_cell (j := 2) hb rfl
             have b3 := tl_cell (j := 3) hb rfl
             have b4 := tl_cell (j := 4) hb rfl
             have b5 := tl_cell (j := 5) hb rfl
             have b6 := tl_cell (j := 6) hb rfl
             have b7 := tl_cell (j := 7) hb rfl
             clear hb)
          | (go_at_call 11
             with_reducible refine HN11.out.mono ?_
             rintro e w12 ⟨P12, rfl, hM12, hb12⟩
             have HB12 := hid (HB11.out.trans (hb12.mono HB11.out.size))
             have HA12 := hid (HAO.out w12 P12 HB12.out hM12)
             clear hM12 hb12 l0 l1 l2 l3 l4 a0 a1 a2 a3 a4 a5 a6 a7 b0 b1 b2 b3 b4 b5 b6 b7
             have hl := tl_low HB12.out HL3.out
             have l0 := tl_cell (j := 0) hl rfl
             have l1 := tl_cell (j := 1) hl rfl
             have l2 := tl_cell (j := 2) hl rfl
             have l3 := tl_cell (j := 3) hl rfl
             have l4 := tl_cell (j := 4) hl rfl
             clear hl
             have ha := tl_low HB12.out HA3.out
             have a0 := tl_cell (j := 0) ha rfl
             have a1 := tl_cell (j := 1) ha rfl
             have a2 := tl_cell (j := 2) ha rfl
             have a3 := tl_cell (j := 3) ha rfl
             have a4 := tl_cell (j := 4) ha rfl
             have a5 := tl_cell (j := 5) ha rfl
             have a6 := tl_cell (j := 6) ha rfl
             have a7 := tl_cell (j := 7) ha rfl
             clear ha
             have hb := tl_low HB12.out HC3.out
             have b0 := tl_cell (j := 0) hb rfl
             have b1 := tl_cell (j := 1) hb rfl
             have b2 := tl_cell (j := 2) hb rfl
             have b3 := tl_cell (j := 3) hb rfl
             have b4 := tl_cell (j := 4) hb rfl
             have b5 := tl_cell (j := 5) hb rfl
             have b6 := tl_cell (j := 6) hb rfl
             have b7 := tl_cell (j := 7) hb rfl
             clear hb)
          | (go_at_call 12
             with_reducible refine HA12.out.mono ?_
             rintro e w13 ⟨rfl, hb13⟩
             have HB13 := hid (HB12.out.trans (hb13.mono HB12.out.size))
             clear hb13 l0 l1 l2 l3 l4 a0 a1 a2 a3 a4 a5 a6 a7 b0 b1 b2 b3 b4 b5 b6 b7
             have hl := tl_low HB13.out HL3.out
             have l0 := tl_cell (j := 0) hl rfl
             have l1 := tl_cell (j := 1) hl rfl
             have l2 := tl_cell (j := 2) hl rfl
             have l3 := tl_cell (j := 3) hl rfl
             have l4 := tl_cell (j := 4) hl rfl
             clear hl
             have ha := tl_low HB13.out HA3.out
             have a0 := tl_cell (j := 0) ha rfl
             have a1 := tl_cell (j := 1) ha rfl
             have a2 := tl_cell (j := 2) ha rfl
             have a3 := tl_cell (j := 3) ha rfl
             have a4 := tl_cell (j := 4) ha rfl
             have a5 := tl_cell (j := 5) ha rfl
             have a6 := tl_cell (j := 6) ha rfl
             have a7 := tl_cell (j := 7) ha rfl
             clear ha
             have hb := tl_low HB13.out HC3.out
             have b0 := tl_cell (j := 0) hb rfl
             have b1 := tl_cell (j := 1) hb rfl
             have b2 := tl_cell (j := 2) hb rfl
             have b3 := tl_cell (j := 3) hb rfl
             have b4 := tl_cell (j := 4) hb rfl
             have b5 := tl_cell (j := 5) hb rfl
             have b6 := tl_cell (j := 6) hb rfl
             have b7 := tl_cell (j := 7) hb rfl
             clear hb))
      all_goals
        go_wp2_with fail
        go_meet
        exact ⟨rfl, rfl, HB13⟩
    case rest =>
      obtain ⟨rfl, rfl, HC13⟩ := hcut
      obtain ⟨w13, hw13⟩ : ∃ w13, w13 = wc := ⟨_, rfl⟩
      subst hw13
      have HU13 := hid (HAU.out w13 HC13.out)
      clear HN8 l0 l1 l2 l3 l4 a0 a1 a2 a3 a4 a5 a6 a7 b0 b1 b2 b3 b4 b5 b6 b7
      have hl := tl_low HC13.out HL3.out
      have l0 := tl_cell (j := 0) hl rfl
      have l1 := tl_cell (j := 1) hl rfl
      have l2 := tl_cell (j := 2) hl rfl
      have l3 := tl_cell (j := 3) hl rfl
      have l4 := tl_cell (j := 4) hl rfl
      clear hl
      have ha := tl_low HC13.out HA3.out
      have a0 := tl_cell (j := 0) ha rfl
      have a1 := tl_cell (j := 1) ha rfl
      have a2 := tl_cell (j := 2) ha rfl
      have a3 := tl_cell (j := 3) ha rfl
      have a4 := tl_cell (j := 4) ha rfl
      have a5 := tl_cell (j := 5) ha rfl
      have a6 := tl_cell (j := 6) ha rfl
      have a7 := tl_cell (j := 7) ha rfl
      clear ha
      have hb := tl_low HC13.out HC3.out
      have b0 := tl_cell (j := 0) hb rfl
      have b1 := tl_cell (j := 1) hb rfl
      have b2 := tl_cell (j := 2) hb rfl
      have b3 := tl_cell (j := 3) hb rfl
      have b4 := tl_cell (j := 4) hb rfl
      have b5 := tl_cell (j := 5) hb rfl
      have b6 := tl_cell (j := 6) hb rfl
      have b7 := tl_cell (j := 7) hb rfl
      clear hb
      clear a0 a1 a2 a3 a4 a5 a6 a7
      go_wp2_with fail
      refine HU13.out.mono ?_
      rintro e w14 ⟨rfl, hb14⟩
      simp only
      have HB14 := hid (HB3.out.trans ((HC13.out.trans (hb14.mono HC13.out.size)).mono HB3.out.size))
      clear hb14 HU13
      cases p <;> cases q
      all_goals
        go_wp2
        go_ret
        exact ⟨rfl, HB14.out⟩
end Go.Proofs.YtmnlaijggoojkaaGreatDoor
