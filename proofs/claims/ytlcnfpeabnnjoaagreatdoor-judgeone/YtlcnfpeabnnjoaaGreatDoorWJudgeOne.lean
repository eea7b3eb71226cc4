/-
  Of an If just one side counts: walked.
-/
import Derived.Test.YtlcnfpeabnnjoaaGreatDoorOnePur
import Derived.Test.YtlcnfpeabnnjoaaGreatDoorJudSame
import Derived.Test.YtlcnfpeabnnjoaaGreatDoorLtrMsg
import Derived.Test.YtlcnfpeabnnjoaaGreatDoorAppCmd
import Derived.Deep.RegionLaw
import Derived.Deep.RegionHeld3
import Derived.Deep.DeepCutAuto
namespace Go.Proofs.YtlcnfpeabnnjoaaGreatDoor
open Go.RowKit Go.Proofs

/-- A side behind the Require of all. -/
theorem app_side {ops : Array Oper} {o : Oper} {a : Act} {K : Act → World → Prop} {Q : Exit → Act → World → Prop} {E : Prop} {w : World} (hgd : o.guard = none) (s x : Operand)
    (ho : o.op = .call { callee := .builtin .append, args := #[s, x], argTypes := #[47, 47] })
    (R : Nat) (D : List Cmd) (b2 o2 c2 : Nat) (hs : a.eval s = .slice (some ⟨R, 0, none⟩) 1 1) (hO : OwnCs 0 3 w (.slice (some ⟨R, 0, none⟩) 1 1) [reqC]) (hx : a.eval x = .slice (some ⟨b2, o2, none⟩) D.length c2)
    (hL : CmdsM (fun b => b ≠ R) 3 w (.slice (some ⟨b2, o2, none⟩) D.length c2) D) (hpos : 0 < D.length) (h4 : D.length ≤ 4)
    (h : ∀ g cap w', CmdsM anyB 3 w' (.slice (some ⟨g, 0, none⟩) (reqC :: D).length cap) (reqC :: D) → D.length + 1 ≤ cap → w.grownBy w' (some R) → K (a.put o.dst (.slice (some ⟨g, 0, none⟩) (1 + D.length) cap)) w') :
    if Region.wanted o (yielded ops a.tmps) = true then Oper.wp Tryz.prog o a w K Q else E := by
  obtain ⟨i0, hi, hz0, hz1, hz2⟩ := info_parts infoCmd
  obtain ⟨css, h1, h2, h3, h4'⟩ := hO
  obtain ⟨dss, n1, n2, n3, n4⟩ := row_cells (RowM.both hL (CmdM.both 3)) D.length (Nat.le_refl _)
  have hone : ∀ u ∈ dss.flatten, u.oneCell' = true := fun u hu => by
    obtain ⟨cs, hcs, hu2⟩ := List.mem_flatten.1 hu
    obtain ⟨q, hq, hqe⟩ := List.getElem_of_mem hcs
    have hq2 : dss[q]? = some cs := by rw [List.getElem?_eq_getElem hq, hqe]
    exact cmd_one (n3 q _ cs (List.getElem?_eq_getElem (by omega)) hq2) u hu2
  refine step_append_lies w hgd s x 47 ho 0 50 i0 _ 12 192 Tryz.underlying47 hi hz0 hz1 hz2 rfl (by decide) (.slice (some ⟨R, 0, none⟩) 1 1) 1 css.flatten hs h1 ⟨b2, o2, none⟩ D.length c2 dss.flatten hx (by rw [flat_cells n2, n1]) (fun j u hj => by rw [Addr.add_lit]; exact n4 j u hj) hone hpos (by unfold maxLen; omega) (by omega) (Nat.zero_le _) w.heap.size rfl ?_
  intro g cap w' hown hgrow hat hlt
  have hJ : OwnCs 0 3 w' (.slice (some ⟨g, 0, none⟩) (1 + D.length) cap) ([reqC] ++ D) := by
    refine OwnRow.join (firm_cmd 3) (H := w.heap.size) h2 h3 h4' n1 n2 (fun i y cs hy hcs => CmdM.imp (fun b hb => ?_) (Keeps.refl _ _) _ _ _ (n3 i y cs hy hcs)) hown hgrow ?_ (Nat.le_refl _)
    · exact ⟨Nat.zero_le _, hb.2, fun e => hb.1 (Option.some.inj e)⟩
    · rcases hat with e | e
      · exact .inl e.symm
      · exact .inr (by rw [e]; rfl)
  refine h g cap w' ?_ ?_ hgrow
  · have := OwnRow.rowM (firm_cmd 3) hJ (by simp; unfold maxLen; omega)
    rw [show (reqC :: D).length = 1 + D.length by simp; omega]
    exact RowM.imp this (fun _ _ => trivial) (Keeps.refl _ _) fun _ _ h => CmdM.imp (fun _ _ => trivial) (Keeps.refl _ _) _ _ _ h
  · rcases hown.2 with ⟨e, _⟩ | ⟨_, _, _, e, _, _, e2, _⟩
    · cases e
    · simp only [Value.slice.injEq] at e; omega
/-- The law's Require of all, in a row of one. -/
theorem own_req {u w' : World} {p : Nat} {v0 v1 v2 v3 v4 v5 v6 v7 v8 v9 v10 v11 : Value} (hC : CmdM anyB 2 u reqC [v0, v1, v2, v3, v4, v5, v6, v7, v8, v9, v10, v11]) (hp : u.heap.size ≤ p) (hb : Below u.heap.size u w') (h : w'.heap[p]? = some (.cells #[v0, v1, v2, v3, v4, v5, v6, v7, v8, v9, v10, v11] 50)) : OwnCs 0 3 w' (.slice (some ⟨p, 0, none⟩) 1 1) [reqC] :=
  own_one (cs := [v0, v1, v2, v3, v4, v5, v6, v7, v8, v9, v10, v11]) (Q2 := fun b => b < u.heap.size) h (CmdM.more _ 3 _ _ (by omega) (CmdM.imp (fun b hb => hb.2) (Keeps.of_below hb) _ _ _ (CmdM.both _ _ _ hC))) (fun b hq => ⟨Nat.zero_le _, Nat.lt_of_lt_of_le hq hb.size, fun e => by subst e; exact absurd hq (Nat.not_lt.2 hp)⟩) (Nat.zero_le _)
theorem grown_keep {w w' : World} {R p : Nat} {x : Obj} (h : w.grownBy w' (some R)) (hp : w.heap[p]? = some x) (hn : p ≠ R) : w'.heap[p]? = some x := (h.block p (Array.getElem?_eq_some_iff.1 hp).1 (fun e => hn (Option.some.inj e))).trans hp
set_option maxHeartbeats 2000000 in
set_option maxRecDepth 100000 in
theorem judgeOne_walk (w : World) (hm : TabsM w) (fl fd fg tl td tg : ByteArray) (a : Option Addr) (c : Nat) (fs : List F) (body : ByteArray) (hF : FieldsAt w a fs) (hL : fs.length ≤ maxLen) (hB : ∀ f ∈ fs, f.1.length ≤ maxLen ∧ f.2.length ≤ maxLen) (hY : body.size ≤ maxLen) (s1 : fl.size ≤ maxLen) (s2 : fd.size ≤ maxLen) (s3 : tl.size ≤ maxLen) (s4 : td.size ≤ maxLen) (x : Stk) (nx : Nat) (cx : List Value) (hx : StkM nx w x cx) (al : Option Addr) (cl : Nat) (l : List Stk) (n : Nat) (hS : SticksM n w (.slice al l.length cl) l) (am : Option Addr) (cm : Nat) (m : List Stk) (n' : Nat) (hS' : SticksM n' w (.slice am m.length cm) m) :
    Calls Tryz.prog 4 #[.agg #[.string fl, .string fd, .string fg, .string tl, .string td, .string tg, .slice a fs.length c, .string body], .agg cx.toArray, .slice al l.length cl, .slice am m.length cm] w fun e w' => e = .returned (.bool true) ∧ Below w.heap.size w w' := by
  have HM := hid hm
  have HX := hid hx
  have HSl := hid hS
  have HSm := hid hS'
  obtain ⟨ax, kx, ex⟩ := stk_form hx
  subst ex
  obtain ⟨o, ho⟩ : ∃ o, o = ltrO fl fd tl td fs body := ⟨_, rfl⟩
  have HO := hid (show Opened o by rw [ho]; exact ltr_opened _ _ _ _ _ _)
  obtain ⟨W0, hW0⟩ : ∃ W0, W0 = (w.alloc (.cells #[.string fl, .string fd, .string fg, .string tl, .string td, .string tg, .slice a fs.length c, .string body] 26)).alloc (.cells #[.int .i64 x.kind, .int .i64 x.a, .int .i64 x.b, .string (S x.s), .string (S x.t), .slice ax x.ins.length kx] 29) := ⟨_, rfl⟩
  have HWE := hid hW0
  have HB0 := hid (show Below w.heap.size w W0 by rw [hW0]; exact ((Below.refl _ _).alloc (Nat.le_refl _) _).alloc (by simp) _)
  have HXB := hid (show W0.heap[w.heap.size + 1]? = some (.cells #[.int .i64 x.kind, .int .i64 x.a, .int .i64 x.b, .string (S x.s), .string (S x.t), .slice ax x.ins.length kx] 29) by rw [hW0]; exact heap_at _ (by simp))
  have HLt := hid (show Calls Tryz.prog 9 #[.agg #[.string fl, .string fd, .string fg, .string tl, .string td, .string tg, .slice a fs.length c, .string body]] W0 (LtrP W0 o) by
    rw [ho]
    exact letter_ok fl fd fg tl td tg a c fs body W0 (hF.below HB0.out) hL hB hY s1 s2 s3 s4 (maxLenCell_below hm.2 HB0.out))
  clear hm hx hS hS' hF hL hB hY s1 s2 s3 s4 hW0 ho
  go_enter Tryz.func4, Tryz.ntmps4
  go_wp2_with fail
  rw [← HWE.out]
  refine HLt.out.mono ?_
  rintro e w1 ⟨he, hb1⟩
  rw [show e = .returned (.tuple #[.agg #[.string (S o.fl), .string (S o.fd), .string (S o.tl), .string (S o.td), .string (S o.tx)], .bool true]) from he]
  simp only
  obtain ⟨W1, hW1⟩ : ∃ W1, W1 = w1.alloc (.cells #[.string (S o.fl), .string (S o.fd), .string (S o.tl), .string (S o.td), .string (S o.tx)] 33) := ⟨_, rfl⟩
  have HWE1 := hid hW1
  have hal : Below w1.heap.size w1 W1 := by rw [hW1]; exact (Below.refl _ _).alloc (Nat.le_refl _) _
  have hb01 := hb1.trans (hal.mono hb1.size)
  have HB1 := hid (HB0.out.trans (hb01.mono HB0.out.size))
  have HX1 := hid (tl_low hb01 HXB.out)
  obtain ⟨LB, hLB⟩ : ∃ LB, LB = w1.heap.size := ⟨_, rfl⟩
  have HLB := hid hLB
  have HL1 := hid (show W1.heap[LB]? = some (.cells #[.string (S o.fl), .string (S o.fd), .string (S o.tl), .string (S o.td), .string (S o.tx)] 33) by rw [hW1, hLB]; exact tl_at _ rfl)
  have HTX := hid (show Calls Tryz.prog 11 #[.agg #[.int .i64 x.kind, .int .i64 x.a, .int .i64 x.b, .string (S x.s), .string (S x.t), .slice ax x.ins.length kx], .int .i64 1] W1 (TestP 3 W1) from test1 nx x _ W1 (StkM.next HX.out HB1.out))
  have hx := HX1.out
  rw [HWE1.out] at hx
  have x0 := tl_cell (j := 0) hx rfl
  have x1 := tl_cell (j := 1) hx rfl
  have x2 := tl_cell (j := 2) hx rfl
  have x3 := tl_cell (j := 3) hx rfl
  have x4 := tl_cell (j := 4) hx rfl
  have x5 := tl_cell (j := 5) hx rfl
  clear hx
  clear he hb1 hal hb01 hW1 hLB HWE HX1 HLt
  go_wp2_with fail
  rw [← HWE1.out, ← HLB.out]
  refine HTX.out.mono ?_
  rintro e w2 ⟨t, c2, he, hT, hNt, hb2⟩
  obtain ⟨ax1, kx1, ax2, kx2, ax3, kx3, ec⟩ := tst_shape hT
  subst ec
  rw [show e = .returned (.agg #[.int .i64 t.kind, .int .i64 t.mat, .int .i64 t.part, .slice ax1 t.names.length kx1, .slice ax2 t.keys.length kx2, .bool t.over, .int .i64 t.limit, .slice ax3 t.tests.length kx3]) from he]
  simp only
  have HB2 := hid (HB1.out.trans (hb2.mono HB1.out.size))
  have HL2 := hid (tl_low hb2 HL1.out)
  have HT2 := hid (show TstM anyB 3 w2 t #[.int .i64 t.kind, .int .i64 t.mat, .int .i64 t.part, .slice ax1 t.names.length kx1, .slice ax2 t.keys.length kx2, .bool t.over, .int .i64 t.limit, .slice ax3 t.tests.length kx3].toList from TstM.imp (fun _ _ => trivial) (Keeps.refl _ _) _ _ _ hT)
  have HNT := hid hNt
  have HCA := hid (show Calls Tryz.prog 14 #[.slice al l.length cl, .int .i64 2] w2 _ from cmdsF n l al cl w2 (SticksM.next HSl.out HB2.out))
  clear he hT hNt hb2 x0 x1 x2 x3 x4 x5 HWE1 HLB HTX
  go_wp2_with fail
  refine HCA.out.mono ?_
  rintro e w3 ⟨A, aA, kA, rfl, hA, hNA, hA4, hAe, hb3⟩
  simp only
  have HB3 := hid (HB2.out.trans (hb3.mono HB2.out.size))
  have HL3 := hid (tl_low hb3 HL2.out)
  have HT3 := hid (TstM.next HT2.out hb3)
  have HA3 := hid (show CmdsM anyB 2 w3 (.slice aA A.length kA) A from CmdsM.any hA)
  have HAN := hid hNA
  have HA4 := hid hA4
  have HAE := hid hAe
  have HCB := hid (show Calls Tryz.prog 14 #[.slice am m.length cm, .int .i64 2] w3 _ from cmdsF n' m am cm w3 (SticksM.next HSm.out HB3.out))
  clear hA hNA hA4 hAe hb3 HCA
  go_wp2_with fail
  refine HCB.out.mono ?_
  rintro e w4 ⟨B, aB, kB, rfl, hBB, hNB, hB4, hBe, hb4⟩
  simp only
  have HBN := hid hNB
  have HB4' := hid hB4
  have HBE := hid hBe
  obtain ⟨W4, hW4⟩ : ∃ W4, W4 = w4.alloc (.cells #[.int .i64 2, .slice none 0 0, .int .i64 t.kind, .int .i64 t.mat, .int .i64 t.part, .slice ax1 t.names.length kx1, .slice ax2 t.keys.length kx2, .bool t.over, .int .i64 t.limit, .slice ax3 t.tests.length kx3, .slice aA A.length kA, .slice aB B.length kB] 50) := ⟨_, rfl⟩
  have HWE4 := hid hW4
  have hal : Below w4.heap.size w4 W4 := by rw [hW4]; exact (Below.refl _ _).alloc (Nat.le_refl _) _
  have hb34 := hb4.trans (hal.mono hb4.size)
  have HB4 := hid (HB3.out.trans (hb34.mono HB3.out.size))
  have HL4 := hid (tl_low hb34 HL3.out)
  have HT4 := hid (TstM.next HT3.out hb34)
  have HA4m := hid (CmdsM.next HA3.out hb34)
  have HB4m := hid (show CmdsM anyB 2 W4 (.slice aB B.length kB) B from CmdsM.next (CmdsM.any hBB) hal)
  have HFA := hid (flat_of HA4m.out HAN.out)
  have HFB := hid (flat_of HB4m.out HBN.out)
  obtain ⟨CB, hCB⟩ : ∃ CB, CB = w4.heap.size := ⟨_, rfl⟩
  have HCBE := hid hCB
  have HC4 := hid (show W4.heap[CB]? = some (.cells #[.int .i64 2, .slice none 0 0, .int .i64 t.kind, .int .i64 t.mat, .int .i64 t.part, .slice ax1 t.names.length kx1, .slice ax2 t.keys.length kx2, .bool t.over, .int .i64 t.limit, .slice ax3 t.tests.length kx3, .slice aA A.length kA, .slice aB B.length kB] 50) by rw [hW4, hCB]; exact tl_at _ rfl)
  have HAT := hid (show Calls Tryz.prog 12 #[.agg #[.int .i64 t.kind, .int .i64 t.mat, .int .i64 t.part, .slice ax1 t.names.length kx1, .slice ax2 t.keys.length kx2, .bool t.over, .int .i64 t.limit, .slice ax3 t.tests.length kx3], .agg #[.string (S o.fl), .string (S o.fd), .string (S o.tl), .string (S o.td), .string (S o.tx)]] W4 fun e w' => e = .returned (.tuple #[.bool (tellsP o 3 t), .int .i64 0]) ∧ Below W4.heap.size W4 w' from askB_nt 2 (by omega) t o HO.out ax1 ax2 ax3 kx1 kx2 kx3 W4 (HM.out.1.next HB4.out) (maxLenCell_below HM.out.2 HB4.out) HT4.out HNT.out (Nat.le_trans (tstB_len 3 3 t _ HT4.out (HNT.out 3).2) (by decide)))
  obtain ⟨p, hp⟩ : ∃ p, p = tellsP o 3 t := ⟨_, rfl⟩
  rw [← hp] at HAT
  have HPE := hid hp
  have hl := HL4.out
  rw [HWE4.out] at hl
  have l0 := tl_cell (j := 0) hl rfl
  have l1 := tl_cell (j := 1) hl rfl
  have l2 := tl_cell (j := 2) hl rfl
  have l3 := tl_cell (j := 3) hl rfl
  have l4 := tl_cell (j := 4) hl rfl
  clear hl
  have hc := HC4.out
  rw [HWE4.out, HCBE.out] at hc
  have c0 := tl_cell (j := 0) hc rfl
  have c1 := tl_cell (j := 1) hc rfl
  have c2 := tl_cell (j := 2) hc rfl
  have c3 := tl_cell (j := 3) hc rfl
  have c4 := tl_cell (j := 4) hc rfl
  have c5 := tl_cell (j := 5) hc rfl
  have c6 := tl_cell (j := 6) hc rfl
  have c7 := tl_cell (j := 7) hc rfl
  have c8 := tl_cell (j := 8) hc rfl
  have c9 := tl_cell (j := 9) hc rfl
  have c10 := tl_cell (j := 10) hc rfl
  have c11 := tl_cell (j := 11) hc rfl
  clear hc
  clear hBB hNB hB4 hBe hb4 hal hb34 hW4 hCB hp HCB
  go_wp2_with fail
  rw [← HWE4.out, ← HCBE.out]
  refine HAT.out.mono ?_
  rintro e w5 ⟨rfl, hb5⟩
  simp only
  have HB5 := hid hb5
  clear hb5 HAT HWE4 HCBE l0 l1 l2 l3 l4 c0 c1 c2 c3 c4 c5 c6 c7 c8 c9 c10 c11
  obtain ⟨cc, hcc⟩ : ∃ cc, cc = judgeP o 4 [reqC, oneC t A B] := ⟨_, rfl⟩
  have HCC := hid hcc
  have HCM := hid (show ∀ u : World, Below W4.heap.size W4 u → CmdM anyB 4 u (oneC t A B) #[.int .i64 2, .slice none 0 0, .int .i64 t.kind, .int .i64 t.mat, .int .i64 t.part, .slice ax1 t.names.length kx1, .slice ax2 t.keys.length kx2, .bool t.over, .int .i64 t.limit, .slice ax3 t.tests.length kx3, .slice aA A.length kA, .slice aB B.length kB].toList from fun u hu => ⟨_, _, _, _, _, _, rfl, rowM_nil _ _ _ _ _ _, TstM.next HT4.out hu, RowM.imp (CmdsM.next HA4m.out hu) (fun _ h => h) (Keeps.refl _ _) fun _ _ h => CmdM.more _ 3 _ _ (by omega) h, RowM.imp (CmdsM.next HB4m.out hu) (fun _ h => h) (Keeps.refl _ _) fun _ _ h => CmdM.more _ 3 _ _ (by omega) h⟩)
  have HNC := hid (one_nc HNT.out HAN.out HBN.out HA4.out HB4'.out)
  have HTL := hid (show ∀ k, (testT k t).length ≤ 208 from fun k => tstB_len 3 k t _ HT4.out (HNT.out k).2)
  have HCK := hid (show checkM 4 [reqC, oneC t A B] = 0 from check_zero (fun y hy => by
    simp only [List.mem_cons, List.not_mem_nil, or_false] at hy
    rcases hy with rfl | rfl
    · exact fault_req 4
    · exact cmd_fault 4 4 0 _ _ (HCM.out W4 (Below.refl _ _)) (HNC.out 4).2 (by omega)) (one_check HTL.out HFA.out HFB.out HAN.out HBN.out HA4.out HB4'.out 4))
  have HWB := hid (show ∀ u : World, Below W4.heap.size W4 u → Below w.heap.size w u from fun u hu => HB4.out.trans (hu.mono HB4.out.size))
  have HJ := hid (show ∀ (u : World) (q : Nat) (v0 v1 v2 v3 v4 v5 v6 v7 v8 v9 v10 v11 : Value), Below W4.heap.size W4 u → u.heap[q]? = some (.cells #[v0, v1, v2, v3, v4, v5, v6, v7, v8, v9, v10, v11, .int .i64 2, .slice none 0 0, .int .i64 t.kind, .int .i64 t.mat, .int .i64 t.part, .slice ax1 t.names.length kx1, .slice ax2 t.keys.length kx2, .bool t.over, .int .i64 t.limit, .slice ax3 t.tests.length kx3, .slice aA A.length kA, .slice aB B.length kB] 50) → CmdM anyB 4 u reqC [v0, v1, v2, v3, v4, v5, v6, v7, v8, v9, v10, v11] → Calls Tryz.prog 15 #[.slice (some ⟨q, 0, none⟩) 2 2, .agg #[.string (S o.fl), .string (S o.fd), .string (S o.tl), .string (S o.td), .string (S o.tx)]] u (CrsR u cc) from fun u q v0 v1 v2 v3 v4 v5 v6 v7 v8 v9 v10 v11 hu hq hr => by
    rw [hcc]
    exact judge_scr o HO.out 3 [oneC t A B] (some ⟨q, 0, none⟩) 2 u (HM.out.1.next (HWB.out u hu)) (maxLenCell_below HM.out.2 (HWB.out u hu)) (fun y hy => by rw [List.mem_singleton.1 hy]; exact HNC.out) HCK.out (Nat.le_refl _) (pairM (t := 50) (fr := (0, 0)) (cs := [v0, v1, v2, v3, v4, v5, v6, v7, v8, v9, v10, v11]) (ds := [.int .i64 2, .slice none 0 0, .int .i64 t.kind, .int .i64 t.mat, .int .i64 t.part, .slice ax1 t.names.length kx1, .slice ax2 t.keys.length kx2, .bool t.over, .int .i64 t.limit, .slice ax3 t.tests.length kx3, .slice aA A.length kA, .slice aB B.length kB]) hq rfl rfl trivial hr (HCM.out u hu)))
  clear hcc
  have HNE := hid (show ∀ u : World, Below W4.heap.size W4 u → LB ≠ u.heap.size ∧ CB ≠ u.heap.size ∧ LB ≠ u.heap.size + 1 ∧ CB ≠ u.heap.size + 1 from fun u hu => by
    have h1 := (Array.getElem?_eq_some_iff.1 HL4.out).1
    have h2 := (Array.getElem?_eq_some_iff.1 HC4.out).1
    have h3 := hu.size
    omega)
  have HRQ1 := hid (requires_ok w5.drew)
  have HRQ2 := hid (requires_ok (w5.alloc (.cells #[.slice none 0 0, .int .i64 0, .bool false, .int .i64 0] 53)).drew)
  have HK5 := hid (show (w5.alloc (.cells #[.slice none 0 0, .int .i64 0, .bool false, .int .i64 0] 53)).drew.heap[w5.heap.size]? = some (.cells #[.slice none 0 0, .int .i64 0, .bool false, .int .i64 0] 53) from tl_at (w := w5) _ rfl)
  have HKB := hid (show Below W4.heap.size W4 (w5.alloc (.cells #[.slice none 0 0, .int .i64 0, .bool false, .int .i64 0] 53)).drew from (HB5.out.alloc HB5.out.size _).drew)
  have HJA := hid (show ∀ (u : World) (v0 v1 v2 v3 v4 v5 v6 v7 v8 v9 v10 v11 : Value), Below W4.heap.size W4 u → CmdM anyB 2 u reqC [v0, v1, v2, v3, v4, v5, v6, v7, v8, v9, v10, v11] → Calls Tryz.prog 15 #[.slice (some ⟨u.heap.size, 0, none⟩) 2 2, .agg #[.string (S o.fl), .string (S o.fd), .string (S o.tl), .string (S o.td), .string (S o.tx)]] (u.alloc (.cells #[v0, v1, v2, v3, v4, v5, v6, v7, v8, v9, v10, v11, .int .i64 2, .slice none 0 0, .int .i64 t.kind, .int .i64 t.mat, .int .i64 t.part, .slice ax1 t.names.length kx1, .slice ax2 t.keys.length kx2, .bool t.over, .int .i64 t.limit, .slice ax3 t.tests.length kx3, .slice aA A.length kA, .slice aB B.length kB] 50)) (CrsR (u.alloc (.cells #[v0, v1, v2, v3, v4, v5, v6, v7, v8, v9, v10, v11, .int .i64 2, .slice none 0 0, .int .i64 t.kind, .int .i64 t.mat, .int .i64 t.part, .slice ax1 t.names.length kx1, .slice ax2 t.keys.length kx2, .bool t.over, .int .i64 t.limit, .slice ax3 t.tests.length kx3, .slice aA A.length kA, .slice aB B.length kB] 50)) cc) from fun u v0 v1 v2 v3 v4 v5 v6 v7 v8 v9 v10 v11 hu hr => HJ.out _ _ v0 v1 v2 v3 v4 v5 v6 v7 v8 v9 v10 v11 (hu.alloc hu.size _) (tl_at (w := u) _ rfl) (CmdM.more _ 4 _ _ (by omega) (CmdM.next hr ((Below.refl _ _).alloc (Nat.le_refl _) _))))
  have HJB := hid (show ∀ (u : World) (v0 v1 v2 v3 v4 v5 v6 v7 v8 v9 v10 v11 : Value), Below W4.heap.size W4 u → CmdM anyB 2 u reqC [v0, v1, v2, v3, v4, v5, v6, v7, v8, v9, v10, v11] → Calls Tryz.prog 15 #[.slice (some ⟨u.heap.size + 1, 0, none⟩) 2 2, .agg #[.string (S o.fl), .string (S o.fd), .string (S o.tl), .string (S o.td), .string (S o.tx)]] ((u.alloc (.cells #[.slice none 0 0, .int .i64 0, .bool false, .int .i64 0] 53)).alloc (.cells #[v0, v1, v2, v3, v4, v5, v6, v7, v8, v9, v10, v11, .int .i64 2, .slice none 0 0, .int .i64 t.kind, .int .i64 t.mat, .int .i64 t.part, .slice ax1 t.names.length kx1, .slice ax2 t.keys.length kx2, .bool t.over, .int .i64 t.limit, .slice ax3 t.tests.length kx3, .slice aA A.length kA, .slice aB B.length kB] 50)) (CrsR ((u.alloc (.cells #[.slice none 0 0, .int .i64 0, .bool false, .int .i64 0] 53)).alloc (.cells #[v0, v1, v2, v3, v4, v5, v6, v7, v8, v9, v10, v11, .int .i64 2, .slice none 0 0, .int .i64 t.kind, .int .i64 t.mat, .int .i64 t.part, .slice ax1 t.names.length kx1, .slice ax2 t.keys.length kx2, .bool t.over, .int .i64 t.limit, .slice ax3 t.tests.length kx3, .slice aA A.length kA, .slice aB B.length kB] 50)) cc) from fun u v0 v1 v2 v3 v4 v5 v6 v7 v8 v9 v10 v11 hu hr => HJ.out _ _ v0 v1 v2 v3 v4 v5 v6 v7 v8 v9 v10 v11 ((hu.alloc hu.size _).alloc (by have := hu.size; simp; omega) _) (heap_at _ (by simp)) (CmdM.more _ 4 _ _ (by omega) (CmdM.next hr (((Below.refl _ _).alloc (Nat.le_refl _) _).alloc (by simp) _))))
  have HJC := hid (show ∀ (u : World) (v0 v1 v2 v3 v4 v5 v6 v7 v8 v9 v10 v11 : Value), Below W4.heap.size W4 u → CmdM anyB 2 u reqC [v0, v1, v2, v3, v4, v5, v6, v7, v8, v9, v10, v11] → Calls Tryz.prog 15 #[.slice (some ⟨u.heap.size, 0, none⟩) 2 2, .agg #[.string (S o.fl), .string (S o.fd), .string (S o.tl), .string (S o.td), .string (S o.tx)]] ((u.alloc (.cells #[v0, v1, v2, v3, v4, v5, v6, v7, v8, v9, v10, v11, .int .i64 2, .slice none 0 0, .int .i64 t.kind, .int .i64 t.mat, .int .i64 t.part, .slice ax1 t.names.length kx1, .slice ax2 t.keys.length kx2, .bool t.over, .int .i64 t.limit, .slice ax3 t.tests.length kx3, .slice aA A.length kA, .slice aB B.length kB] 50)).alloc (.cells #[.slice none 0 0, .int .i64 0, .bool false, .int .i64 0] 53)) (CrsR ((u.alloc (.cells #[v0, v1, v2, v3, v4, v5, v6, v7, v8, v9, v10, v11, .int .i64 2, .slice none 0 0, .int .i64 t.kind, .int .i64 t.mat, .int .i64 t.part, .slice ax1 t.names.length kx1, .slice ax2 t.keys.length kx2, .bool t.over, .int .i64 t.limit, .slice ax3 t.tests.length kx3, .slice aA A.length kA, .slice aB B.length kB] 50)).alloc (.cells #[.slice none 0 0, .int .i64 0, .bool false, .int .i64 0] 53)) cc) from fun u v0 v1 v2 v3 v4 v5 v6 v7 v8 v9 v10 v11 hu hr => HJ.out _ _ v0 v1 v2 v3 v4 v5 v6 v7 v8 v9 v10 v11 ((hu.alloc hu.size _).alloc (by have := hu.size; simp; omega) _) (heap_old _ (heap_at _ rfl)) (CmdM.more _ 4 _ _ (by omega) (CmdM.next hr (((Below.refl _ _).alloc (Nat.le_refl _) _).alloc (by simp) _))))
  have HZA := hid (show ∀ (u z : World) (b : Obj), Below W4.heap.size W4 u → Below (u.alloc b).heap.size (u.alloc b) z → Below W4.heap.size W4 z from fun u z b hu hz => (hu.alloc hu.size _).trans (hz.mono (by have := hu.size; simp; omega)))
  have HZB := hid (show ∀ (u z : World) (b d : Obj), Below W4.heap.size W4 u → Below ((u.alloc b).alloc d).heap.size ((u.alloc b).alloc d) z → Below W4.heap.size W4 z from fun u z b d hu hz => ((hu.alloc hu.size _).alloc (by have := hu.size; simp; omega) _).trans (hz.mono (by have := hu.size; simp; omega)))
  have HKb := hid (show ∀ (u : World) (b : Obj), ((u.alloc (.cells #[.slice none 0 0, .int .i64 0, .bool false, .int .i64 0] 53)).alloc b).heap[u.heap.size]? = some (.cells #[.slice none 0 0, .int .i64 0, .bool false, .int .i64 0] 53) from fun u b => heap_old _ (heap_at _ rfl))
  have HKc := hid (show ∀ (u : World) (b : Obj), ((u.alloc b).alloc (.cells #[.slice none 0 0, .int .i64 0, .bool false, .int .i64 0] 53)).heap[u.heap.size + 1]? = some (.cells #[.slice none 0 0, .int .i64 0, .bool false, .int .i64 0] 53) from fun u b => heap_at _ (by simp))
  have hl := tl_low HB5.out HL4.out
  have l0 := tl_cell (j := 0) hl rfl
  have l1 := tl_cell (j := 1) hl rfl
  have l2 := tl_cell (j := 2) hl rfl
  have l3 := tl_cell (j := 3) hl rfl
  have l4 := tl_cell (j := 4) hl rfl
  clear hl
  have hc := tl_low HB5.out HC4.out
  have c0 := tl_cell (j := 0) hc rfl
  have c1 := tl_cell (j := 1) hc rfl
  have c2 := tl_cell (j := 2) hc rfl
  have c3 := tl_cell (j := 3) hc rfl
  have c4 := tl_cell (j := 4) hc rfl
  have c5 := tl_cell (j := 5) hc rfl
  have c6 := tl_cell (j := 6) hc rfl
  have c7 := tl_cell (j := 7) hc rfl
  have c8 := tl_cell (j := 8) hc rfl
  have c9 := tl_cell (j := 9) hc rfl
  have c10 := tl_cell (j := 10) hc rfl
  have c11 := tl_cell (j := 11) hc rfl
  clear hc
  go_wp2
  go_cut [14, 15] (fun p e wx => CBox W4 cc p e wx)
  case first =>
    go_region_held3 (fun w' => w'.cell? ⟨LB, 0, none⟩ = some (.string (S o.fl)) ∧ w'.cell? ⟨LB, 1, none⟩ = some (.string (S o.fd)) ∧ w'.cell? ⟨LB, 2, none⟩ = some (.string (S o.tl)) ∧ w'.cell? ⟨LB, 3, none⟩ = some (.string (S o.td)) ∧ w'.cell? ⟨LB, 4, none⟩ = some (.string (S o.tx)) ∧ w'.cell? ⟨CB, 0, none⟩ = some (.int .i64 2) ∧ w'.cell? ⟨CB, 1, none⟩ = some (.slice none 0 0) ∧ w'.cell? ⟨CB, 2, none⟩ = some (.int .i64 t.kind) ∧ w'.cell? ⟨CB, 3, none⟩ = some (.int .i64 t.mat) ∧ w'.cell? ⟨CB, 4, none⟩ = some (.int .i64 t.part) ∧ w'.cell? ⟨CB, 5, none⟩ = some (.slice ax1 t.names.length kx1) ∧ w'.cell? ⟨CB, 6, none⟩ = some (.slice ax2 t.keys.length kx2) ∧ w'.cell? ⟨CB, 7, none⟩ = some (.bool t.over) ∧ w'.cell? ⟨CB, 8, none⟩ = some (.int .i64 t.limit) ∧ w'.cell? ⟨CB, 9, none⟩ = some (.slice ax3 t.tests.length kx3) ∧ w'.cell? ⟨CB, 10, none⟩ = some (.slice aA A.length kA) ∧ w'.cell? ⟨CB, 11, none⟩ = some (.slice aB B.length kB)) (first | go_keep | (refine ⟨?_, ?_, ?_, ?_, ?_, ?_, ?_, ?_, ?_, ?_, ?_, ?_, ?_, ?_, ?_, ?_, ?_⟩ <;> first | exact far4 (HNE.out w5 HB5.out).1 (by assumption) | exact far4 (HNE.out w5 HB5.out).2.1 (by assumption) | exact far4 (HNE.out w5 HB5.out).2.2.1 (by assumption) | exact far4 (HNE.out w5 HB5.out).2.2.2 (by assumption) | exact far4 (HNE.out w6 HB6.out).1 (by assumption) | exact far4 (HNE.out w6 HB6.out).2.1 (by assumption) | exact far4 (HNE.out w6 HB6.out).2.2.1 (by assumption) | exact far4 (HNE.out w6 HB6.out).2.2.2 (by assumption)))
      (first
        | (go_at_call 16
           with_reducible refine HRQ1.out.mono ?_
           rintro e w6 ⟨v0, v1, v2, v3, v4, v5, v6, v7, v8, v9, v10, v11, rfl, hR6, hb6⟩
           have HB6 := hid (show Below W4.heap.size W4 w6 from HB5.out.drew.trans (hb6.mono HB5.out.drew.size))
           have HR6 := hid (CmdM.imp (fun _ _ => trivial) (Keeps.refl _ _) _ _ _ hR6)
           have HJa := hid (HJA.out w6 v0 v1 v2 v3 v4 v5 v6 v7 v8 v9 v10 v11 HB6.out HR6.out)
           have HJb := hid (HJB.out w6 v0 v1 v2 v3 v4 v5 v6 v7 v8 v9 v10 v11 HB6.out HR6.out)
           have HJc := hid (HJC.out w6 v0 v1 v2 v3 v4 v5 v6 v7 v8 v9 v10 v11 HB6.out HR6.out)
           clear hR6 hb6 l0 l1 l2 l3 l4 c0 c1 c2 c3 c4 c5 c6 c7 c8 c9 c10 c11
           have hl := tl_low HB6.out HL4.out
           have l0 := tl_cell (j := 0) hl rfl
           have l1 := tl_cell (j := 1) hl rfl
           have l2 := tl_cell (j := 2) hl rfl
           have l3 := tl_cell (j := 3) hl rfl
           have l4 := tl_cell (j := 4) hl rfl
           clear hl
           have hc := tl_low HB6.out HC4.out
           have c0 := tl_cell (j := 0) hc rfl
           have c1 := tl_cell (j := 1) hc rfl
           have c2 := tl_cell (j := 2) hc rfl
           have c3 := tl_cell (j := 3) hc rfl
           have c4 := tl_cell (j := 4) hc rfl
           have c5 := tl_cell (j := 5) hc rfl
           have c6 := tl_cell (j := 6) hc rfl
           have c7 := tl_cell (j := 7) hc rfl
           have c8 := tl_cell (j := 8) hc rfl
           have c9 := tl_cell (j := 9) hc rfl
           have c10 := tl_cell (j := 10) hc rfl
           have c11 := tl_cell (j := 11) hc rfl
           clear hc)
        | (go_at_call 16
           with_reducible refine HRQ2.out.mono ?_
           rintro e w6 ⟨v0, v1, v2, v3, v4, v5, v6, v7, v8, v9, v10, v11, rfl, hR6, hb6⟩
           have HB6 := hid (show Below W4.heap.size W4 w6 from HKB.out.trans (hb6.mono HKB.out.size))
           have HR6 := hid (CmdM.imp (fun _ _ => trivial) (Keeps.refl _ _) _ _ _ hR6)
           have HJa := hid (HJA.out w6 v0 v1 v2 v3 v4 v5 v6 v7 v8 v9 v10 v11 HB6.out HR6.out)
           have HK6 := hid (tl_low hb6 HK5.out)
           clear hR6 hb6 l0 l1 l2 l3 l4 c0 c1 c2 c3 c4 c5 c6 c7 c8 c9 c10 c11
           have hl := tl_low HB6.out HL4.out
           have l0 := tl_cell (j := 0) hl rfl
           have l1 := tl_cell (j := 1) hl rfl
           have l2 := tl_cell (j := 2) hl rfl
           have l3 := tl_cell (j := 3) hl rfl
           have l4 := tl_cell (j := 4) hl rfl
           clear hl
           have hc := tl_low HB6.out HC4.out
           have c0 := tl_cell (j := 0) hc rfl
           have c1 := tl_cell (j := 1) hc rfl
           have c2 := tl_cell (j := 2) hc rfl
           have c3 := tl_cell (j := 3) hc rfl
           have c4 := tl_cell (j := 4) hc rfl
           have c5 := tl_cell (j := 5) hc rfl
           have c6 := tl_cell (j := 6) hc rfl
           have c7 := tl_cell (j := 7) hc rfl
           have c8 := tl_cell (j := 8) hc rfl
           have c9 := tl_cell (j := 9) hc rfl
           have c10 := tl_cell (j := 10) hc rfl
           have c11 := tl_cell (j := 11) hc rfl
           clear hc)
        | (go_at_call 15
           with_reducible refine HJa.out.mono ?_
           rintro e w7 ⟨a7, k7, he, hA7, hn7, hb7⟩
           have he' : e = .returned (.tuple #[.agg #[.slice a7 cc.acts.length k7, .int .i64 cc.flags, .bool cc.asked, .int .i64 cc.fault], .int .i64 0]) := he
           subst he'
           have HA7 := hid hA7
           have HB7 := hid (HZA.out w6 w7 _ HB6.out hb7)
           first
             | (have HK7 := hid (tl_low hb7 (heap_old _ HK6.out))
                have hk7 := HK7.out
                have y0 := box_free hk7 0
                have y1 := box_free hk7 1
                have y2 := box_free hk7 2
                have y3 := box_free hk7 3
                have z0 := tl_cell (j := 0) hk7 rfl
                have z1 := tl_cell (j := 1) hk7 rfl
                have z2 := tl_cell (j := 2) hk7 rfl
                have z3 := tl_cell (j := 3) hk7 rfl
                clear hk7)
             | skip
           clear hA7 hn7 hb7 l0 l1 l2 l3 l4 c0 c1 c2 c3 c4 c5 c6 c7 c8 c9 c10 c11
           have hl := tl_low HB7.out HL4.out
           have l0 := tl_cell (j := 0) hl rfl
           have l1 := tl_cell (j := 1) hl rfl
           have l2 := tl_cell (j := 2) hl rfl
           have l3 := tl_cell (j := 3) hl rfl
           have l4 := tl_cell (j := 4) hl rfl
           clear hl
           have hc := tl_low HB7.out HC4.out
           have c0 := tl_cell (j := 0) hc rfl
           have c1 := tl_cell (j := 1) hc rfl
           have c2 := tl_cell (j := 2) hc rfl
           have c3 := tl_cell (j := 3) hc rfl
           have c4 := tl_cell (j := 4) hc rfl
           have c5 := tl_cell (j := 5) hc rfl
           have c6 := tl_cell (j := 6) hc rfl
           have c7 := tl_cell (j := 7) hc rfl
           have c8 := tl_cell (j := 8) hc rfl
           have c9 := tl_cell (j := 9) hc rfl
           have c10 := tl_cell (j := 10) hc rfl
           have c11 := tl_cell (j := 11) hc rfl
           clear hc)
        | (go_at_call 15
           with_reducible refine HJb.out.mono ?_
           rintro e w7 ⟨a7, k7, he, hA7, hn7, hb7⟩
           have he' : e = .returned (.tuple #[.agg #[.slice a7 cc.acts.length k7, .int .i64 cc.flags, .bool cc.asked, .int .i64 cc.fault], .int .i64 0]) := he
           subst he'
           have HA7 := hid hA7
           have HB7 := hid (HZB.out w6 w7 _ _ HB6.out hb7)
           have HKB7 := hid (tl_low hb7 (HKb.out w6 _))
           have hk7 := HKB7.out
           have y0 := box_free hk7 0
           have y1 := box_free hk7 1
           have y2 := box_free hk7 2
           have y3 := box_free hk7 3
           have z0 := tl_cell (j := 0) hk7 rfl
           have z1 := tl_cell (j := 1) hk7 rfl
           have z2 := tl_cell (j := 2) hk7 rfl
           have z3 := tl_cell (j := 3) hk7 rfl
           clear hA7 hn7 hb7 hk7 l0 l1 l2 l3 l4 c0 c1 c2 c3 c4 c5 c6 c7 c8 c9 c10 c11
           have hl := tl_low HB7.out HL4.out
           have l0 := tl_cell (j := 0) hl rfl
           have l1 := tl_cell (j := 1) hl rfl
           have l2 := tl_cell (j := 2) hl rfl
           have l3 := tl_cell (j := 3) hl rfl
           have l4 := tl_cell (j := 4) hl rfl
           clear hl
           have hc := tl_low HB7.out HC4.out
           have c0 := tl_cell (j := 0) hc rfl
           have c1 := tl_cell (j := 1) hc rfl
           have c2 := tl_cell (j := 2) hc rfl
           have c3 := tl_cell (j := 3) hc rfl
           have c4 := tl_cell (j := 4) hc rfl
           have c5 := tl_cell (j := 5) hc rfl
           have c6 := tl_cell (j := 6) hc rfl
           have c7 := tl_cell (j := 7) hc rfl
           have c8 := tl_cell (j := 8) hc rfl
           have c9 := tl_cell (j := 9) hc rfl
           have c10 := tl_cell (j := 10) hc rfl
           have c11 := tl_cell (j := 11) hc rfl
           clear hc)
        | (go_at_call 15
           with_reducible refine HJc.out.mono ?_
           rintro e w7 ⟨a7, k7, he, hA7, hn7, hb7⟩
           have he' : e = .returned (.tuple #[.agg #[.slice a7 cc.acts.length k7, .int .i64 cc.flags, .bool cc.asked, .int .i64 cc.fault], .int .i64 0]) := he
           subst he'
           have HA7 := hid hA7
           have HB7 := hid (HZB.out w6 w7 _ _ HB6.out hb7)
           have HKC7 := hid (tl_low hb7 (HKc.out w6 _))
           have hk7 := HKC7.out
           have y0 := box_free hk7 0
           have y1 := box_free hk7 1
           have y2 := box_free hk7 2
           have y3 := box_free hk7 3
           have z0 := tl_cell (j := 0) hk7 rfl
           have z1 := tl_cell (j := 1) hk7 rfl
           have z2 := tl_cell (j := 2) hk7 rfl
           have z3 := tl_cell (j := 3) hk7 rfl
           clear hA7 hn7 hb7 hk7 l0 l1 l2 l3 l4 c0 c1 c2 c3 c4 c5 c6 c7 c8 c9 c10 c11
           have hl := tl_low HB7.out HL4.out
           have l0 := tl_cell (j := 0) hl rfl
           have l1 := tl_cell (j := 1) hl rfl
           have l2 := tl_cell (j := 2) hl rfl
           have l3 := tl_cell (j := 3) hl rfl
           have l4 := tl_cell (j := 4) hl rfl
           clear hl
           have hc := tl_low HB7.out HC4.out
           have c0 := tl_cell (j := 0) hc rfl
           have c1 := tl_cell (j := 1) hc rfl
           have c2 := tl_cell (j := 2) hc rfl
           have c3 := tl_cell (j := 3) hc rfl
           have c4 := tl_cell (j := 4) hc rfl
           have c5 := tl_cell (j := 5) hc rfl
           have c6 := tl_cell (j := 6) hc rfl
           have c7 := tl_cell (j := 7) hc rfl
           have c8 := tl_cell (j := 8) hc rfl
           have c9 := tl_cell (j := 9) hc rfl
           have c10 := tl_cell (j := 10) hc rfl
           have c11 := tl_cell (j := 11) hc rfl
           clear hc))
    all_goals
      first
        | (have HE := hid (CBox.old (W := W4) (P := w5.heap.size) HB5.out.size HK7.out HA7.out HB7.out)
           go_wp2_with fail
           go_meet
           exact HE.out)
        | (have HE := hid (CBox.old (W := W4) (P := w6.heap.size) HB6.out.size HKB7.out HA7.out HB7.out)
           go_wp2_with fail
           go_meet
           exact HE.out)
        | (have HE := hid (CBox.old (W := W4) (P := w6.heap.size + 1) (Nat.le_succ_of_le HB6.out.size) HKC7.out HA7.out HB7.out)
           go_wp2_with fail
           go_meet
           exact HE.out)
        | (have HE := hid (CBox.new (W := W4) HA7.out HB7.out)
           go_wp2_with fail
           go_meet
           exact HE.out)
  case rest =>
    obtain ⟨Wc, rfl⟩ : ∃ W, W = wc := ⟨_, rfl⟩
    obtain ⟨P, a3, k3, rfl, rfl, hP, hA3, hBc⟩ := hcut
    have HPc := hid hP
    have HAc := hid hA3
    have HBc := hid (HWB.out Wc hBc)
    have HLc := hid (tl_low hBc HL4.out)
    have hcc := tl_low hBc HC4.out
    clear l0 l1 l2 l3 l4 c0 c1 c2 c3 c4 c5 c6 c7 c8 c9 c10 c11 HRQ1 HRQ2 HK5 HKB HJA HJB HJC HZA HZB HKb HKc HNE HJ HB5
    have c10 := tl_cell (j := 10) hcc rfl
    have c11 := tl_cell (j := 11) hcc rfl
    obtain ⟨D, aS, kS, hDt, hDf⟩ : ∃ (D : List Cmd) (aS : Option Addr) (kS : Nat), (p = true → D = A ∧ aS = aA ∧ kS = kA) ∧ (p = false → D = B ∧ aS = aB ∧ kS = kB) := by
      cases p
      · exact ⟨B, aB, kB, (fun h => by cases h), fun _ => ⟨rfl, rfl, rfl⟩⟩
      · exact ⟨A, aA, kA, fun _ => ⟨rfl, rfl, rfl⟩, (fun h => by cases h)⟩
    have HD := hid (show CmdsM anyB 2 Wc (.slice aS D.length kS) D ∧ (∀ x ∈ D, NC x) ∧ D.length ≤ 4 ∧ (D = [] → aS = none ∧ kS = 0) ∧ (∀ x ∈ D, Flat x) by
      cases hp : p with
      | true => obtain ⟨rfl, rfl, rfl⟩ := hDt hp; exact ⟨CmdsM.next HA4m.out hBc, HAN.out, HA4.out, HAE.out, HFA.out⟩
      | false => obtain ⟨rfl, rfl, rfl⟩ := hDf hp; exact ⟨CmdsM.next HB4m.out hBc, HBN.out, HB4'.out, HBE.out, HFB.out⟩)
    have HCD := hid (show cc = judgeP o 3 (reqC :: D) by
      rw [HCC.out, judge_one, ← HPE.out]
      cases hp : p with
      | true => rw [(hDt hp).1]; rfl
      | false => rw [(hDf hp).1]; rfl)
    have HDT := hid hDt
    have HDF := hid hDf
    clear hDt hDf hP hA3 hBc hcc
    go_upto_if 51 with fail
    go_cut [16] (fun v wx => v = .slice aS D.length kS ∧ wx = Wc)
    case first =>
      cases p with
      | true =>
        obtain ⟨e1, e2, e3⟩ := HDT.out rfl
        have HE := hid (show (Value.slice aA A.length kA) = .slice aS D.length kS by rw [e1, e2, e3])
        clear e1 e2 e3
        go_wp2_with fail
        go_meet
        exact ⟨HE.out, rfl⟩
      | false =>
        obtain ⟨e1, e2, e3⟩ := HDF.out rfl
        have HE := hid (show (Value.slice aB B.length kB) = .slice aS D.length kS by rw [e1, e2, e3])
        clear e1 e2 e3
        go_wp2_with fail
        go_meet
        exact ⟨HE.out, rfl⟩
    case rest =>
      obtain ⟨rfl, hwc⟩ := hcut
      subst hwc
      have hD4 : D.length ≤ 4 := HD.out.2.2.1
      have HDM := hid (show CmdsM anyB 3 wc (.slice aS D.length kS) D from RowM.imp HD.out.1 (fun _ h => h) (Keeps.refl _ _) fun _ _ h => CmdM.more _ 3 _ _ (by omega) h)
      have HCKD := hid (show checkM 3 (reqC :: D) = 0 from check_zero (fun y hy => by
        simp only [List.mem_cons] at hy
        rcases hy with rfl | hy
        · exact fault_req 3
        · exact fault_row (n := 3) HD.out.1 HD.out.2.1 (by omega) y hy) (side_check HD.out.2.2.2.2 HD.out.2.1 hD4 3))
      have HJD := hid (show ∀ (u : World) (q cap : Nat), Below wc.heap.size wc u → CmdsM anyB 3 u (.slice (some ⟨q, 0, none⟩) (reqC :: D).length cap) (reqC :: D) → D.length + 1 ≤ cap → Calls Tryz.prog 15 #[.slice (some ⟨q, 0, none⟩) (1 + D.length) cap, .agg #[.string (S o.fl), .string (S o.fd), .string (S o.tl), .string (S o.td), .string (S o.tx)]] u (CrsR u cc) from fun u q cap hu hC hk => by
        have hwu := HBc.out.trans (hu.mono HBc.out.size)
        have h := judge_scr o HO.out 2 D (some ⟨q, 0, none⟩) cap u (HM.out.1.next hwu) (maxLenCell_below HM.out.2 hwu) HD.out.2.1 HCKD.out hk hC
        rw [HCD.out, Nat.add_comm 1]
        exact h)
      have hLBs : LB < wc.heap.size := (Array.getElem?_eq_some_iff.1 HLc.out).1
      have hPs : P < wc.heap.size := (Array.getElem?_eq_some_iff.1 HPc.out).1
      have HRQ1 := hid (requires_ok wc.drew)
      have HRQ2 := hid (requires_ok (wc.alloc (.cells #[.slice none 0 0, .int .i64 0, .bool false, .int .i64 0] 53)).drew)
      have HK5 := hid (show (wc.alloc (.cells #[.slice none 0 0, .int .i64 0, .bool false, .int .i64 0] 53)).drew.heap[wc.heap.size]? = some (.cells #[.slice none 0 0, .int .i64 0, .bool false, .int .i64 0] 53) from tl_at (w := wc) _ rfl)
      have HKB := hid (show Below wc.heap.size wc (wc.alloc (.cells #[.slice none 0 0, .int .i64 0, .bool false, .int .i64 0] 53)).drew from ((Below.refl _ _).alloc (Nat.le_refl _) _).drew)
      have HZ0 := hid (Below.refl wc.heap.size wc)
      have hl := HLc.out
      have l0 := tl_cell (j := 0) hl rfl
      have l1 := tl_cell (j := 1) hl rfl
      have l2 := tl_cell (j := 2) hl rfl
      have l3 := tl_cell (j := 3) hl rfl
      have l4 := tl_cell (j := 4) hl rfl
      clear hl
      clear c10 c11
      go_wp2
      obtain ⟨Wd, rfl⟩ : ∃ W, W = wc := ⟨_, rfl⟩
      go_cut [17, 18] (fun q e wx => CBox Wd cc q e wx)
      case first =>
        by_cases hne : D = []
        · obtain ⟨rfl, rfl⟩ := HD.out.2.2.2.1 hne
          subst hne
          have HJE := hid (show ∀ (u : World) (q : Nat), Below Wd.heap.size Wd u → OwnCs 0 3 u (.slice (some ⟨q, 0, none⟩) 1 1) [reqC] → Calls Tryz.prog 15 #[.slice (some ⟨q, 0, none⟩) 1 1, .agg #[.string (S o.fl), .string (S o.fd), .string (S o.tl), .string (S o.td), .string (S o.tx)]] u (CrsR u cc) from fun u q hu hO => HJD.out u q 1 hu (RowM.imp (OwnRow.rowM (firm_cmd 3) hO (by unfold maxLen; simp)) (fun _ _ => trivial) (Keeps.refl _ _) fun _ _ h => CmdM.imp (fun _ _ => trivial) (Keeps.refl _ _) _ _ _ h) (Nat.le_refl _))
          go_region_held3 (fun w' => w'.cell? ⟨LB, 0, none⟩ = some (.string (S o.fl)) ∧ w'.cell? ⟨LB, 1, none⟩ = some (.string (S o.fd)) ∧ w'.cell? ⟨LB, 2, none⟩ = some (.string (S o.tl)) ∧ w'.cell? ⟨LB, 3, none⟩ = some (.string (S o.td)) ∧ w'.cell? ⟨LB, 4, none⟩ = some (.string (S o.tx))) (first | go_keep | (refine ⟨?_, ?_, ?_, ?_, ?_⟩ <;> exact far4 (by omega) (by assumption)))
            (first
              | (go_at_call 16
                 with_reducible refine HRQ1.out.mono ?_
                 rintro e w6 ⟨v0, v1, v2, v3, v4, v5, v6, v7, v8, v9, v10, v11, rfl, hR6, hb6⟩
                 have HB6 := hid (show Below Wd.heap.size Wd w6 from HZ0.out.drew.trans (hb6.mono HZ0.out.drew.size))
                 have h6s : Wd.heap.size ≤ w6.heap.size := HB6.out.size
                 have HR6 := hid (CmdM.imp (fun _ _ => trivial) (Keeps.refl _ _) _ _ _ hR6)
                 have HBa := hid (show Below w6.heap.size w6 (w6.alloc (.cells #[v0, v1, v2, v3, v4, v5, v6, v7, v8, v9, v10, v11] 50)) from (Below.refl _ _).alloc (Nat.le_refl _) _)
                 have HBb := hid (show Below w6.heap.size w6 ((w6.alloc (.cells #[.slice none 0 0, .int .i64 0, .bool false, .int .i64 0] 53)).alloc (.cells #[v0, v1, v2, v3, v4, v5, v6, v7, v8, v9, v10, v11] 50)) from ((Below.refl _ _).alloc (Nat.le_refl _) _).alloc (by simp) _)
                 have HBC := hid (show Below w6.heap.size w6 ((w6.alloc (.cells #[v0, v1, v2, v3, v4, v5, v6, v7, v8, v9, v10, v11] 50)).alloc (.cells #[.slice none 0 0, .int .i64 0, .bool false, .int .i64 0] 53)) from ((Below.refl _ _).alloc (Nat.le_refl _) _).alloc (by simp) _)
                 have HJa := hid (HJE.out _ w6.heap.size (HB6.out.trans (HBa.out.mono h6s)) (own_req HR6.out (Nat.le_refl _) HBa.out (heap_at _ rfl)))
                 have HJb := hid (HJE.out _ (w6.heap.size + 1) (HB6.out.trans (HBb.out.mono h6s)) (own_req HR6.out (Nat.le_succ _) HBb.out (heap_at _ (by simp))))
                 have HJc := hid (HJE.out _ w6.heap.size (HB6.out.trans (HBC.out.mono h6s)) (own_req HR6.out (Nat.le_refl _) HBC.out (heap_old _ (heap_at _ rfl))))
                 have HKb := hid (show ((w6.alloc (.cells #[.slice none 0 0, .int .i64 0, .bool false, .int .i64 0] 53)).alloc (.cells #[v0, v1, v2, v3, v4, v5, v6, v7, v8, v9, v10, v11] 50)).heap[w6.heap.size]? = some (.cells #[.slice none 0 0, .int .i64 0, .bool false, .int .i64 0] 53) from heap_old _ (heap_at _ rfl))
                 have HKc := hid (show ((w6.alloc (.cells #[v0, v1, v2, v3, v4, v5, v6, v7, v8, v9, v10, v11] 50)).alloc (.cells #[.slice none 0 0, .int .i64 0, .bool false, .int .i64 0] 53)).heap[w6.heap.size + 1]? = some (.cells #[.slice none 0 0, .int .i64 0, .bool false, .int .i64 0] 53) from heap_at _ (by simp))
                 clear hR6 hb6 l0 l1 l2 l3 l4
                 have hl := tl_low HB6.out HLc.out
                 have l0 := tl_cell (j := 0) hl rfl
                 have l1 := tl_cell (j := 1) hl rfl
                 have l2 := tl_cell (j := 2) hl rfl
                 have l3 := tl_cell (j := 3) hl rfl
                 have l4 := tl_cell (j := 4) hl rfl
                 clear hl)
              | (go_at_call 16
                 with_reducible refine HRQ2.out.mono ?_
                 rintro e w6 ⟨v0, v1, v2, v3, v4, v5, v6, v7, v8, v9, v10, v11, rfl, hR6, hb6⟩
                 have HB6 := hid (show Below Wd.heap.size Wd w6 from HKB.out.trans (hb6.mono HKB.out.size))
                 have h6s : Wd.heap.size ≤ w6.heap.size := HB6.out.size
                 have HR6 := hid (CmdM.imp (fun _ _ => trivial) (Keeps.refl _ _) _ _ _ hR6)
                 have HK6 := hid (tl_low hb6 HK5.out)
                 have HBa := hid (show Below w6.heap.size w6 (w6.alloc (.cells #[v0, v1, v2, v3, v4, v5, v6, v7, v8, v9, v10, v11] 50)) from (Below.refl _ _).alloc (Nat.le_refl _) _)
                 have HJd := hid (HJE.out _ w6.heap.size (HB6.out.trans (HBa.out.mono h6s)) (own_req HR6.out (Nat.le_refl _) HBa.out (heap_at _ rfl)))
                 have HKd := hid (show (w6.alloc (.cells #[v0, v1, v2, v3, v4, v5, v6, v7, v8, v9, v10, v11] 50)).heap[Wd.heap.size]? = some (.cells #[.slice none 0 0, .int .i64 0, .bool false, .int .i64 0] 53) from heap_old _ HK6.out)
                 clear hR6 hb6 l0 l1 l2 l3 l4
                 have hl := tl_low HB6.out HLc.out
                 have l0 := tl_cell (j := 0) hl rfl
                 have l1 := tl_cell (j := 1) hl rfl
                 have l2 := tl_cell (j := 2) hl rfl
                 have l3 := tl_cell (j := 3) hl rfl
                 have l4 := tl_cell (j := 4) hl rfl
                 clear hl)
              | (go_at_call 15
                 with_reducible refine HJd.out.mono ?_
                 rintro e w9 ⟨a9, k9, he, hA9, hn9, hb9⟩
                 have he' : e = .returned (.tuple #[.agg #[.slice a9 cc.acts.length k9, .int .i64 cc.flags, .bool cc.asked, .int .i64 cc.fault], .int .i64 0]) := he
                 subst he'
                 have HA9 := hid hA9
                 have HB9 := hid ((HB6.out.trans (HBa.out.mono h6s)).trans (hb9.mono (Nat.le_trans h6s HBa.out.size)))
                 have HK9 := hid (tl_low hb9 HKd.out)
                 first
                   | (have hk9 := HK9.out
                      have y0 := box_free hk9 0
                      have y1 := box_free hk9 1
                      have y2 := box_free hk9 2
                      have y3 := box_free hk9 3
                      have z0 := tl_cell (j := 0) hk9 rfl
                      have z1 := tl_cell (j := 1) hk9 rfl
                      have z2 := tl_cell (j := 2) hk9 rfl
                      have z3 := tl_cell (j := 3) hk9 rfl
                      clear hk9)
                   | skip
                 clear hA9 hn9 hb9 l0 l1 l2 l3 l4
                 have hl := tl_low HB9.out HLc.out
                 have l0 := tl_cell (j := 0) hl rfl
                 have l1 := tl_cell (j := 1) hl rfl
                 have l2 := tl_cell (j := 2) hl rfl
                 have l3 := tl_cell (j := 3) hl rfl
                 have l4 := tl_cell (j := 4) hl rfl
                 clear hl)
              | (go_at_call 15
                 with_reducible refine HJa.out.mono ?_
                 rintro e w9 ⟨a9, k9, he, hA9, hn9, hb9⟩
                 have he' : e = .returned (.tuple #[.agg #[.slice a9 cc.acts.length k9, .int .i64 cc.flags, .bool cc.asked, .int .i64 cc.fault], .int .i64 0]) := he
                 subst he'
                 have HA9 := hid hA9
                 have HB9 := hid ((HB6.out.trans (HBa.out.mono h6s)).trans (hb9.mono (Nat.le_trans h6s HBa.out.size)))
                 clear hA9 hn9 hb9 l0 l1 l2 l3 l4
                 have hl := tl_low HB9.out HLc.out
                 have l0 := tl_cell (j := 0) hl rfl
                 have l1 := tl_cell (j := 1) hl rfl
                 have l2 := tl_cell (j := 2) hl rfl
                 have l3 := tl_cell (j := 3) hl rfl
                 have l4 := tl_cell (j := 4) hl rfl
                 clear hl)
              | (go_at_call 15
                 with_reducible refine HJb.out.mono ?_
                 rintro e w9 ⟨a9, k9, he, hA9, hn9, hb9⟩
                 have he' : e = .returned (.tuple #[.agg #[.slice a9 cc.acts.length k9, .int .i64 cc.flags, .bool cc.asked, .int .i64 cc.fault], .int .i64 0]) := he
                 subst he'
                 have HA9 := hid hA9
                 have HB9 := hid ((HB6.out.trans (HBb.out.mono h6s)).trans (hb9.mono (Nat.le_trans h6s HBb.out.size)))
                 have HK9 := hid (tl_low hb9 HKb.out)
                 first
                   | (have hk9 := HK9.out
                      have y0 := box_free hk9 0
                      have y1 := box_free hk9 1
                      have y2 := box_free hk9 2
                      have y3 := box_free hk9 3
                      have z0 := tl_cell (j := 0) hk9 rfl
                      have z1 := tl_cell (j := 1) hk9 rfl
                      have z2 := tl_cell (j := 2) hk9 rfl
                      have z3 := tl_cell (j := 3) hk9 rfl
                      clear hk9)
                   | skip
                 clear hA9 hn9 hb9 l0 l1 l2 l3 l4
                 have hl := tl_low HB9.out HLc.out
                 have l0 := tl_cell (j := 0) hl rfl
                 have l1 := tl_cell (j := 1) hl rfl
                 have l2 := tl_cell (j := 2) hl rfl
                 have l3 := tl_cell (j := 3) hl rfl
                 have l4 := tl_cell (j := 4) hl rfl
                 clear hl)
              | (go_at_call 15
                 with_reducible refine HJc.out.mono ?_
                 rintro e w9 ⟨a9, k9, he, hA9, hn9, hb9⟩
                 have he' : e = .returned (.tuple #[.agg #[.slice a9 cc.acts.length k9, .int .i64 cc.flags, .bool cc.asked, .int .i64 cc.fault], .int .i64 0]) := he
                 subst he'
                 have HA9 := hid hA9
                 have HB9 := hid ((HB6.out.trans (HBC.out.mono h6s)).trans (hb9.mono (Nat.le_trans h6s HBC.out.size)))
                 have HK9 := hid (tl_low hb9 HKc.out)
                 first
                   | (have hk9 := HK9.out
                      have y0 := box_free hk9 0
                      have y1 := box_free hk9 1
                      have y2 := box_free hk9 2
                      have y3 := box_free hk9 3
                      have z0 := tl_cell (j := 0) hk9 rfl
                      have z1 := tl_cell (j := 1) hk9 rfl
                      have z2 := tl_cell (j := 2) hk9 rfl
                      have z3 := tl_cell (j := 3) hk9 rfl
                      clear hk9)
                   | skip
                 clear hA9 hn9 hb9 l0 l1 l2 l3 l4
                 have hl := tl_low HB9.out HLc.out
                 have l0 := tl_cell (j := 0) hl rfl
                 have l1 := tl_cell (j := 1) hl rfl
                 have l2 := tl_cell (j := 2) hl rfl
                 have l3 := tl_cell (j := 3) hl rfl
                 have l4 := tl_cell (j := 4) hl rfl
                 clear hl))
          all_goals
            first
              | (have HE := hid (CBox.old (W := Wd) (P := Wd.heap.size) (by omega) HK9.out HA9.out HB9.out)
                 go_wp2_with fail
                 go_meet
                 exact HE.out)
              | (have HE := hid (CBox.old (W := Wd) (P := w6.heap.size) (by omega) HK9.out HA9.out HB9.out)
                 go_wp2_with fail
                 go_meet
                 exact HE.out)
              | (have HE := hid (CBox.old (W := Wd) (P := w6.heap.size + 1) (by omega) HK9.out HA9.out HB9.out)
                 go_wp2_with fail
                 go_meet
                 exact HE.out)
              | (have HE := hid (CBox.new (W := Wd) HA9.out HB9.out)
                 go_wp2_with fail
                 go_meet
                 exact HE.out)
        · have hpos : 0 < D.length := List.length_pos_iff.2 hne
          obtain ⟨b2, o2, rfl⟩ : ∃ b o, aS = some ⟨b, o, none⟩ := by
            obtain ⟨a', c', he, _, hr⟩ := HDM.out
            obtain ⟨x0, hx0⟩ : ∃ x0, D[0]? = some x0 := ⟨_, List.getElem?_eq_getElem hpos⟩
            obtain ⟨b, o', _, ha, _⟩ := hr 0 x0 hx0
            simp only [Value.slice.injEq] at he
            exact ⟨b, o', he.1.trans ha⟩
          have HDB := hid (show ∀ (u : World) (R : Nat), Below Wd.heap.size Wd u → Wd.heap.size ≤ R → CmdsM (fun b => b ≠ R) 3 u (.slice (some ⟨b2, o2, none⟩) D.length kS) D from fun u R hu hR => RowM.imp (RowM.both HDM.out (CmdM.both 3)) (fun b hb => by have := hb.2; omega) (Keeps.of_below hu) fun _ _ h => CmdM.imp (fun b hb => by have := hb.2; omega) (Keeps.of_below hu) _ _ _ h)
          clear hne
          go_region_held3 (fun w' => w'.cell? ⟨LB, 0, none⟩ = some (.string (S o.fl)) ∧ w'.cell? ⟨LB, 1, none⟩ = some (.string (S o.fd)) ∧ w'.cell? ⟨LB, 2, none⟩ = some (.string (S o.tl)) ∧ w'.cell? ⟨LB, 3, none⟩ = some (.string (S o.td)) ∧ w'.cell? ⟨LB, 4, none⟩ = some (.string (S o.tx))) (first | go_keep | (refine ⟨?_, ?_, ?_, ?_, ?_⟩ <;> exact far4 (by omega) (by assumption)))
            (first
              | (go_at_call 16
                 with_reducible refine HRQ1.out.mono ?_
                 rintro e w6 ⟨v0, v1, v2, v3, v4, v5, v6, v7, v8, v9, v10, v11, rfl, hR6, hb6⟩
                 have HB6 := hid (show Below Wd.heap.size Wd w6 from HZ0.out.drew.trans (hb6.mono HZ0.out.drew.size))
                 have h6s : Wd.heap.size ≤ w6.heap.size := HB6.out.size
                 have HR6 := hid (CmdM.imp (fun _ _ => trivial) (Keeps.refl _ _) _ _ _ hR6)
                 have HBa := hid (show Below w6.heap.size w6 (w6.alloc (.cells #[v0, v1, v2, v3, v4, v5, v6, v7, v8, v9, v10, v11] 50)) from (Below.refl _ _).alloc (Nat.le_refl _) _)
                 have HBb := hid (show Below w6.heap.size w6 ((w6.alloc (.cells #[.slice none 0 0, .int .i64 0, .bool false, .int .i64 0] 53)).alloc (.cells #[v0, v1, v2, v3, v4, v5, v6, v7, v8, v9, v10, v11] 50)) from ((Below.refl _ _).alloc (Nat.le_refl _) _).alloc (by simp) _)
                 have HBC := hid (show Below w6.heap.size w6 ((w6.alloc (.cells #[v0, v1, v2, v3, v4, v5, v6, v7, v8, v9, v10, v11] 50)).alloc (.cells #[.slice none 0 0, .int .i64 0, .bool false, .int .i64 0] 53)) from ((Below.refl _ _).alloc (Nat.le_refl _) _).alloc (by simp) _)
                 have HOa := hid (own_req HR6.out (Nat.le_refl _) HBa.out (heap_at _ rfl))
                 have HOb := hid (own_req HR6.out (Nat.le_succ _) HBb.out (heap_at _ (by simp)))
                 have HOc := hid (own_req HR6.out (Nat.le_refl _) HBC.out (heap_old _ (heap_at _ rfl)))
                 have HLa := hid (HDB.out _ w6.heap.size (HB6.out.trans (HBa.out.mono h6s)) h6s)
                 have HLb := hid (HDB.out _ (w6.heap.size + 1) (HB6.out.trans (HBb.out.mono h6s)) (Nat.le_succ_of_le h6s))
                 have HLC := hid (HDB.out _ w6.heap.size (HB6.out.trans (HBC.out.mono h6s)) h6s)
                 have HKb := hid (show ((w6.alloc (.cells #[.slice none 0 0, .int .i64 0, .bool false, .int .i64 0] 53)).alloc (.cells #[v0, v1, v2, v3, v4, v5, v6, v7, v8, v9, v10, v11] 50)).heap[w6.heap.size]? = some (.cells #[.slice none 0 0, .int .i64 0, .bool false, .int .i64 0] 53) from heap_old _ (heap_at _ rfl))
                 have HKc := hid (show ((w6.alloc (.cells #[v0, v1, v2, v3, v4, v5, v6, v7, v8, v9, v10, v11] 50)).alloc (.cells #[.slice none 0 0, .int .i64 0, .bool false, .int .i64 0] 53)).heap[w6.heap.size + 1]? = some (.cells #[.slice none 0 0, .int .i64 0, .bool false, .int .i64 0] 53) from heap_at _ (by simp))
                 clear hR6 hb6 l0 l1 l2 l3 l4
                 have hl := tl_low HB6.out HLc.out
                 have l0 := tl_cell (j := 0) hl rfl
                 have l1 := tl_cell (j := 1) hl rfl
                 have l2 := tl_cell (j := 2) hl rfl
                 have l3 := tl_cell (j := 3) hl rfl
                 have l4 := tl_cell (j := 4) hl rfl
                 clear hl)
              | (go_at_call 16
                 with_reducible refine HRQ2.out.mono ?_
                 rintro e w6 ⟨v0, v1, v2, v3, v4, v5, v6, v7, v8, v9, v10, v11, rfl, hR6, hb6⟩
                 have HB6 := hid (show Below Wd.heap.size Wd w6 from HKB.out.trans (hb6.mono HKB.out.size))
                 have h6s : Wd.heap.size ≤ w6.heap.size := HB6.out.size
                 have HR6 := hid (CmdM.imp (fun _ _ => trivial) (Keeps.refl _ _) _ _ _ hR6)
                 have HK6 := hid (tl_low hb6 HK5.out)
                 have hk6s : Wd.heap.size < w6.heap.size := (Array.getElem?_eq_some_iff.1 HK6.out).1
                 have HBa := hid (show Below w6.heap.size w6 (w6.alloc (.cells #[v0, v1, v2, v3, v4, v5, v6, v7, v8, v9, v10, v11] 50)) from (Below.refl _ _).alloc (Nat.le_refl _) _)
                 have HOd := hid (own_req HR6.out (Nat.le_refl _) HBa.out (heap_at _ rfl))
                 have HLd := hid (HDB.out _ w6.heap.size (HB6.out.trans (HBa.out.mono h6s)) h6s)
                 have HKd := hid (show (w6.alloc (.cells #[v0, v1, v2, v3, v4, v5, v6, v7, v8, v9, v10, v11] 50)).heap[Wd.heap.size]? = some (.cells #[.slice none 0 0, .int .i64 0, .bool false, .int .i64 0] 53) from heap_old _ HK6.out)
                 clear hR6 hb6 l0 l1 l2 l3 l4
                 have hl := tl_low HB6.out HLc.out
                 have l0 := tl_cell (j := 0) hl rfl
                 have l1 := tl_cell (j := 1) hl rfl
                 have l2 := tl_cell (j := 2) hl rfl
                 have l3 := tl_cell (j := 3) hl rfl
                 have l4 := tl_cell (j := 4) hl rfl
                 clear hl)
              | (refine app_side (by rfl) _ _ (by rfl) (w6.heap.size) D b2 o2 kS (by rfl) HOa.out (by rfl) HLa.out hpos hD4 ?_
                 intro g8 cap8 w8 hC8 hk8 hg8
                 have HB8 := hid (show Below Wd.heap.size Wd w8 from (HB6.out.trans (HBa.out.mono h6s)).grown hg8 (by simp; omega) (fun j hj => by have := Option.some.inj hj; omega))
                 have h8s : Wd.heap.size ≤ w8.heap.size := HB8.out.size
                 have HJ8 := hid (HJD.out w8 g8 cap8 HB8.out hC8 hk8)
                 have HB8k := hid (show Below w8.heap.size w8 (w8.alloc (.cells #[.slice none 0 0, .int .i64 0, .bool false, .int .i64 0] 53)) from (Below.refl _ _).alloc (Nat.le_refl _) _)
                 have HJ8k := hid (HJD.out (w8.alloc (.cells #[.slice none 0 0, .int .i64 0, .bool false, .int .i64 0] 53)) g8 cap8 (HB8.out.trans (HB8k.out.mono h8s)) (CmdsM.next hC8 HB8k.out) hk8)
                 have HK8k := hid (show (w8.alloc (.cells #[.slice none 0 0, .int .i64 0, .bool false, .int .i64 0] 53)).heap[w8.heap.size]? = some (.cells #[.slice none 0 0, .int .i64 0, .bool false, .int .i64 0] 53) from heap_at _ rfl)
                 clear hC8 hk8 hg8 l0 l1 l2 l3 l4
                 have hl := tl_low HB8.out HLc.out
                 have l0 := tl_cell (j := 0) hl rfl
                 have l1 := tl_cell (j := 1) hl rfl
                 have l2 := tl_cell (j := 2) hl rfl
                 have l3 := tl_cell (j := 3) hl rfl
                 have l4 := tl_cell (j := 4) hl rfl
                 clear hl)
              | (refine app_side (by rfl) _ _ (by rfl) (w6.heap.size + 1) D b2 o2 kS (by rfl) HOb.out (by rfl) HLb.out hpos hD4 ?_
                 intro g8 cap8 w8 hC8 hk8 hg8
                 have HB8 := hid (show Below Wd.heap.size Wd w8 from (HB6.out.trans (HBb.out.mono h6s)).grown hg8 (by simp; omega) (fun j hj => by have := Option.some.inj hj; omega))
                 have h8s : Wd.heap.size ≤ w8.heap.size := HB8.out.size
                 have HJ8 := hid (HJD.out w8 g8 cap8 HB8.out hC8 hk8)
                 have HKe := hid (grown_keep hg8 HKb.out (by omega))
                 clear hC8 hk8 hg8 l0 l1 l2 l3 l4
                 have hl := tl_low HB8.out HLc.out
                 have l0 := tl_cell (j := 0) hl rfl
                 have l1 := tl_cell (j := 1) hl rfl
                 have l2 := tl_cell (j := 2) hl rfl
                 have l3 := tl_cell (j := 3) hl rfl
                 have l4 := tl_cell (j := 4) hl rfl
                 clear hl)
              | (refine app_side (by rfl) _ _ (by rfl) (w6.heap.size) D b2 o2 kS (by rfl) HOc.out (by rfl) HLC.out hpos hD4 ?_
                 intro g8 cap8 w8 hC8 hk8 hg8
                 have HB8 := hid (show Below Wd.heap.size Wd w8 from (HB6.out.trans (HBC.out.mono h6s)).grown hg8 (by simp; omega) (fun j hj => by have := Option.some.inj hj; omega))
                 have h8s : Wd.heap.size ≤ w8.heap.size := HB8.out.size
                 have HJ8 := hid (HJD.out w8 g8 cap8 HB8.out hC8 hk8)
                 have HKf := hid (grown_keep hg8 HKc.out (by omega))
                 clear hC8 hk8 hg8 l0 l1 l2 l3 l4
                 have hl := tl_low HB8.out HLc.out
                 have l0 := tl_cell (j := 0) hl rfl
                 have l1 := tl_cell (j := 1) hl rfl
                 have l2 := tl_cell (j := 2) hl rfl
                 have l3 := tl_cell (j := 3) hl rfl
                 have l4 := tl_cell (j := 4) hl rfl
                 clear hl)
              | (refine app_side (by rfl) _ _ (by rfl) (w6.heap.size) D b2 o2 kS (by rfl) HOd.out (by rfl) HLd.out hpos hD4 ?_
                 intro g8 cap8 w8 hC8 hk8 hg8
                 have HB8 := hid (show Below Wd.heap.size Wd w8 from (HB6.out.trans (HBa.out.mono h6s)).grown hg8 (by simp; omega) (fun j hj => by have := Option.some.inj hj; omega))
                 have h8s : Wd.heap.size ≤ w8.heap.size := HB8.out.size
                 have HJ8 := hid (HJD.out w8 g8 cap8 HB8.out hC8 hk8)
                 have HKg := hid (grown_keep hg8 HKd.out (by omega))
                 clear hC8 hk8 hg8 l0 l1 l2 l3 l4
                 have hl := tl_low HB8.out HLc.out
                 have l0 := tl_cell (j := 0) hl rfl
                 have l1 := tl_cell (j := 1) hl rfl
                 have l2 := tl_cell (j := 2) hl rfl
                 have l3 := tl_cell (j := 3) hl rfl
                 have l4 := tl_cell (j := 4) hl rfl
                 clear hl)
              | (go_at_call 15
                 with_reducible refine HJ8.out.mono ?_
                 rintro e w9 ⟨a9, k9, he, hA9, hn9, hb9⟩
                 have he' : e = .returned (.tuple #[.agg #[.slice a9 cc.acts.length k9, .int .i64 cc.flags, .bool cc.asked, .int .i64 cc.fault], .int .i64 0]) := he
                 subst he'
                 have HA9 := hid hA9
                 have HB9 := hid (HB8.out.trans (hb9.mono h8s))
                 first
                   | (have HK9 := hid (tl_low hb9 HKe.out))
                   | (have HK9 := hid (tl_low hb9 HKf.out))
                   | (have HK9 := hid (tl_low hb9 HKg.out))
                   | skip
                 first
                   | (have hk9 := HK9.out
                      have y0 := box_free hk9 0
                      have y1 := box_free hk9 1
                      have y2 := box_free hk9 2
                      have y3 := box_free hk9 3
                      have z0 := tl_cell (j := 0) hk9 rfl
                      have z1 := tl_cell (j := 1) hk9 rfl
                      have z2 := tl_cell (j := 2) hk9 rfl
                      have z3 := tl_cell (j := 3) hk9 rfl
                      clear hk9)
                   | skip
                 clear hA9 hn9 hb9 l0 l1 l2 l3 l4
                 have hl := tl_low HB9.out HLc.out
                 have l0 := tl_cell (j := 0) hl rfl
                 have l1 := tl_cell (j := 1) hl rfl
                 have l2 := tl_cell (j := 2) hl rfl
                 have l3 := tl_cell (j := 3) hl rfl
                 have l4 := tl_cell (j := 4) hl rfl
                 clear hl)
              | (go_at_call 15
                 with_reducible refine HJ8k.out.mono ?_
                 rintro e w9 ⟨a9, k9, he, hA9, hn9, hb9⟩
                 have he' : e = .returned (.tuple #[.agg #[.slice a9 cc.acts.length k9, .int .i64 cc.flags, .bool cc.asked, .int .i64 cc.fault], .int .i64 0]) := he
                 subst he'
                 have HA9 := hid hA9
                 have HB9 := hid ((HB8.out.trans (HB8k.out.mono h8s)).trans (hb9.mono (Nat.le_trans h8s HB8k.out.size)))
                 have HK9 := hid (tl_low hb9 HK8k.out)
                 first
                   | (have hk9 := HK9.out
                      have y0 := box_free hk9 0
                      have y1 := box_free hk9 1
                      have y2 := box_free hk9 2
                      have y3 := box_free hk9 3
                      have z0 := tl_cell (j := 0) hk9 rfl
                      have z1 := tl_cell (j := 1) hk9 rfl
                      have z2 := tl_cell (j := 2) hk9 rfl
                      have z3 := tl_cell (j := 3) hk9 rfl
                      clear hk9)
                   | skip
                 clear hA9 hn9 hb9 l0 l1 l2 l3 l4
                 have hl := tl_low HB9.out HLc.out
                 have l0 := tl_cell (j := 0) hl rfl
                 have l1 := tl_cell (j := 1) hl rfl
                 have l2 := tl_cell (j := 2) hl rfl
                 have l3 := tl_cell (j := 3) hl rfl
                 have l4 := tl_cell (j := 4) hl rfl
                 clear hl))
          all_goals
            first
              | (have HE := hid (CBox.old (W := Wd) (P := Wd.heap.size) (by omega) HK9.out HA9.out HB9.out)
                 go_wp2_with fail
                 go_meet
                 exact HE.out)
              | (have HE := hid (CBox.old (W := Wd) (P := w6.heap.size) (by omega) HK9.out HA9.out HB9.out)
                 go_wp2_with fail
                 go_meet
                 exact HE.out)
              | (have HE := hid (CBox.old (W := Wd) (P := w6.heap.size + 1) (by omega) HK9.out HA9.out HB9.out)
                 go_wp2_with fail
                 go_meet
                 exact HE.out)
              | (have HE := hid (CBox.old (W := Wd) (P := w8.heap.size) (by omega) HK9.out HA9.out HB9.out)
                 go_wp2_with fail
                 go_meet
                 exact HE.out)
              | (have HE := hid (CBox.new (W := Wd) HA9.out HB9.out)
                 go_wp2_with fail
                 go_meet
                 exact HE.out)
      case rest =>
        obtain ⟨P2, a4, k4, rfl, rfl, hP2, hA4, hBd⟩ := hcut
        obtain ⟨W9, hW9⟩ : ∃ W9, W9 = (wc.alloc (.cells #[.string ⟨#[97]⟩] 9)).alloc (.cells #[.int .i64 5, .slice (some ⟨wc.heap.size, 0, none⟩) 1 1, .int .i64 0, .int .i64 0, .int .i64 0, .slice none 0 0, .slice none 0 0, .bool false, .int .i64 0, .slice none 0 0, .slice none 0 0, .slice none 0 0] 50) := ⟨_, rfl⟩
        have HWE9 := hid hW9
        have hal : Below wc.heap.size wc W9 := by rw [hW9]; exact ((Below.refl _ _).alloc (Nat.le_refl _) _).alloc (by simp) _
        have hBd' := HBc.out.trans (hBd.mono HBc.out.size)
        have HB9 := hid (hBd'.trans (hal.mono hBd'.size))
        have HP2 := hid (tl_low hal hP2)
        have HA4' := hid (AtnsM.next hA4 hal)
        have HPd := hid (tl_low hal (tl_low hBd HPc.out))
        have HAd := hid (AtnsM.next (AtnsM.next HAc.out hBd) hal)
        have hl := tl_low hal (tl_low hBd HLc.out)
        rw [hW9] at hl
        have HFJ := hid (show Calls Tryz.prog 15 #[.slice (some ⟨wc.heap.size + 1, 0, none⟩) 1 1, .agg #[.string (S o.fl), .string (S o.fd), .string (S o.tl), .string (S o.td), .string (S o.tx)]] W9 (fun e w' => e = .returned (.tuple #[.agg #[.slice none 0 0, .int .i64 0, .bool false, .int .i64 0], .int .i64 8]) ∧ Below W9.heap.size W9 w') from Judge_bad 4 [fileJ] (some ⟨wc.heap.size + 1, 0, none⟩) 1 o W9 (HM.out.1.next HB9.out) (Nat.le_refl _) (fun h => by cases h) short_file (by rw [hW9]; exact fileJ_row wc) 8 (rule_fileJ 4) (by decide))
        have HOKc := hid (show cc.acts.length ≤ 6 by rw [HCC.out]; exact (judge_ok o 4 _).1)
        clear hP2 hA4 hBd hBd' hal hW9 l0 l1 l2 l3 l4 HRQ1 HRQ2 HK5 HKB HJD
        have l0 := tl_cell (j := 0) hl rfl
        have l1 := tl_cell (j := 1) hl rfl
        have l2 := tl_cell (j := 2) hl rfl
        have l3 := tl_cell (j := 3) hl rfl
        have l4 := tl_cell (j := 4) hl rfl
        clear hl
        go_wp2_with fail
        rw [← HWE9.out]
        refine HFJ.out.mono ?_
        rintro e w10 ⟨rfl, hb10⟩
        simp only
        obtain ⟨W11, hW11⟩ : ∃ W11, W11 = w10.alloc (.cells #[.slice none 0 0, .int .i64 0, .bool false, .int .i64 0] 53) := ⟨_, rfl⟩
        have HWE11 := hid hW11
        have hal : Below w10.heap.size w10 W11 := by rw [hW11]; exact (Below.refl _ _).alloc (Nat.le_refl _) _
        have hb11 := hb10.trans (hal.mono hb10.size)
        have HB11 := hid (HB9.out.trans (hb11.mono HB9.out.size))
        have hp := tl_low hb11 HPd.out
        rw [hW11] at hp
        have p0 := tl_cell (j := 0) hp rfl
        have p1 := tl_cell (j := 1) hp rfl
        have p2 := tl_cell (j := 2) hp rfl
        have p3 := tl_cell (j := 3) hp rfl
        have hq := tl_low hb11 HP2.out
        rw [hW11] at hq
        have q0 := tl_cell (j := 0) hq rfl
        have q1 := tl_cell (j := 1) hq rfl
        have q2 := tl_cell (j := 2) hq rfl
        have q3 := tl_cell (j := 3) hq rfl
        have HSA := hid (sameCourse_any a3 a4 k3 k4 cc W11 (AtnsM.next HAd.out hb11) (AtnsM.next HA4'.out hb11) HOKc.out)
        clear hb10 hal hb11 hp hq l0 l1 l2 l3 l4 hW11
        go_wp2_with fail
        rw [← HWE11.out]
        refine HSA.out.mono ?_
        rintro e w12 ⟨rfl, hb12⟩
        simp only
        have HB12 := hid (HB11.out.trans (hb12.mono HB11.out.size))
        clear hb12
        go_wp2
        go_ret
        exact ⟨rfl, HB12.out⟩
end Go.Proofs.YtlcnfpeabnnjoaaGreatDoor
