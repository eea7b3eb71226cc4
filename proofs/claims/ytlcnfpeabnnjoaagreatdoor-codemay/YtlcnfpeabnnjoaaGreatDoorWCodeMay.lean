/-
  What is compiled may be: each jump goes on: walked.
-/
import Derived.Test.YtlcnfpeabnnjoaaGreatDoorCodBad
import Derived.Test.YtlcnfpeabnnjoaaGreatDoorCodMpu
import Derived.Test.YtlcnfpeabnnjoaaGreatDoorMkScrX
import Derived.Test.YtlcnfpeabnnjoaaGreatDoorRulTabs
namespace Go.Proofs.YtlcnfpeabnnjoaaGreatDoor
open Go.RowKit Go.Proofs

theorem op_heads {Q : Nat → Prop} {w : World} {x : Opr} {cs : List Value} (h : OpM Q w x cs) : cs[0]? = some (.int .i64 x.kind) ∧ cs[1]? = some (.int .i64 x.to) := by
  obtain ⟨ts, ds, rfl, _⟩ := h
  exact ⟨rfl, rfl⟩
set_option maxHeartbeats 2000000 in
set_option maxRecDepth 100000 in
theorem codeMay_walk (w : World) (hm : TabsM w) (a : Option Addr) (c : Nat) (l : List Stk) (n : Nat) (hF : SticksM n w (.slice a l.length c) l) :
    Calls Tryz.prog 8 #[.slice a l.length c] w fun e w' => e = .returned (.bool true) ∧ Below w.heap.size w w' := by
  have HM := hid hm
  have HF := hid hF
  clear hm hF
  go_enter Tryz.func8, Tryz.ntmps8
  go_wp2_with fail
  refine (script_any 5 (by omega) cmds0 n l a c w HM.out.1.1 HF.out).mono ?_
  rintro e w1 ⟨r, a1, c1, rfl, hM1, hN, hck, ⟨hcap, _⟩, hb1⟩
  have HB1 := hid hb1
  have HC1 := hid (show CmdsM anyB 5 w1 (.slice a1 (reqC :: r).length c1) (reqC :: r) from RowM.imp hM1 (fun _ _ => trivial) (Keeps.refl _ _) fun _ _ h => CmdM.imp (fun _ _ => trivial) (Keeps.refl _ _) _ _ _ h)
  have HCP := hid (Compile_scr 4 r a1 c1 w1 (HM.out.1.next hb1) hN hck hcap HC1.out)
  have hG := scr_good hN 4
  obtain ⟨ops, hops⟩ : ∃ ops, ops = compM 5 (reqC :: r) := ⟨_, rfl⟩
  have hol : ops.length ≤ 400 := by rw [hops]; exact Nat.le_trans (comp_tok 5 _) (checkM_ok hck).2
  have hop : 0 < ops.length := by
    rw [hops]
    show 0 < ((oCmd 5 reqC 0) ++ _).length
    rw [List.length_append, show (oCmd 5 reqC 0).length = 1 from rfl]
    omega
  rw [show compM (4 + 1) (reqC :: r) = ops from hops.symm] at hG
  have HG := hid hG
  rw [← hops] at HCP
  clear hM1 hN hck hcap hb1 hops hG
  go_wp2_with fail
  refine HCP.out.mono ?_
  rintro e w2' ⟨a2, c2, he, hM2, hb2⟩
  rw [he]
  simp only
  have HB2 := hid (HB1.out.trans (hb2.mono HB1.out.size))
  obtain ⟨bb, oo, rfl⟩ : ∃ bb oo, a2 = some ⟨bb, oo, none⟩ := by
    obtain ⟨a', c', hv, _, hr⟩ := hM2
    simp only [Value.slice.injEq, true_and] at hv
    obtain ⟨rfl, rfl⟩ := hv
    obtain ⟨b, o, _, e, _⟩ := hr 0 _ (List.getElem?_eq_getElem hop)
    exact ⟨b, o, e⟩
  have HM2 := hid (show OpsM anyB w2' (.slice (some ⟨bb, oo, none⟩) ops.length c2) ops from RowM.imp hM2 (fun _ _ => trivial) (Keeps.refl _ _) fun _ _ h => firm_op _ _ _ _ _ _ (fun _ _ => trivial) (Keeps.refl _ _) h)
  have HCK := hid (check_fine ops bb oo c2 w2' hol HM2.out (op_fine ops w2' ((HM.out.1.next HB1.out).next hb2) HG.out))
  have i0 : ((ops.length : Int) == 0) = false := by simp; intro h; rw [h] at hop; simp at hop
  clear he hM2 hb2
  go_wp2_with fail
  refine HCK.out.mono ?_
  rintro e w2 ⟨rfl, hb3⟩
  have HB3 := hid (HB2.out.trans (hb3.mono HB2.out.size))
  have HO := hid (show OpsM anyB w2 (.slice (some ⟨bb, oo, none⟩) ops.length c2) ops from RowM.imp HM2.out (fun _ h => h) (Keeps.of_below hb3) fun _ _ h => firm_op _ _ _ _ _ _ (fun _ h => h) (Keeps.of_below hb3) h)
  clear hb3
  go_wp2
  go_loopw [5] (fun i wr => ∃ m : Nat, m ≤ ops.length ∧ i = .int .i64 m ∧ Hid (Below w2.heap.size w2 wr)) (fun i _ => ops.length - (intOf i).toNat)
  case atStart => exact ⟨0, Nat.zero_le _, rfl, hid (Below.refl _ _)⟩
  case round =>
    obtain ⟨m, hm, rfl, HI⟩ := hrel
    by_cases hlm : m < ops.length
    · have i1 : (m : Int) < (ops.length : Int) := by omega
      have i3 : (0 : Int) ≤ (m : Int) := by omega
      obtain ⟨x, hx⟩ : ∃ x, ops[m]? = some x := ⟨_, List.getElem?_eq_getElem hlm⟩
      obtain ⟨a', c', e, _, hrow⟩ := HO.out
      obtain ⟨b', o', cs, e2, hb', _, hcs, hcell, hP⟩ := hrow m x hx
      cases e
      cases e2
      have HCE := hid hcell
      have HP := hid hP
      have HCS := hid hcs
      clear hcell hP hrow hcs
      obtain ⟨WA, hWA⟩ : ∃ WA, WA = wr.alloc (.cells #[.int .i64 0, .int .i64 0, .int .i64 0, .int .i64 0, .int .i64 0, .slice none 0 0, .slice none 0 0, .bool false, .int .i64 0, .slice none 0 0, .int .i64 0, .slice none 0 0, .int .i64 0, .int .i64 0, .int .i64 0, .slice none 0 0, .slice none 0 0, .bool false, .int .i64 0, .slice none 0 0, .slice none 0 0, .slice none 0 0] 79) := ⟨_, rfl⟩
      have HWA := hid hWA
      have hZ : WA.heap[wr.heap.size]? = some (.cells #[.int .i64 0, .int .i64 0, .int .i64 0, .int .i64 0, .int .i64 0, .slice none 0 0, .slice none 0 0, .bool false, .int .i64 0, .slice none 0 0, .int .i64 0, .slice none 0 0, .int .i64 0, .int .i64 0, .int .i64 0, .slice none 0 0, .slice none 0 0, .bool false, .int .i64 0, .slice none 0 0, .slice none 0 0, .slice none 0 0] 79) := by rw [hWA]; exact heap_alloc_new wr _
      have HBA := hid (show Below w2.heap.size w2 WA by rw [hWA]; exact HI.out.alloc HI.out.size _)
      have HTH := hid (show WA.there wr.heap.size 0 cs.toArray.size by
        intro j hj
        have hj2 : j < 22 := by simpa [HCS.out] using hj
        rw [Nat.zero_add]
        have hget : ∃ u, ([.int .i64 0, .int .i64 0, .int .i64 0, .int .i64 0, .int .i64 0, .slice none 0 0, .slice none 0 0, .bool false, .int .i64 0, .slice none 0 0, .int .i64 0, .slice none 0 0, .int .i64 0, .int .i64 0, .int .i64 0, .slice none 0 0, .slice none 0 0, .bool false, .int .i64 0, .slice none 0 0, .slice none 0 0, .slice none 0 0] : List Value)[j]? = some u := ⟨_, List.getElem?_eq_getElem (by simpa using hj2)⟩
        obtain ⟨u, hu⟩ := hget
        exact ⟨by rw [gm_cell hZ (by simpa using hu)]; rfl, by simp [World.frozen?, hZ]⟩)
      have HSZ := hid (show (Tryz.prog.info? 79).map (·.size) = some cs.length by rw [HCS.out]; kernel_rfl)
      have HSZ2 := hid (show (Tryz.prog.info? 79).map (·.size) = some cs.toArray.size by rw [List.size_toArray]; exact HSZ.out)
      have HRg := hid (show wr.rangeAt bb (oo + m * 22) cs from fun j u hj => low_cell HI.out (Nat.le_refl _) (HCE.out j u hj))
      have HON := hid (all_oneCell_toArray (op_one HP.out))
      obtain ⟨WB, hWB⟩ : ∃ WB, WB = WA.setCells wr.heap.size 0 cs.toArray.toList := ⟨_, rfl⟩
      have HWB := hid hWB
      have HBB := hid (show Below w2.heap.size w2 WB by rw [hWB]; exact below_cells _ HI.out.size _ _ _ HBA.out)
      have HRB := hid (show WB.rangeAt wr.heap.size 0 cs by
        rw [hWB]
        exact World.rangeAt_setCells_same WA wr.heap.size 0 cs (by simpa using HTH.out))
      clear hWA hZ hWB
      have y0 : WB.cell? ⟨wr.heap.size, 0, none⟩ = some (.int .i64 x.kind) := by have h := HRB.out 0 _ (op_heads HP.out).1; exact h
      have y1 : WB.cell? ⟨wr.heap.size, 1, none⟩ = some (.int .i64 x.to) := by have h := HRB.out 1 _ (op_heads HP.out).2; exact h
      have HX := hid (HG.out m x hx)
      go_upto_region 7 with fail
      refine wp_region_lit ?_
      refine wpList_plain rfl (fun K hK => ?_)
      go_simp
      refine hK _ _ ?_
      clear hK K
      refine wpList_plain rfl (fun K hK => ?_)
      go_simp
      refine hK _ _ ?_
      clear hK K
      refine wpList_plain rfl (fun K hK => ?_)
      go_simp
      refine hK _ _ ?_
      clear hK K
      refine wpList_load_mid rfl 79 _ rfl bb (oo + m * 22) rfl cs _ HRg.out Tryz.underlying79 rfl HSZ.out ?_
      simp only [Act.put, List.setIfInBounds_toArray]
      refine wpList_plain rfl (fun K hK => ?_)
      go_simp
      refine hK _ _ ?_
      clear hK K
      rw [← HWA.out]
      refine wpList_store_mid rfl 79 _ _ rfl wr.heap.size 0 cs.toArray rfl rfl HTH.out HSZ2.out HON.out ?_
      rw [← HWB.out]
      refine wpList_nil ?_
      have HXo := HX.out
      rw [Nat.zero_add] at HXo
      rcases HXo with ⟨k, to', hk, rfl, h1, h2⟩ | rfl | ⟨t, _, rfl⟩ | ⟨c, _, rfl⟩
      · have j1 : (0 : Int) < (to' : Int) := by omega
        have j2 : ¬ (ops.length : Int) < (to' : Int) := by omega
        have j3 : ¬ (to' : Int) ≤ (m : Int) := by omega
        rw [show (jumpO k to').kind = k from rfl] at y0
        rw [show (jumpO k to').to = (to' : Int) from rfl] at y1
        clear h1 h2
        rcases hk with rfl | rfl | rfl
        all_goals (go_wp2; go_roundw)
        all_goals first
          | exact ⟨m + 1, by omega, by go_num, HBB⟩
          | (simp [intOf]; omega)
      · rw [show flipO.kind = 2 from rfl] at y0
        rw [show flipO.to = 0 from rfl] at y1
        go_wp2
        go_roundw
        case rel => exact ⟨m + 1, by omega, by go_num, HBB⟩
        case measure => simp [intOf]; omega
      · rw [show (askO t).kind = 1 from rfl] at y0
        rw [show (askO t).to = 0 from rfl] at y1
        go_wp2
        go_roundw
        case rel => exact ⟨m + 1, by omega, by go_num, HBB⟩
        case measure => simp [intOf]; omega
      · rw [show (doO c).kind = 6 from rfl] at y0
        rw [show (doO c).to = 0 from rfl] at y1
        go_wp2
        go_roundw
        case rel => exact ⟨m + 1, by omega, by go_num, HBB⟩
        case measure => simp [intOf]; omega
    · have i1 : ¬ (m : Int) < (ops.length : Int) := by omega
      obtain ⟨WC, hWC⟩ : ∃ WC, WC = wr.alloc (.cells #[.int .i64 2, .int .i64 0, .int .i64 0, .int .i64 0, .int .i64 0, .slice none 0 0, .slice none 0 0, .bool false, .int .i64 0, .slice none 0 0, .int .i64 0, .slice none 0 0, .int .i64 0, .int .i64 0, .int .i64 0, .slice none 0 0, .slice none 0 0, .bool false, .int .i64 0, .slice none 0 0, .slice none 0 0, .slice none 0 0, .int .i64 5, .int .i64 1, .int .i64 0, .int .i64 0, .int .i64 0, .slice none 0 0, .slice none 0 0, .bool false, .int .i64 0, .slice none 0 0, .int .i64 0, .slice none 0 0, .int .i64 0, .int .i64 0, .int .i64 0, .slice none 0 0, .slice none 0 0, .bool false, .int .i64 0, .slice none 0 0, .slice none 0 0, .slice none 0 0] 79) := ⟨_, rfl⟩
      have HWC := hid hWC
      have HBC := hid (show Below w2.heap.size w2 WC by rw [hWC]; exact HI.out.alloc HI.out.size _)
      have HBK := hid (show OpsM anyB WC (.slice (some ⟨wr.heap.size, 0, none⟩) [flipO, jumpO 5 1].length 2) [flipO, jumpO 5 1] by
        refine pairM (t := 79) (fr := (0, 0)) (cs := [.int .i64 2, .int .i64 0, .int .i64 0, .int .i64 0, .int .i64 0, .slice none 0 0, .slice none 0 0, .bool false, .int .i64 0, .slice none 0 0, .int .i64 0, .slice none 0 0, .int .i64 0, .int .i64 0, .int .i64 0, .slice none 0 0, .slice none 0 0, .bool false, .int .i64 0, .slice none 0 0, .slice none 0 0, .slice none 0 0]) (ds := [.int .i64 5, .int .i64 1, .int .i64 0, .int .i64 0, .int .i64 0, .slice none 0 0, .slice none 0 0, .bool false, .int .i64 0, .slice none 0 0, .int .i64 0, .slice none 0 0, .int .i64 0, .int .i64 0, .int .i64 0, .slice none 0 0, .slice none 0 0, .bool false, .int .i64 0, .slice none 0 0, .slice none 0 0, .slice none 0 0]) (by rw [hWC]; exact heap_alloc_new wr _) rfl rfl trivial ?_ ?_
        · exact ⟨_, _, rfl, none_tst _ _ _, ⟨_, _, _, _, _, _, rfl, rowM_nil _ _ _ _ _ _, none_tst _ _ _, rowM_nil _ _ _ _ _ _, rowM_nil _ _ _ _ _ _⟩⟩
        · exact ⟨_, _, rfl, none_tst _ _ _, ⟨_, _, _, _, _, _, rfl, rowM_nil _ _ _ _ _ _, none_tst _ _ _, rowM_nil _ _ _ _ _ _, rowM_nil _ _ _ _ _ _⟩⟩)
      have HBD := hid (check_bad [flipO, jumpO 5 1] 1 6 (by decide) (by decide) wr.heap.size 0 2 WC (by decide) HBK.out (told_back WC))
      clear hWC
      go_wp2_with fail
      rw [← HWC.out]
      refine HBD.out.mono ?_
      rintro e w4 ⟨rfl, hb4⟩
      have HBZ := hid (HB3.out.trans ((HBC.out.trans (hb4.mono HBC.out.size)).mono HB3.out.size))
      clear hb4
      go_wp2
      go_ret
      exact ⟨rfl, HBZ.out⟩
end Go.Proofs.YtlcnfpeabnnjoaaGreatDoor
