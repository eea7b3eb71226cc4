/-
  code.Check where an op is refused.
-/
import Derived.Test.YtlcnfpeabnnjoaaGreatDoorCodFin
namespace Go.Proofs.YtlcnfpeabnnjoaaGreatDoor
open Go.RowKit Go.Proofs

def OpTold (L : List Opr) (p : Nat) (e0 : Int) (w : World) : Prop := ∀ (i : Nat) (x : Opr) (cs : List Value), L[i]? = some x → OpM anyB w x cs →
  ∀ w', Below w.heap.size w w' → Calls Tryz.prog 44 #[.agg cs.toArray, .int .i64 i, .int .i64 L.length] w' fun e w'' => e = .returned (.int .i64 (if i = p then e0 else 0)) ∧ Below w'.heap.size w' w''
set_option maxHeartbeats 1000000 in
set_option maxRecDepth 100000 in
theorem check_bad (L : List Opr) (p : Nat) (e0 : Int) (he0 : e0 ≠ 0) (hp : p < L.length) (bb oo cap : Nat) (w : World) (hl : L.length ≤ 400) (hO : OpsM anyB w (.slice (some ⟨bb, oo, none⟩) L.length cap) L) (hF : OpTold L p e0 w) :
    Calls Tryz.prog 25 #[.slice (some ⟨bb, oo, none⟩) L.length cap] w fun e w' => e = .returned (.int .i64 e0) ∧ Below w.heap.size w w' := by
  have HO := hid hO
  have HF := hid hF
  have dl : decide ((400 : Int) < (L.length : Int)) = false := by simp; omega
  clear hO hF
  go_enter Tryz.func25, Tryz.ntmps25
  go_wp2
  go_loopw [11] (fun i wr => ∃ m : Nat, m ≤ p ∧ i = .int .i64 m ∧ Hid (Below w.heap.size w wr)) (fun i _ => L.length - (intOf i).toNat)
  case atStart => exact ⟨0, Nat.zero_le _, rfl, hid (Below.refl _ _)⟩
  case round =>
    obtain ⟨m, hm, rfl, HI⟩ := hrel
    by_cases hlm : m < L.length
    · have i1 : (m : Int) < (L.length : Int) := by omega
      have i3 : (0 : Int) ≤ (m : Int) := by omega
      obtain ⟨x, hx⟩ : ∃ x, L[m]? = some x := ⟨_, List.getElem?_eq_getElem hlm⟩
      obtain ⟨a, c, e, _, hrow⟩ := HO.out
      obtain ⟨b', o', cs, e2, hb', _, hcs, hcell, hP⟩ := hrow m x hx
      cases e
      cases e2
      have HCE := hid hcell
      have HP := hid hP
      have HCS := hid hcs
      clear hcell hP hrow hcs
      obtain ⟨WA, hWA⟩ : ∃ WA, WA = wr.alloc (.cells #[.int .i64 0, .int .i64 0, .int .i64 0, .int .i64 0, .int .i64 0, .slice none 0 0, .slice none 0 0, .bool false, .int .i64 0, .slice none 0 0, .int .i64 0, .slice none 0 0, .int .i64 0, .int .i64 0, .int .i64 0, .slice none 0 0, .slice none 0 0, .bool false, .int .i64 0, .slice none 0 0, .slice none 0 0, .slice none 0 0] 79) := ⟨_, rfl⟩
      have HWA := hid hWA
      have hZ : WA.heap[wr.heap.size]? = some (.cells #[.int .i64 0, .int .i64 0, .int .i64 0, .int .i64 0, .int .i64 0, .slice none 0 0, .slice none 0 0, .bool false, .int .i64 0, .slice none 0 0, .int .i64 0, .slice none 0 0, .int .i64 0, .int .i64 0, .int .i64 0, .slice none 0 0, .slice none 0 0, .bool false, .int .i64 0, .slice none 0 0, .slice none 0 0, .slice none 0 0] 79) := by rw [hWA]; exact heap_alloc_new wr _
      have HBA := hid (show Below w.heap.size w WA by rw [hWA]; exact HI.out.alloc HI.out.size _)
      have HTH := hid (show WA.there wr.heap.size 0 cs.toArray.size by
        intro j hj
        have hj2 : j < 22 := by simpa [HCS.out] using hj
        rw [Nat.zero_add]
        have hget : ∃ u, ([.int .i64 0, .int .i64 0, .int .i64 0, .int .i64 0, .int .i64 0, .slice none 0 0, .slice none 0 0, .bool false, .int .i64 0, .slice none 0 0, .int .i64 0, .slice none 0 0, .int .i64 0, .int .i64 0, .int .i64 0, .slice none 0 0, .slice none 0 0, .bool false, .int .i64 0, .slice none 0 0, .slice none 0 0, .slice none 0 0] : List Value)[j]? = some u := ⟨_, List.getElem?_eq_getElem (by simpa using hj2)⟩
        obtain ⟨u, hu⟩ := hget
        exact ⟨by rw [gm_cell hZ (by simpa using hu)]; rfl, by simp [World.frozen?, hZ]⟩)
      have HSZ := hid (show (Tryz.prog.info? 79).map (·.size) = some cs.length by rw [HCS.out]; kernel_rfl)
      have HSZ2 := hid (show (Tryz.prog.info? 79).map (·.size) = some cs.toArray.size by rw [List.size_toArray]; exact HSZ.out)
      have HRg := hid (show wr.rangeAt bb (oo + m * 22) cs from fun j u hj => low_cell HI.out (Nat.le_refl _) (HCE.out j u hj))
      have HON := hid (all_oneCell_toArray (op_one HP.out))
      obtain ⟨WB, hWB⟩ : ∃ WB, WB = WA.setCells wr.heap.size 0 cs.toArray.toList := ⟨_, rfl⟩
      have HWB := hid hWB
      have HBB := hid (show Below w.heap.size w WB by rw [hWB]; exact below_cells _ HI.out.size _ _ _ HBA.out)
      have HRB := hid (show WB.rangeAt wr.heap.size 0 cs by
        rw [hWB]
        exact World.rangeAt_setCells_same WA wr.heap.size 0 cs (by simpa using HTH.out))
      clear hWA hZ hWB
      go_upto_region 5 with fail
      refine wp_region_lit ?_
      refine wpList_plain rfl (fun K hK => ?_)
      go_simp
      refine hK _ _ ?_
      clear hK K
      refine wpList_plain rfl (fun K hK => ?_)
      go_simp
      refine hK _ _ ?_
      clear hK K
      refine wpList_load_mid rfl 79 _ rfl bb (oo + m * 22) rfl cs _ HRg.out Tryz.underlying79 rfl HSZ.out ?_
      simp only [Act.put, List.setIfInBounds_toArray]
      refine wpList_plain rfl (fun K hK => ?_)
      go_simp
      refine hK _ _ ?_
      clear hK K
      rw [← HWA.out]
      refine wpList_plain rfl (fun K hK => ?_)
      go_simp
      refine hK _ _ ?_
      clear hK K
      refine wpList_store_mid rfl 79 _ _ rfl wr.heap.size 0 cs.toArray rfl rfl HTH.out HSZ2.out HON.out ?_
      rw [← HWB.out]
      refine wpList_nil ?_
      go_upto_region 6 with fail
      refine wp_region_lit ?_
      refine wpList_load_mid rfl 79 _ rfl wr.heap.size 0 rfl cs _ HRB.out Tryz.underlying79 rfl HSZ.out ?_
      simp only [Act.put, List.setIfInBounds_toArray]
      go_wp2_with fail
      by_cases hmp : m = p
      · have HC := hid (HF.out m x cs hx HP.out _ HBB.out)
        rw [if_pos hmp] at HC
        refine HC.out.mono ?_
        rintro e w3 ⟨rfl, hb3⟩
        have HI3 := hid (HBB.out.trans (hb3.mono HBB.out.size))
        have hbe : (e0 != 0) = true := by simp [he0]
        clear hb3 hmp
        go_wp2
        go_ret
        exact ⟨rfl, HI3.out⟩
      · have HC := hid (HF.out m x cs hx HP.out _ HBB.out)
        rw [if_neg hmp] at HC
        refine HC.out.mono ?_
        rintro e w3 ⟨rfl, hb3⟩
        have HI3 := hid (HBB.out.trans (hb3.mono HBB.out.size))
        clear hb3
        go_wp2
        go_roundw
        case rel => exact ⟨m + 1, by omega, by go_num, HI3⟩
        case measure => simp [intOf]; omega
    · exact absurd (by omega) hlm
set_option maxHeartbeats 1000000 in
set_option maxRecDepth 100000 in
theorem chk_back (p1 p2 p3 : Option Addr) (q1 q2 q3 : Nat) (p4 p5 p6 p7 p8 p9 : Option Addr) (q4 q5 q6 q7 q8 q9 : Nat) (w : World) : Calls Tryz.prog 44 #[.agg #[.int .i64 5, .int .i64 1, .int .i64 0, .int .i64 0, .int .i64 0, .slice p1 0 q1, .slice p2 0 q2, .bool false, .int .i64 0, .slice p3 0 q3, .int .i64 0, .slice p4 0 q4, .int .i64 0, .int .i64 0, .int .i64 0, .slice p5 0 q5, .slice p6 0 q6, .bool false, .int .i64 0, .slice p7 0 q7, .slice p8 0 q8, .slice p9 0 q9], .int .i64 1, .int .i64 2] w fun e w' => e = .returned (.int .i64 6) ∧ Below w.heap.size w w' := by
  obtain ⟨W1, hW1⟩ : ∃ W1, W1 = w.alloc (.cells #[.int .i64 5, .int .i64 1, .int .i64 0, .int .i64 0, .int .i64 0, .slice p1 0 q1, .slice p2 0 q2, .bool false, .int .i64 0, .slice p3 0 q3, .int .i64 0, .slice p4 0 q4, .int .i64 0, .int .i64 0, .int .i64 0, .slice p5 0 q5, .slice p6 0 q6, .bool false, .int .i64 0, .slice p7 0 q7, .slice p8 0 q8, .slice p9 0 q9] 79) := ⟨_, rfl⟩
  have HWE := hid hW1
  have HB1 := hid (show Below w.heap.size w W1 by rw [hW1]; exact (Below.refl _ _).alloc (Nat.le_refl _) _)
  have hbx : W1.heap[w.heap.size]? = some (.cells #[.int .i64 5, .int .i64 1, .int .i64 0, .int .i64 0, .int .i64 0, .slice p1 0 q1, .slice p2 0 q2, .bool false, .int .i64 0, .slice p3 0 q3, .int .i64 0, .slice p4 0 q4, .int .i64 0, .int .i64 0, .int .i64 0, .slice p5 0 q5, .slice p6 0 q6, .bool false, .int .i64 0, .slice p7 0 q7, .slice p8 0 q8, .slice p9 0 q9] 79) := by rw [hW1]; exact heap_alloc_new w _
  have HJ := hid (show Calls Tryz.prog 76 #[.int .i64 5] W1 fun e w' => e = .returned (.bool true) ∧ w' = W1 by have h := isJump_any 5 W1; rwa [show jumpB 5 = true from rfl] at h)
  have x0 := gm_cell (j := 0) hbx rfl
  have x1 := gm_cell (j := 1) hbx rfl
  clear hW1 hbx
  go_enter Tryz.func44, Tryz.ntmps44
  go_wp2_with fail
  rw [← HWE.out]
  refine HJ.out.mono ?_
  rintro e w1 ⟨rfl, hw1⟩
  subst hw1
  go_wp2
  go_ret
  exact ⟨rfl, HB1.out⟩
set_option maxRecDepth 100000 in
theorem told_back (w : World) : OpTold [flipO, jumpO 5 1] 1 6 w := by
  intro i x cs hx hP w' _
  obtain ⟨ts, ds, rfl, hT, hD⟩ := hP
  match i, hx with
  | 0, hx =>
    cases hx
    obtain ⟨an, cn, ak, ck, at', ct, m, _, rfl, _⟩ := tst_form hT
    obtain ⟨ax, cx, bn, dn, bk, dk, bt, dt, aa, ca, ae, ce, m', _, rfl, _⟩ := cmd_form hD
    exact chk_flip _ _ _ _ _ _ _ _ _ _ _ _ _ _ _ _ _ _ _ _ _
  | 1, hx =>
    cases hx
    obtain ⟨an, cn, ak, ck, at', ct, m, _, rfl, _⟩ := tst_form hT
    obtain ⟨ax, cx, bn, dn, bk, dk, bt, dt, aa, ca, ae, ce, m', _, rfl, _⟩ := cmd_form hD
    exact chk_back _ _ _ _ _ _ _ _ _ _ _ _ _ _ _ _ _ _ _
  | i + 2, hx => simp at hx
end Go.Proofs.YtlcnfpeabnnjoaaGreatDoor
