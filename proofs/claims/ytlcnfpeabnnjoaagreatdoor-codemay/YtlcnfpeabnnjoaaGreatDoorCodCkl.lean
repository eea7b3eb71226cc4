/-
  code.Check: its loop.
-/
import Derived.Test.YtlcnfpeabnnjoaaGreatDoorCodCop
namespace Go.Proofs.YtlcnfpeabnnjoaaGreatDoor
open Go.RowKit Go.Proofs

theorem below_cells {B : Nat} {a : World} (b : Nat) (hb : B ≤ b) : ∀ (vs : List Value) (o : Nat) (w : World), Below B a w → Below B a (w.setCells b o vs)
  | [], _, _, h => h
  | v :: r, o, w, h => by
    rw [World.setCells]
    exact below_cells b hb r (o + 1) _ (h.setCell hb v)
/-- What a round of Check's loop asks of an op. -/
def OpFine (L : List Opr) (w : World) : Prop := ∀ (i : Nat) (x : Opr) (cs : List Value), L[i]? = some x → OpM anyB w x cs →
  ∀ w', Below w.heap.size w w' → Calls Tryz.prog 44 #[.agg cs.toArray, .int .i64 i, .int .i64 L.length] w' fun e w'' => e = .returned (.int .i64 0) ∧ Below w'.heap.size w' w''
set_option maxHeartbeats 1000000 in
set_option maxRecDepth 100000 in
theorem check_fine (L : List Opr) (bb oo cap : Nat) (w : World) (hl : L.length ≤ 400) (hO : OpsM anyB w (.slice (some ⟨bb, oo, none⟩) L.length cap) L) (hF : OpFine L w) :
    Calls Tryz.prog 25 #[.slice (some ⟨bb, oo, none⟩) L.length cap] w fun e w' => e = .returned (.int .i64 0) ∧ Below w.heap.size w w' := by
  have HO := hid hO
  have HF := hid hF
  have dl : decide ((400 : Int) < (L.length : Int)) = false := by simp; omega
  clear hO hF
  go_enter Tryz.func25, Tryz.ntmps25
  go_wp2
  go_loopw [11] (fun i wr => ∃ m : Nat, m ≤ L.length ∧ i = .int .i64 m ∧ Hid (Below w.heap.size w wr)) (fun i _ => L.length - (intOf i).toNat)
  case atStart => exact ⟨0, Nat.zero_le _, rfl, hid (Below.refl _ _)⟩
  case round =>
    obtain ⟨m, hm, rfl, HI⟩ := hrel
    by_cases hlm : m < L.length
    · have i1 : (m : Int) < (L.length : Int) := by omega
      have i3 : (0 : Int) ≤ (m : Int) := by omega
      obtain ⟨x, hx⟩ : ∃ x, L[m]? = some x := ⟨_, List.getElem?_eq_getElem hlm⟩
      obtain ⟨a, c, e, _, hrow⟩ := HO.out
      obtain ⟨b', o', cs, e2, hb', _, hcs, hcell, hP⟩ := hrow m x hx
      cases e
      cases e2
      have HCE := hid hcell
      have HP := hid hP
      have HCS := hid hcs
      clear hcell hP hrow hcs
      obtain ⟨WA, hWA⟩ : ∃ WA, WA = wr.alloc (.cells #[.int .i64 0, .int .i64 0, .int .i64 0, .int .i64 0, .int .i64 0, .slice none 0 0, .slice none 0 0, .bool false, .int .i64 0, .slice none 0 0, .int .i64 0, .slice none 0 0, .int .i64 0, .int .i64 0, .int .i64 0, .slice none 0 0, .slice none 0 0, .bool false, .int .i64 0, .slice none 0 0, .slice none 0 0, .slice none 0 0] 79) := ⟨_, rfl⟩
      have HWA := hid hWA
      have hZ : WA.heap[wr.heap.size]? = some (.cells #[.int .i64 0, .int .i64 0, .int .i64 0, .int .i64 0, .int .i64 0, .slice none 0 0, .slice none 0 0, .bool false, .int .i64 0, .slice none 0 0, .int .i64 0, .slice none 0 0, .int .i64 0, .int .i64 0, .int .i64 0, .slice none 0 0, .slice none 0 0, .bool false, .int .i64 0, .slice none 0 0, .slice none 0 0, .slice none 0 0] 79) := by rw [hWA]; exact heap_alloc_new wr _
      have HBA := hid (show Below w.heap.size w WA by rw [hWA]; exact HI.out.alloc HI.out.size _)
      have HTH := hid (show WA.there wr.heap.size 0 cs.toArray.size by
        intro j hj
        have hj2 : j < 22 := by simpa [HCS.out] using hj
        rw [Nat.zero_add]
        have hget : ∃ u, ([.int .i64 0, .int .i64 0, .int .i64 0, .int .i64 0, .int .i64 0, .slice none 0 0, .slice none 0 0, .bool false, .int .i64 0, .slice none 0 0, .int .i64 0, .slice none 0 0, .int .i64 0, .int .i64 0, .int .i64 0, .slice none 0 0, .slice none 0 0, .bool false, .int .i64 0, .slice none 0 0, .slice none 0 0, .slice none 0 0] : List Value)[j]? = some u := ⟨_, List.getElem?_eq_getElem (by simpa using hj2)⟩
        obtain ⟨u, hu⟩ := hget
        exact ⟨by rw [gm_cell hZ (by simpa using hu)]; rfl, by simp [World.frozen?, hZ]⟩)
      have HSZ := hid (show (Tryz.prog.info? 79).map (·.size) = some cs.length by rw [HCS.out]; kernel_rfl)
      have HSZ2 := hid (show (Tryz.prog.info? 79).map (·.size) = some cs.toArray.size by rw [List.size_toArray]; exact HSZ.out)
      have HRg := hid (show wr.rangeAt bb (oo + m * 22) cs from fun j u hj => low_cell HI.out (Nat.le_refl _) (HCE.out j u hj))
      have HON := hid (all_oneCell_toArray (op_one HP.out))
      obtain ⟨WB, hWB⟩ : ∃ WB, WB = WA.setCells wr.heap.size 0 cs.toArray.toList := ⟨_, rfl⟩
      have HWB := hid hWB
      have HBB := hid (show Below w.heap.size w WB by rw [hWB]; exact below_cells _ HI.out.size _ _ _ HBA.out)
      have HRB := hid (show WB.rangeAt wr.heap.size 0 cs by
        rw [hWB]
        exact World.rangeAt_setCells_same WA wr.heap.size 0 cs (by simpa using HTH.out))
      clear hWA hZ hWB
      go_upto_region 5 with fail
      refine wp_region_lit ?_
      refine wpList_plain rfl (fun K hK => ?_)
      go_simp
      refine hK _ _ ?_
      clear hK K
      refine wpList_plain rfl (fun K hK => ?_)
      go_simp
      refine hK _ _ ?_
      clear hK K
      refine wpList_load_mid rfl 79 _ rfl bb (oo + m * 22) rfl cs _ HRg.out Tryz.underlying79 rfl HSZ.out ?_
      simp only [Act.put, List.setIfInBounds_toArray]
      refine wpList_plain rfl (fun K hK => ?_)
      go_simp
      refine hK _ _ ?_
      clear hK K
      rw [← HWA.out]
      refine wpList_plain rfl (fun K hK => ?_)
      go_simp
      refine hK _ _ ?_
      clear hK K
      refine wpList_store_mid rfl 79 _ _ rfl wr.heap.size 0 cs.toArray rfl rfl HTH.out HSZ2.out HON.out ?_
      rw [← HWB.out]
      refine wpList_nil ?_
      go_upto_region 6 with fail
      refine wp_region_lit ?_
      refine wpList_load_mid rfl 79 _ rfl wr.heap.size 0 rfl cs _ HRB.out Tryz.underlying79 rfl HSZ.out ?_
      simp only [Act.put, List.setIfInBounds_toArray]
      go_wp2_with fail
      refine (HF.out m x cs hx HP.out _ HBB.out).mono ?_
      rintro e w3 ⟨rfl, hb3⟩
      have HI3 := hid (HBB.out.trans (hb3.mono HBB.out.size))
      clear hb3
      go_wp2
      go_roundw
      case rel => exact ⟨m + 1, by omega, by go_num, HI3⟩
      case measure => simp [intOf]; omega
    · have i1 : ¬ (m : Int) < (L.length : Int) := by omega
      go_wp2
      go_ret
      exact ⟨rfl, HI.out⟩
end Go.Proofs.YtlcnfpeabnnjoaaGreatDoor
