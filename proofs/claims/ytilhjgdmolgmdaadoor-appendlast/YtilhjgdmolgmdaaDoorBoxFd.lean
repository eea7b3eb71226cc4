/-
  A box is found: the walk of the laws' find.
-/
import Derived.Test.YtilhjgdmolgmdaaDoorBoxSt
namespace Go.Proofs.YtilhjgdmolgmdaaDoor
open Go.RowKit Go.Proofs

set_option maxHeartbeats 1000000 in
set_option maxRecDepth 100000 in
theorem find_any (s : Stt) (vb vs : Value) (nm : List UInt8) (w : World) (Q : Nat → Prop) (hS : SttM Q w vb vs s) :
    Calls Tryd.prog 14 #[.agg #[vb, vs], .string (S nm)] w fun e w' => e = .returned (.int .i64 (idxZ (isName nm) s.boxes)) ∧ Below w.heap.size w w' := by
  have hm := RowM.small hS.1
  unfold maxLen at hm
  obtain ⟨ab, cb, rfl⟩ := RowM.slice hS.1
  obtain ⟨aq, cq, rfl⟩ := RowM.slice hS.2.1
  obtain ⟨W1, hW1⟩ : ∃ W1, W1 = w.alloc (.cells #[.slice ab s.boxes.length cb, .slice aq s.spool.length cq] 26) := ⟨_, rfl⟩
  have HWE := hid hW1
  have hB1 : Below w.heap.size w W1 := by rw [hW1]; exact (Below.refl _ _).alloc (Nat.le_refl _) _
  have HB1 := hid hB1
  have x0 : W1.cell? ⟨w.heap.size, 0, none⟩ = some (.slice ab s.boxes.length cb) := by rw [hW1]; simp
  have HL := hid (hS.1.next hB1)
  clear hS hW1 hB1
  go_enter Tryd.func14, Tryd.ntmps14
  go_wp2
  rw [← HWE.out]
  go_loopw [5] (fun v wr => ∃ i : Nat, i ≤ s.boxes.length ∧ v = .int .i64 i ∧ wr = W1 ∧ Hid (∀ (j : Nat) y, j < i → s.boxes[j]? = some y → isName nm y = false)) (fun v _ => s.boxes.length - (intOf v).toNat)
  case atStart => exact ⟨0, Nat.zero_le _, rfl, rfl, fun j y h => by omega⟩
  case round =>
    obtain ⟨i, hi, rfl, hwr, HI⟩ := hrel
    have hwr' := hwr.symm
    subst hwr'
    clear hwr
    by_cases hlt : i < s.boxes.length
    · have i1 : (i : Int) < (s.boxes.length : Int) := by omega
      have i0 : (0 : Int) ≤ (i : Int) := by omega
      obtain ⟨x, hx⟩ : ∃ x, s.boxes[i]? = some x := ⟨_, List.getElem?_eq_getElem hlt⟩
      obtain ⟨b, o, v, rfl, _, e0, e1, e2, _⟩ := HL.out.at hx
      have HS := hid (S_same x.name nm)
      by_cases hp : x.name = nm
      · have HE := hid (idxZ_hit HI.out hx (show isName nm x = true by unfold isName; simp [hp]))
        have hq : ((S x.name).toList == (S nm).toList) = true := by rw [HS.out]; simp [hp]
        clear hx hp HS
        go_wp2
        go_ret
        exact ⟨ret_int HE.out.symm, HB1.out⟩
      · have HE := hid (miss_more HI.out hx (show isName nm x = false by unfold isName; simp [hp]))
        have hq : ((S x.name).toList == (S nm).toList) = false := by rw [HS.out]; simp [hp]
        clear hx hp HS
        go_wp2
        go_roundw
        case rel => first | exact ⟨i + 1, by omega, by go_num, by first | rfl | trivial, HE⟩ | ((repeat apply Exists.intro); exact ⟨⟨i + 1, by omega, by go_num, by first | rfl | trivial, HE⟩, rfl⟩) | (refine ⟨trivial, ?_⟩; (repeat apply Exists.intro); exact ⟨⟨i + 1, by omega, by go_num, by first | rfl | trivial, HE⟩, rfl⟩) | exact ⟨i + 1, by omega, by go_num, HE⟩
        case measure => simp [intOf]; omega
    · have i1 : ¬ (i : Int) < (s.boxes.length : Int) := by omega
      have HE := hid (idxZ_miss fun (j : Nat) y hj => HI.out j y (by omega))
      go_wp2
      go_ret
      exact ⟨ret_int HE.out.symm, HB1.out⟩
end Go.Proofs.YtilhjgdmolgmdaaDoor
