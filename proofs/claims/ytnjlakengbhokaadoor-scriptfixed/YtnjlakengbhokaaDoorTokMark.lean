/-
  What token.isMark does: the walk.
-/
import Derived.Test.YtnjlakengbhokaaDoorTokWord
import Derived.Test.YtnjlakengbhokaaDoorShelf
import Derived.Lib.IndexAny
namespace Go.Proofs.YtnjlakengbhokaaDoor
open Go.RowKit Go.Proofs

def marksS : ByteArray := ⟨#[123, 125, 40, 41, 91, 93, 59, 44]⟩
def markB (s : List UInt8) : Bool := match s with | [c] => markC c | _ => false
theorem mark_index (c : UInt8) : decide (0 ≤ Lib.indexByte marksS.data.toList ((c.toNat : Int)).toNat.toUInt8) = markC c := by
  rw [byte_round]
  show decide (0 ≤ Lib.indexByte markL c) = markL.contains c
  rw [← Lib.contains_iff_indexByte]
set_option maxHeartbeats 2000000 in
theorem isMark_any (s : List UInt8) (w : World) :
    Calls Tryd.prog 40 #[.string (S s)] w fun e w' => e = .returned (.bool (markB s)) ∧ w' = w := by
  by_cases h1 : s.length = 1
  · obtain ⟨c, rfl⟩ := List.length_eq_one_iff.1 h1
    have hz : (S [c]).size = 1 := by rw [size_S]; rfl
    have hz' : ((S [c]).size : Int) = 1 := by omega
    have hlt : 0 < (S [c]).size := by omega
    have HI : Hid (decide (0 ≤ Lib.indexByte marksS.data.toList ((c.toNat : Int)).toNat.toUInt8) = markB [c]) := mark_index c
    clear h1 hz
    go_enter Tryd.func40, Tryd.ntmps40
    go_wp2_with fail
    refine (indexByte_any marksS (c.toNat : Int) _).mono ?_
    rintro e u ⟨rfl, hu⟩
    have hu' := hu.symm
    subst hu'
    go_wp2
    go_ret
    exact ⟨ret_bool (by rw [← HI.out]; first | rfl | simp), rfl⟩
  · have hz : ¬ ((S s).size : Int) = 1 := by rw [size_S]; omega
    have HB : Hid (markB s = false) := by
      unfold Hid
      match s, h1 with
      | [], _ => rfl
      | [c], h => exact absurd rfl h
      | a :: b :: t, _ => rfl
    clear h1
    go_enter Tryd.func40, Tryd.ntmps40
    go_wp2
    go_ret
    exact ⟨ret_bool HB.out.symm, rfl⟩
end Go.Proofs.YtnjlakengbhokaaDoor
