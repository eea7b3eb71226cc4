/-
  Reject and keeping do not go together, whichever comes first: walked.
-/
import Derived.Test.YtkdngmhcfkfppaaGreatDoorDoNevA
import Derived.Test.YtkdngmhcfkfppaaGreatDoorDoNevB
import Derived.Test.YtkdngmhcfkfppaaGreatDoorDoNevC
import Derived.Test.YtkdngmhcfkfppaaGreatDoorDoNevD
import Derived.Test.YtkdngmhcfkfppaaGreatDoorRulTabs
namespace Go.Proofs.YtkdngmhcfkfppaaGreatDoor
open Go.RowKit Go.Proofs

theorem doNever_walk (w : World) (hm : TabsM w) (first : Bool) (k : Int) (wk : (Lit.int .i64 k).wf = true) (s : ByteArray) (hs : s.size ≤ maxLen) :
    Calls Tryz.prog 8 #[.bool first, .int .i64 k, .string s] w fun e w' => e = .returned (.bool true) ∧ Below w.heap.size w w' := by
  obtain ⟨l, rfl⟩ : ∃ l, s = S l := ⟨s.data.toList, (S_list s).symm⟩
  rw [size_S] at hs
  have hp := pickN_lt k 4 (by omega)
  obtain h | h | h | h : pickN k 4 = 0 ∨ pickN k 4 = 1 ∨ pickN k 4 = 2 ∨ pickN k 4 = 3 := by omega
  · cases first with
    | true => exact doNever_0t w hm.1 k wk l hs h
    | false => exact doNever_0f w hm.1 k wk l hs h
  · cases first with
    | true => exact doNever_1t w hm.1 k wk l hs h
    | false => exact doNever_1f w hm.1 k wk l hs h
  · cases first with
    | true => exact doNever_2t w hm.1 k wk l hs h
    | false => exact doNever_2f w hm.1 k wk l hs h
  · cases first with
    | true => exact doNever_3t w hm.1 k wk l hs h
    | false => exact doNever_3f w hm.1 k wk l hs h
end Go.Proofs.YtkdngmhcfkfppaaGreatDoor
