/-
  What the laws' copying and comparing of messages do: the walks.
-/
import Derived.Test.YtgbhaphgojlhaaaDoorLetRow
namespace Go.Proofs.YtgbhaphgojlhaaaDoor
open Go.RowKit

set_option maxHeartbeats 1000000 in
theorem sameL_any (a b : Option Addr) (c d : Nat) (fs : List F) (body : ByteArray) (w : World) (hF : FieldsAt w a fs) (hG : FieldsAt w b fs) (hM1 : fs.length ≤ 2000000) :
    Calls Tryd.prog 17 #[.agg #[.slice a fs.length c, .string body], .agg #[.slice b fs.length d, .string body]] w fun e w' => e = .returned (.bool true) ∧ Below w.heap.size w w' := by
  go_enter Tryd.func17, Tryd.ntmps17
  go_wp2
  go_loopw [5] (fun i wr => ∃ k : Nat, k ≤ fs.length ∧ i = .int .i64 k ∧ ∃ q, wr = ((w.alloc (.cells #[.slice a fs.length c, .string body] 46)).alloc (.cells #[.slice b fs.length d, .string body] 46)).drewN q) (fun i _ => fs.length - (intOf i).toNat)
  case atStart => exact ⟨0, Nat.zero_le _, rfl, 0, rfl⟩
  case round =>
    obtain ⟨k, hk, rfl, q, rfl⟩ := hrel
    by_cases hlt : k < fs.length
    · obtain ⟨f, hf⟩ : ∃ f, fs[k]? = some f := ⟨_, List.getElem?_eq_getElem hlt⟩
      obtain ⟨b1, o1, rfl, hb1, h1, h2⟩ := hF k f hf
      obtain ⟨b2, o2, rfl, hb2, h3, h4⟩ := hG k f hf
      clear hf
      go_wp2
      go_quiet (fail)
      go_wp2
      go_roundw
      case rel => exact ⟨k + 1, by omega, by go_num, _, rfl⟩
      case measure => simp [intOf]; omega
    · go_wp2
      go_ret
      exact ⟨rfl, bdrew (((Below.refl w.heap.size w).alloc (Nat.le_refl _) _).alloc (by simp) _) _⟩
end Go.Proofs.YtgbhaphgojlhaaaDoor
