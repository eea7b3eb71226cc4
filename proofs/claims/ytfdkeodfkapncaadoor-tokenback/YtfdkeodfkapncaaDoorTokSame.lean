/-
  What the laws' sameTokens does: the walk.
-/
import Derived.Test.YtfdkeodfkapncaaDoorTokRows
import Derived.Deep.QuietTactic
import Derived.BigQuiet
namespace Go.Proofs.YtfdkeodfkapncaaDoor
open Go.RowKit Go.Proofs

set_option maxHeartbeats 4000000 in
set_option maxRecDepth 100000 in
theorem sameK_any (a a' : Option Addr) (c c' : Nat) (ts : List Tok) (w : World) (h1 : ToksAt w a ts) (h2 : ToksAt w a' ts) (hl : ts.length ≤ 1000) :
    Calls Tryd.prog 13 #[.slice a ts.length c, .slice a' ts.length c'] w fun e w' => e = .returned (.bool true) ∧ Below w.heap.size w w' := by
  have H1 : Hid (ToksAt w a ts) := h1
  have H2 : Hid (ToksAt w a' ts) := h2
  clear h1 h2
  go_enter Tryd.func13, Tryd.ntmps13
  go_wp2
  go_loopw [5] (fun i wr => ∃ (k n : Nat), k ≤ ts.length ∧ i = .int .i64 k ∧ wr = w.drewN n) (fun i _ => ts.length - (intOf i).toNat)
  case atStart => exact ⟨0, 0, Nat.zero_le _, rfl, rfl⟩
  case round =>
    obtain ⟨k, n, hk, rfl, rfl⟩ := hrel
    by_cases hlt : k < ts.length
    · have i1 : (k : Int) < (ts.length : Int) := by omega
      have i3 : (0 : Int) ≤ (k : Int) := by omega
      obtain ⟨t, ht⟩ : ∃ t, ts[k]? = some t := ⟨_, List.getElem?_eq_getElem hlt⟩
      obtain ⟨b, o, rfl, hbl, d0, d1, d2⟩ := H1.out k t ht
      obtain ⟨b', o', rfl, hbl', e0, e1, e2⟩ := H2.out k t ht
      clear ht
      go_wp2
      go_quiet (fail)
      go_wp2
      go_roundw
      case rel => exact ⟨k + 1, n + nq, by omega, by go_num, by first | rfl | rw [World.drewN_drewN]⟩
      case measure => simp [intOf]; omega
    · have i1 : ¬ (k : Int) < (ts.length : Int) := by omega
      go_wp2
      go_ret
      exact ⟨rfl, wdrew (Below.refl _ _) n⟩
end Go.Proofs.YtfdkeodfkapncaaDoor
