/-
  What the reference's small functions on texts tell: in plain words.
-/
import Derived.Test.YtgbhaphgojlhaaaDoorRefLet
import Derived.Deep.QuietTactic
import Derived.BigQuiet
namespace Go.Proofs.YtgbhaphgojlhaaaDoor
open Go.RowKit

theorem nameMay_is (l : List UInt8) (b : Bool) (h : nameB l = b) (hl : (S l).size ≤ 2000000) (w : World) :
    Calls Tryd.prog 43 #[.string (S l)] w fun e w' => e = .returned (.bool b) ∧ w' = w := by
  have := nameMay_any (S l) w (by unfold maxLen; omega)
  rwa [list_S, h] at this
theorem lineEnd_is (l : List UInt8) (n : Int) (h : endAt l 0 = n) (hl : (S l).size ≤ 2000000) (w : World) :
    Calls Tryd.prog 40 #[.string (S l), .int .i64 0] w fun e w' => e = .returned (.int .i64 n) ∧ w' = w := by
  have := lineEnd_any (S l) 0 w (by omega) (Nat.zero_le _)
  rwa [list_S, h] at this
theorem trimmed_is (l t : List UInt8) (h : trimW l = t) (hl : (S l).size ≤ 2000000) (w : World) :
    Calls Tryd.prog 44 #[.string (S l)] w fun e w' => e = .returned (.string (S t)) ∧ w' = w := by
  have := trimmed_any (S l) w (by omega)
  rwa [list_S, h] at this
theorem endAt_zero (l : List UInt8) : endAt l 0 = if hasEnd l = true then Lib.index l [13, 10] else -1 := by
  simp [endAt]

end Go.Proofs.YtgbhaphgojlhaaaDoor
