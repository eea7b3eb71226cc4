/-
  letter.Check against the reference, walked.
-/
import Derived.Test.YtpkfafglpilkoaaDoorLetCard
import Derived.Test.YtpkfafglpilkoaaDoorRefFault
import Derived.Test.YtpkfafglpilkoaaDoorLetSameL
namespace Go.Proofs.YtpkfafglpilkoaaDoor
open Go.ChangeShapes Go.WideShapes Go.ChangeAt Go.RowKit

set_option maxHeartbeats 1000000 in
theorem letterChecks_walk (w : World) (hm : maxLenCell w) (a : Option Addr) (c : Nat) (fs : List F) (body : ByteArray) (hF : FieldsAt w a fs) (hk : fs.length ≤ 1048576 ∧ body.size ≤ 1048576 ∧ ∀ f ∈ fs, f.1.length ≤ 1048576 ∧ f.2.length ≤ 1048576) :
    Calls Tryd.prog 3 #[.agg #[.slice a fs.length c, .string body]] w fun e w' => e = .returned (.bool true) ∧ Below w.heap.size w w' := by
  have hM : Mild fs body := ⟨by omega, by omega, fun f hf => by have := hk.2.2 f hf; omega⟩
  clear hk
  have hB0 : ∀ o, Below w.heap.size w (w.alloc o) := fun o => (Below.refl _ _).alloc (Nat.le_refl _) o
  go_enter Tryd.func3, Tryd.ntmps3
  go_wp2_with fail
  refine (messages_any a c fs body _ (hF.below (hB0 _)) hM).mono ?_
  rintro e w1 ⟨a1, c1, rfl, hF1, hb1⟩
  have p0 : w1.cell? ⟨w.heap.size, 0, none⟩ = some (.slice a fs.length c) := cell_next (by simp) hb1
  have p1 : w1.cell? ⟨w.heap.size, 1, none⟩ = some (.string body) := cell_next (by simp) hb1
  have hB1 := bnext (hB0 _) hb1 (Nat.le_refl _)
  go_wp2_with fail
  refine (check_any a1 c1 fs body _ (hF1.below ((Below.refl _ _).alloc (Nat.le_refl _) _)) hM (maxLenCell_below hm (hB1.alloc hB1.size _))).mono ?_
  rintro e w2 ⟨rfl, hb2⟩
  have hB2 := bnext (hB1.alloc hB1.size _) hb2 (Nat.le_refl _)
  have p2 : w2.cell? ⟨w.heap.size, 0, none⟩ = some (.slice a fs.length c) := cell_next (cell_more p0 _) hb2
  have p3 : w2.cell? ⟨w.heap.size, 1, none⟩ = some (.string body) := cell_next (cell_more p1 _) hb2
  have p4 : w2.cell? ⟨w1.heap.size, 0, none⟩ = some (.slice a1 fs.length c1) := cell_next (by simp) hb2
  have p5 : w2.cell? ⟨w1.heap.size, 1, none⟩ = some (.string body) := cell_next (by simp) hb2
  go_wp2_with fail
  refine (fault_any a c fs body _ (hF.below hB2) hM).mono ?_
  rintro e w3 ⟨rfl, hb3⟩
  have hB3 := bnext hB2 hb3 (Nat.le_refl _)
  have p6 := cell_next p2 hb3
  have p7 := cell_next p3 hb3
  have p8 := cell_next p4 hb3
  have p9 := cell_next p5 hb3
  go_wp2_with fail
  refine (sameL_any a1 a c1 c fs body _ ((hF1.below ((Below.refl _ _).alloc (Nat.le_refl _) _)).below (bnext hb2 hb3 (Nat.le_refl _))) (hF.below hB3) (hM.1)).mono ?_
  rintro e w4 ⟨rfl, hb4⟩
  go_wp2
  go_ret
  exact ⟨rfl, bnext hB3 hb4 (Nat.le_refl _)⟩

end Go.Proofs.YtpkfafglpilkoaaDoor
