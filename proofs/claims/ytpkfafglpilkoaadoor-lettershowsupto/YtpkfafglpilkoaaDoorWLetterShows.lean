/-
  letter.Show against the reference, walked.
-/
import Derived.Test.YtpkfafglpilkoaaDoorLetCard
import Derived.Test.YtpkfafglpilkoaaDoorRefShow
import Derived.Test.YtpkfafglpilkoaaDoorLetSameL
namespace Go.Proofs.YtpkfafglpilkoaaDoor
open Go.ChangeShapes Go.WideShapes Go.ChangeAt Go.RowKit

set_option maxHeartbeats 1000000 in
theorem letterShows_walk (w : World) (hm : maxLenCell w) (a : Option Addr) (c : Nat) (fs : List F) (body : ByteArray) (hF : FieldsAt w a fs) (hk : fs.length ≤ 1048576 ∧ body.size ≤ 1048576 ∧ ∀ f ∈ fs, f.1.length ≤ 1048576 ∧ f.2.length ≤ 1048576) :
    Calls Tryd.prog 4 #[.agg #[.slice a fs.length c, .string body]] w fun e w' => e = .returned (.bool true) ∧ Below w.heap.size w w' := by
  have hM : Mild fs body := ⟨by omega, by omega, fun f hf => by have := hk.2.2 f hf; omega⟩
  clear hk
  have hB0 : ∀ o, Below w.heap.size w (w.alloc o) := fun o => (Below.refl _ _).alloc (Nat.le_refl _) o
  by_cases hf : faultM fs body.data.toList = 0
  · have HF : Hid _ := hf
    clear hf
    go_enter Tryd.func4, Tryd.ntmps4
    go_wp2_with fail
    refine (messages_any a c fs body _ (hF.below (hB0 _)) hM).mono ?_
    rintro e w1 ⟨a1, c1, rfl, hF1, hb1⟩
    have p0 : w1.cell? ⟨w.heap.size, 0, none⟩ = some (.slice a fs.length c) := cell_next (by simp) hb1
    have p1 : w1.cell? ⟨w.heap.size, 1, none⟩ = some (.string body) := cell_next (by simp) hb1
    have hB1 := bnext (hB0 _) hb1 (Nat.le_refl _)
    go_wp2_with fail
    refine (show_ok a1 c1 fs body _ hF1 hM (maxLenCell_below hm hB1) HF.out).mono ?_
    rintro e w2 ⟨rfl, hb2⟩
    have hB2 := bnext hB1 hb2 (Nat.le_refl _)
    have p2 := cell_next p0 hb2
    have p3 := cell_next p1 hb2
    go_wp2_with fail
    refine (shown_ok a c fs body _ (hF.below hB2) hM HF.out).mono ?_
    rintro e w3 ⟨rfl, hb3⟩
    go_wp2
    go_ret
    exact ⟨by simp, bnext hB2 hb3 (Nat.le_refl _)⟩
  · obtain ⟨n, hn⟩ : ∃ n, n = faultM fs body.data.toList := ⟨_, rfl⟩
    have hn0 : (n == 0) = false := by rw [hn]; simpa using hf
    have HF : Hid _ := hn.symm
    clear hf hn
    go_enter Tryd.func4, Tryd.ntmps4
    go_wp2_with fail
    refine (messages_any a c fs body _ (hF.below (hB0 _)) hM).mono ?_
    rintro e w1 ⟨a1, c1, rfl, hF1, hb1⟩
    have p0 : w1.cell? ⟨w.heap.size, 0, none⟩ = some (.slice a fs.length c) := cell_next (by simp) hb1
    have p1 : w1.cell? ⟨w.heap.size, 1, none⟩ = some (.string body) := cell_next (by simp) hb1
    have hB1 := bnext (hB0 _) hb1 (Nat.le_refl _)
    go_wp2_with fail
    refine (show_bad a1 c1 fs body _ hF1 hM (maxLenCell_below hm hB1) n HF.out hn0).mono ?_
    rintro e w2 ⟨rfl, hb2⟩
    have hB2 := bnext hB1 hb2 (Nat.le_refl _)
    have p2 := cell_next p0 hb2
    have p3 := cell_next p1 hb2
    go_wp2_with fail
    refine (shown_bad a c fs body _ (hF.below hB2) hM n HF.out hn0).mono ?_
    rintro e w3 ⟨rfl, hb3⟩
    go_wp2
    go_ret
    exact ⟨by simp, bnext hB2 hb3 (Nat.le_refl _)⟩

end Go.Proofs.YtpkfafglpilkoaaDoor
