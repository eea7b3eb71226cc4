/-
  letter.Values against the reference, walked.
-/
import Derived.Test.YtpkfafglpilkoaaDoorLetCard
import Derived.Test.YtpkfafglpilkoaaDoorRefVal
import Derived.Test.YtpkfafglpilkoaaDoorLetSameL
namespace Go.Proofs.YtpkfafglpilkoaaDoor
open Go.ChangeShapes Go.WideShapes Go.ChangeAt Go.RowKit

theorem texts_nil (w : World) (a : Option Addr) : TextsAt w a [] := by intro i f hf; simp at hf

set_option maxHeartbeats 2000000 in
theorem letterValues_core (w : World) (hm : maxLenCell w) (a : Option Addr) (c : Nat) (fs : List F) (body : ByteArray) (hF : FieldsAt w a fs) (hk : fs.length ≤ 1048576 ∧ body.size ≤ 1048576 ∧ ∀ f ∈ fs, f.1.length ≤ 1048576 ∧ f.2.length ≤ 1048576) (n : ByteArray) (hn : n.size ≤ 1048576) :
    Calls Tryd.prog 6 #[.agg #[.slice a fs.length c, .string body], .string n] w fun e w' => e = .returned (.bool true) ∧ Below w.heap.size w w' := by
  have hM : Mild fs body := ⟨by omega, by omega, fun f hf => by have := hk.2.2 f hf; omega⟩
  clear hk
  have hB0 : ∀ o, Below w.heap.size w (w.alloc o) := fun o => (Below.refl _ _).alloc (Nat.le_refl _) o
  by_cases hf : faultM fs body.data.toList = 0
  · have HF : Hid _ := hf
    clear hf
    by_cases hn1 : n.size ≤ 100
    · have hvl : (valuesM fs n.data.toList).length ≤ 2000000 := by
        have := values_len fs n.data.toList fs.length
        rw [List.take_length] at this
        have := hM.1; omega
      go_enter Tryd.func6, Tryd.ntmps6
      go_wp2_with fail
      refine (messages_any a c fs body _ (hF.below (hB0 _)) hM).mono ?_
      rintro e w1 ⟨a1, c1, rfl, hF1, hb1⟩
      have p0 : w1.cell? ⟨w.heap.size, 0, none⟩ = some (.slice a fs.length c) := cell_next (by simp) hb1
      have p1 : w1.cell? ⟨w.heap.size, 1, none⟩ = some (.string body) := cell_next (by simp) hb1
      have hB1 := bnext (hB0 _) hb1 (Nat.le_refl _)
      go_wp2_with fail
      refine (values_ok a1 c1 fs body n _ hF1 hM (maxLenCell_below hm hB1) HF.out hn1).mono ?_
      rintro e w2 ⟨a2, c2, rfl, hT2, hb2⟩
      have hB2 := bnext hB1 hb2 (Nat.le_refl _)
      have p2 := cell_next p0 hb2
      have p3 := cell_next p1 hb2
      go_wp2_with fail
      refine (refValues_ok a c fs body n _ (hF.below hB2) hM HF.out hn1).mono ?_
      rintro e w3 ⟨a3, c3, rfl, hT3, hb3⟩
      have hB3 := bnext hB2 hb3 (Nat.le_refl _)
      obtain ⟨ts, hts⟩ : ∃ ts, ts = valuesM fs n.data.toList := ⟨_, rfl⟩
      rw [← hts] at hT2 hT3 hvl ⊢
      clear hts
      go_wp2_with fail
      refine (sameTL_any a2 a3 c2 c3 ts _ (hT2.below hb3) hT3 hvl).mono ?_
      rintro e w4 ⟨rfl, hb4⟩
      go_wp2
      go_ret
      exact ⟨rfl, bnext hB3 hb4 (Nat.le_refl _)⟩
    · go_enter Tryd.func6, Tryd.ntmps6
      go_wp2_with fail
      refine (messages_any a c fs body _ (hF.below (hB0 _)) hM).mono ?_
      rintro e w1 ⟨a1, c1, rfl, hF1, hb1⟩
      have p0 : w1.cell? ⟨w.heap.size, 0, none⟩ = some (.slice a fs.length c) := cell_next (by simp) hb1
      have p1 : w1.cell? ⟨w.heap.size, 1, none⟩ = some (.string body) := cell_next (by simp) hb1
      have hB1 := bnext (hB0 _) hb1 (Nat.le_refl _)
      go_wp2_with fail
      refine (values_long a1 c1 fs body n _ hF1 hM (maxLenCell_below hm hB1) HF.out (by omega)).mono ?_
      rintro e w2 ⟨rfl, hb2⟩
      have hB2 := bnext hB1 hb2 (Nat.le_refl _)
      have p2 := cell_next p0 hb2
      have p3 := cell_next p1 hb2
      go_wp2_with fail
      refine (refValues_long a c fs body n _ (hF.below hB2) hM HF.out (by omega) hn).mono ?_
      rintro e w3 ⟨rfl, hb3⟩
      have hB3 := bnext hB2 hb3 (Nat.le_refl _)
      go_wp2_with fail
      refine (sameTL_any none none 0 0 [] _ (texts_nil _ _) (texts_nil _ _) (by simp)).mono ?_
      rintro e w4 ⟨rfl, hb4⟩
      go_wp2
      go_ret
      exact ⟨rfl, bnext hB3 hb4 (Nat.le_refl _)⟩
  · obtain ⟨m, hmf⟩ : ∃ m, m = faultM fs body.data.toList := ⟨_, rfl⟩
    have hn0 : (m == 0) = false := by rw [hmf]; simpa using hf
    have HF : Hid _ := hmf.symm
    clear hf hmf
    go_enter Tryd.func6, Tryd.ntmps6
    go_wp2_with fail
    refine (messages_any a c fs body _ (hF.below (hB0 _)) hM).mono ?_
    rintro e w1 ⟨a1, c1, rfl, hF1, hb1⟩
    have p0 : w1.cell? ⟨w.heap.size, 0, none⟩ = some (.slice a fs.length c) := cell_next (by simp) hb1
    have p1 : w1.cell? ⟨w.heap.size, 1, none⟩ = some (.string body) := cell_next (by simp) hb1
    have hB1 := bnext (hB0 _) hb1 (Nat.le_refl _)
    go_wp2_with fail
    refine (values_bad a1 c1 fs body n _ hF1 hM (maxLenCell_below hm hB1) m HF.out hn0).mono ?_
    rintro e w2 ⟨rfl, hb2⟩
    have hB2 := bnext hB1 hb2 (Nat.le_refl _)
    have p2 := cell_next p0 hb2
    have p3 := cell_next p1 hb2
    go_wp2_with fail
    refine (refValues_bad a c fs body n _ (hF.below hB2) hM m HF.out hn0).mono ?_
    rintro e w3 ⟨rfl, hb3⟩
    have hB3 := bnext hB2 hb3 (Nat.le_refl _)
    go_wp2_with fail
    refine (sameTL_any none none 0 0 [] _ (texts_nil _ _) (texts_nil _ _) (by simp)).mono ?_
    rintro e w4 ⟨rfl, hb4⟩
    go_wp2
    go_ret
    exact ⟨rfl, bnext hB3 hb4 (Nat.le_refl _)⟩
theorem letterValues_walk (w : World) (hm : maxLenCell w) (a : Option Addr) (c : Nat) (fs : List F) (body : ByteArray) (hF : FieldsAt w a fs) (hk : fs.length ≤ 1048576 ∧ body.size ≤ 1048576 ∧ ∀ f ∈ fs, f.1.length ≤ 1048576 ∧ f.2.length ≤ 1048576) (n : ByteArray) (_hn0 : n.size ≤ maxLen) (hn : n.size ≤ 1048576) :
    Calls Tryd.prog 6 #[.agg #[.slice a fs.length c, .string body], .string n] w fun e w' => e = .returned (.bool true) ∧ Below w.heap.size w w' :=
  letterValues_core w hm a c fs body hF hk n hn
end Go.Proofs.YtpkfafglpilkoaaDoor
