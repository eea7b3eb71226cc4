/-
  What the small functions of package token do (digits, letters, spans): the walks.
-/
import Derived.Test.YtnjlakengbhokaaDoorRows
import Derived.Test.YtnjlakengbhokaaDoorPure
import Derived.Test.YtnjlakengbhokaaDoorTokGap
import Derived.WalkKit
import Derived.WalkSpells
import Derived.WalkLawsBesides
import Derived.Shelf.Abstract
import Derived.Laws.IdiomStrings
namespace Go.Proofs.YtnjlakengbhokaaDoor
open Go.RowKit Go.Proofs

theorem digitC_yes {c : UInt8} (h1 : 48 ≤ c.toNat) (h2 : c.toNat ≤ 57) : digitC c = true := by unfold digitC; simp [h1, h2]
theorem digitC_no {c : UInt8} (h : ¬ (48 ≤ c.toNat ∧ c.toNat ≤ 57)) : digitC c = false := by
  unfold digitC
  rw [Bool.and_eq_false_iff, decide_eq_false_iff_not, decide_eq_false_iff_not]
  omega

set_option maxHeartbeats 1000000 in
theorem isDigit_any (c : UInt8) (w : World) :
    Calls Tryd.prog 71 #[.int .u8 c.toNat] w fun e w' => e = .returned (.bool (digitC c)) ∧ w' = w := by
  have hu := c.toNat_lt
  by_cases h1 : 48 ≤ c.toNat
  · by_cases h2 : c.toNat ≤ 57
    · have HA : Hid _ := digitC_yes h1 h2
      have b1 : (48 : Int) ≤ (c.toNat : Int) := by omega
      have b2 : (c.toNat : Int) ≤ 57 := by omega
      clear h1 h2
      go_enter Tryd.func71, Tryd.ntmps71
      go_wp2
      go_ret
      exact ⟨ret_bool HA.out.symm, rfl⟩
    · have HA : Hid (digitC c = false) := digitC_no (by omega)
      have b1 : (48 : Int) ≤ (c.toNat : Int) := by omega
      have b2 : ¬ (c.toNat : Int) ≤ 57 := by omega
      clear h1 h2
      go_enter Tryd.func71, Tryd.ntmps71
      go_wp2
      go_ret
      exact ⟨ret_bool HA.out.symm, rfl⟩
  · have HA : Hid (digitC c = false) := digitC_no (by omega)
    have b1 : ¬ (48 : Int) ≤ (c.toNat : Int) := by omega
    clear h1
    go_enter Tryd.func71, Tryd.ntmps71
    go_wp2
    go_ret
    exact ⟨ret_bool HA.out.symm, rfl⟩

theorem wordy_low {c : UInt8} (h1 : 97 ≤ c.toNat) (h2 : c.toNat ≤ 122) : wordyC c = true := by unfold wordyC letterC; simp [h1, h2]
theorem wordy_up {c : UInt8} (h1 : 65 ≤ c.toNat) (h2 : c.toNat ≤ 90) : wordyC c = true := by unfold wordyC letterC; simp [h1, h2]
theorem wordy_else {c : UInt8} (h1 : ¬ (97 ≤ c.toNat ∧ c.toNat ≤ 122)) (h2 : ¬ (65 ≤ c.toNat ∧ c.toNat ≤ 90)) (h3 : digitC c = false) : wordyC c = decide ((c.toNat : Int) = 95) := by
  unfold wordyC letterC
  rw [h3]
  have e1 : (decide (97 ≤ c.toNat) && decide (c.toNat ≤ 122)) = false := by rw [Bool.and_eq_false_iff, decide_eq_false_iff_not, decide_eq_false_iff_not]; omega
  have e2 : (decide (65 ≤ c.toNat) && decide (c.toNat ≤ 90)) = false := by rw [Bool.and_eq_false_iff, decide_eq_false_iff_not, decide_eq_false_iff_not]; omega
  rw [e1, e2]
  simp only [Bool.false_or, Bool.or_false]
  by_cases h : c = 95
  · subst h; rfl
  · have : ¬ (c.toNat : Int) = 95 := fun e => h (UInt8.toNat_inj.1 (by show c.toNat = 95; omega))
    simp [h, this]

set_option maxHeartbeats 2000000 in
theorem inWord_any (c : UInt8) (w : World) :
    Calls Tryd.prog 73 #[.int .u8 c.toNat] w fun e w' => e = .returned (.bool (wordyC c)) ∧ w' = w := by
  have hu := c.toNat_lt
  by_cases h1 : 97 ≤ c.toNat ∧ c.toNat ≤ 122
  · have HA : Hid _ := wordy_low h1.1 h1.2
    have b1 : (97 : Int) ≤ (c.toNat : Int) := by omega
    have b2 : (c.toNat : Int) ≤ 122 := by omega
    clear h1
    go_enter Tryd.func73, Tryd.ntmps73
    go_wp2
    go_ret
    exact ⟨ret_bool HA.out.symm, rfl⟩
  by_cases h2 : 65 ≤ c.toNat ∧ c.toNat ≤ 90
  · have HA : Hid _ := wordy_up h2.1 h2.2
    have b0 : ¬ (97 : Int) ≤ (c.toNat : Int) := by omega
    have b1 : (65 : Int) ≤ (c.toNat : Int) := by omega
    have b2 : (c.toNat : Int) ≤ 90 := by omega
    clear h1 h2
    go_enter Tryd.func73, Tryd.ntmps73
    go_wp2
    go_ret
    exact ⟨ret_bool HA.out.symm, rfl⟩
  cases h3 : digitC c with
  | true =>
    have HA : Hid (wordyC c = true) := by unfold Hid wordyC; rw [h3]; simp
    have HD : Hid _ := h3
    have h3' : 48 ≤ c.toNat ∧ c.toNat ≤ 57 := by unfold digitC at h3; simpa using h3
    have b0 : ¬ (97 : Int) ≤ (c.toNat : Int) := by omega
    have b1 : ¬ (65 : Int) ≤ (c.toNat : Int) := by omega
    clear h1 h2 h3 h3'
    go_enter Tryd.func73, Tryd.ntmps73
    go_wp2_with fail
    refine (isDigit_any c _).mono ?_
    rintro e u ⟨rfl, hu⟩
    have hu' := hu.symm
    subst hu'
    rw [HD.out]
    go_wp2
    go_ret
    exact ⟨ret_bool HA.out.symm, rfl⟩
  | false =>
    have HA : Hid _ := wordy_else h1 h2 h3
    have HD : Hid _ := h3
    clear h3
    by_cases g1 : 97 ≤ c.toNat
    · have b0 : (97 : Int) ≤ (c.toNat : Int) := by omega
      have b0' : ¬ (c.toNat : Int) ≤ 122 := by omega
      have b1 : (65 : Int) ≤ (c.toNat : Int) := by omega
      have b1' : ¬ (c.toNat : Int) ≤ 90 := by omega
      clear h1 h2 g1
      go_enter Tryd.func73, Tryd.ntmps73
      go_wp2_with fail
      refine (isDigit_any c _).mono ?_
      rintro e u ⟨rfl, hu⟩
      have hu' := hu.symm
      subst hu'
      rw [HD.out]
      go_wp2
      go_ret
      exact ⟨ret_bool (by rw [HA.out]; first | rfl | simp), rfl⟩
    · by_cases g2 : 65 ≤ c.toNat
      · have b0 : ¬ (97 : Int) ≤ (c.toNat : Int) := by omega
        have b1 : (65 : Int) ≤ (c.toNat : Int) := by omega
        have b1' : ¬ (c.toNat : Int) ≤ 90 := by omega
        clear h1 h2 g1 g2
        go_enter Tryd.func73, Tryd.ntmps73
        go_wp2_with fail
        refine (isDigit_any c _).mono ?_
        rintro e u ⟨rfl, hu⟩
        have hu' := hu.symm
        subst hu'
        rw [HD.out]
        go_wp2
        go_ret
        exact ⟨ret_bool (by rw [HA.out]; first | rfl | simp), rfl⟩
      · have b0 : ¬ (97 : Int) ≤ (c.toNat : Int) := by omega
        have b1 : ¬ (65 : Int) ≤ (c.toNat : Int) := by omega
        clear h1 h2 g1 g2
        go_enter Tryd.func73, Tryd.ntmps73
        go_wp2_with fail
        refine (isDigit_any c _).mono ?_
        rintro e u ⟨rfl, hu⟩
        have hu' := hu.symm
        subst hu'
        rw [HD.out]
        go_wp2
        go_ret
        exact ⟨ret_bool (by rw [HA.out]; first | rfl | simp), rfl⟩
end Go.Proofs.YtnjlakengbhokaaDoor
