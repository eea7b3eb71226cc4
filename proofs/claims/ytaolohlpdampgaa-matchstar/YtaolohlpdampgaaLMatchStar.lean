/-
  For all texts, each cut to 20 bytes: a star stands for anything, alone, ahead of, behind and between what is said (Rows.MatchStarSaid); no condition.
-/
import Derived.Test.YtaolohlpdampgaaRows
import Derived.Test.YtaolohlpdampgaaMatch
import Derived.Test.YtaolohlpdampgaaMasked
import Derived.WalkKit
import Derived.ProofKit
import Derived.OpenShut
import Derived.ShutString
import Derived.ChangeOld
namespace Go.Proofs.Ytaolohlpdampgaa
open Go.ChangeShapes Go.WideShapes Go.ChangeAt Go.RowKit
open Go.ChangeMaps (open_string shut_string)
set_option linter.unusedVariables false

set_option maxHeartbeats 1000000 in
theorem matchStar_walk (a0 : ByteArray) (w0 : a0.size ≤ maxLen) (a1 : ByteArray) (w1 : a1.size ≤ maxLen) (a2 : ByteArray) (w2 : a2.size ≤ maxLen) (w : World) :
    Calls Try.prog 7 #[.string a0, .string a1, .string a2] w fun e w' => e = .returned (.bool true) ∧ Below w.heap.size w w' := by
  have z0 := cutB_size a0 20
  have z1 := cutB_size a1 20
  have z2 := cutB_size a2 20
  have HC0 : Hid _ := fun u => cut_any a0 20 u w0 (by omega)
  have HC1 : Hid _ := fun u => cut_any a1 20 u w1 (by omega)
  have HC2 : Hid _ := fun u => cut_any a2 20 u w2 (by omega)
  have y0 : (cutB a0 20).size ≤ 20 := by omega
  have y1 : (cutB a1 20).size ≤ 20 := by omega
  have y2 : (cutB a2 20).size ≤ 20 := by omega
  generalize cutB a0 20 = a at *
  generalize cutB a1 20 = b at *
  generalize cutB a2 20 = c at *
  clear z0 z1 z2
  have ma := maskB_size a
  have mb := maskB_size b
  have mc := maskB_size c
  have HA : Hid _ := fun u => masked_any a u (by omega)
  have HB : Hid _ := fun u => masked_any b u (by omega)
  have HCm : Hid _ := fun u => masked_any c u (by omega)
  have s1 : (ByteArray.mk #[42]).size = 1 := rfl
  have l1 : lowL (ByteArray.mk #[42]).data.toList = [42] := by decide
  have HM1 : Hid _ := match3 a ⟨#[42]⟩ true (by omega) (by omega) (by rw [low_list ⟨#[42]⟩, l1]; exact glob_star _)
  have HM2 : Hid _ := match3 (a ++ b) (maskB a ++ ⟨#[42]⟩) true (by rw [ByteArray.size_append]; omega) (by rw [ByteArray.size_append]; omega)
    (by rw [lowB_append, lowB_append, l1, ← low_list (maskB a), lowB_mask]; exact glob_mask_star _ _)
  have HM3 : Hid _ := match3 (a ++ b) (⟨#[42]⟩ ++ maskB b) true (by rw [ByteArray.size_append]; omega) (by rw [ByteArray.size_append]; omega)
    (by rw [lowB_append, lowB_append, l1, ← low_list (maskB b), lowB_mask]; exact glob_star_mask _ _)
  have HM4 : Hid _ := match3 (a ++ b ++ c) (maskB a ++ ⟨#[42]⟩ ++ maskB c) true (by rw [ByteArray.size_append, ByteArray.size_append]; omega) (by rw [ByteArray.size_append, ByteArray.size_append]; omega)
    (by rw [lowB_append, ← low_list (a ++ b), lowB_append, lowB_append, ← low_list (maskB a ++ ⟨#[42]⟩), lowB_append, l1, ← low_list (maskB a), lowB_mask, ← low_list (maskB c), lowB_mask]; exact glob_mask_star_mask _ _ _)
  have HM5 : Hid _ := match3 ⟨#[]⟩ ⟨#[63]⟩ false (by decide) (by decide) (by decide)
  have hB : Below w.heap.size w w := Below.refl _ _
  clear s1 l1
  go_enter Try.func7, Try.ntmps7
  go_wp2_with fail
  refine (HC0.out _).mono ?_
  rintro e u1 ⟨rfl, rfl⟩
  go_wp2_with fail
  refine (HC1.out _).mono ?_
  rintro e u2 ⟨rfl, rfl⟩
  go_wp2_with fail
  refine (HC2.out _).mono ?_
  rintro e u3 ⟨rfl, rfl⟩
  go_wp2_with fail
  refine (HM1.out _).mono ?_
  rintro e u4 ⟨rfl, k4⟩
  replace hB := Below.next hB k4 (Nat.le_refl _)
  clear k4
  go_wp2_with fail
  refine (HA.out _).mono ?_
  rintro e u5 ⟨rfl, k5⟩
  replace hB := Below.next hB k5 (Nat.le_refl _)
  clear k5
  go_wp2_with fail
  refine (HM2.out _).mono ?_
  rintro e u6 ⟨rfl, k6⟩
  replace hB := Below.next hB k6 (Nat.le_refl _)
  clear k6
  go_wp2_with fail
  refine (HB.out _).mono ?_
  rintro e u7 ⟨rfl, k7⟩
  replace hB := Below.next hB k7 (Nat.le_refl _)
  clear k7
  go_wp2_with fail
  refine (HM3.out _).mono ?_
  rintro e u8 ⟨rfl, k8⟩
  replace hB := Below.next hB k8 (Nat.le_refl _)
  clear k8
  go_wp2_with fail
  refine (HA.out _).mono ?_
  rintro e u9 ⟨rfl, k9⟩
  replace hB := Below.next hB k9 (Nat.le_refl _)
  clear k9
  go_wp2_with fail
  refine (HCm.out _).mono ?_
  rintro e u10 ⟨rfl, k10⟩
  replace hB := Below.next hB k10 (Nat.le_refl _)
  clear k10
  go_wp2_with fail
  refine (HM4.out _).mono ?_
  rintro e u11 ⟨rfl, k11⟩
  replace hB := Below.next hB k11 (Nat.le_refl _)
  clear k11
  go_wp2_with fail
  refine (HM5.out _).mono ?_
  rintro e u12 ⟨rfl, k12⟩
  replace hB := Below.next hB k12 (Nat.le_refl _)
  clear k12
  go_wp2
  go_ret
  exact ⟨rfl, hB⟩

set_option maxRecDepth 100000 in
theorem matchStar_lifted (os : Os) (started : os.Started) (H : Type) (enc : TypeId × Value → H) :
    ReturnsInHanded {} Try.checked os 7 .any (Rows.matchStarSpec.pre6 enc Try.prog Try.f7 Rows.matchStarRow.domain false) (Rows.matchStarSpec.post enc Try.prog Try.f7 false true false false) := by
  refine returnsInHanded_of_change (C := Try.checked) (by kernel_rfl) started (by kernel_rfl) Try.func7
    (ChangeSpec.witness6 (enc := enc) (C := Try.checked) false ⟨#[], #[.string ByteArray.empty, .string ByteArray.empty, .string ByteArray.empty], []⟩ 8 (by kernel_rfl) (by kernel_rfl) (by kernel_rfl) (by kernel_rfl)) ?_
  intro W base args ds gs before hval0 hW hcnd _
  have hval : ∀ (j : Nat) t v, Try.f7.params[j]? = some t → args[j]? = some v → Value.okWide Try.prog W .any base t v := hval0
  have hW' := hW
  obtain ⟨p, q, hA0, hV, rfl, hfz, hnd⟩ := hW
  have hA : DataW.TrodAll enc Try.prog W 0 (fun _ => true) true Try.f7.params.toList args.toList ds p := hA0
  rw [Try.params7] at hA hval
  obtain ⟨v0, vs0, d0, ds0, p0, q0, hargs, rfl, rfl, h0, r0⟩ := trodAll_cons hA
  obtain ⟨v1, vs1, d1, ds1, p1, q1, rfl, rfl, rfl, h1, r1⟩ := trodAll_cons r0
  obtain ⟨v2, vs2, d2, ds2, p2, q2, rfl, rfl, rfl, h2, r2⟩ := trodAll_cons r1
  obtain ⟨rfl, rfl, rfl⟩ := trodAll_nil r2
  obtain rfl : args = #[v0, v1, v2] := by cases args; simp_all
  obtain ⟨rfl, rfl⟩ := trodVars_none hV
  obtain ⟨a0, rfl, rfl, rfl, w0⟩ := open_string Try.underlying9 (hval 0 9 v0 rfl rfl) h0
  obtain ⟨a1, rfl, rfl, rfl, w1⟩ := open_string Try.underlying9 (hval 1 9 v1 rfl rfl) h1
  obtain ⟨a2, rfl, rfl, rfl, w2⟩ := open_string Try.underlying9 (hval 2 9 v2 rfl rfl) h2
  clear hA0 hval0
  refine (matchStar_walk a0 w0 a1 w1 a2 w2 W).mono fun e W' ⟨he, bel⟩ => ?_
  subst he
  exact ⟨_, rfl, _, _, _, [], _, [], hW', trodAll_mk1 (shut_bool Try.underlying4 _), (trodAll_cons_mk (shut_string Try.underlying9 w0) (trodAll_cons_mk (shut_string Try.underlying9 w1) (trodAll_cons_mk (shut_string Try.underlying9 w2) trodAll_mk0))), rfl, bel.frame _, fun h => by cases h⟩

theorem matchStar_over : Rows.matchStarRow.holds Try.pinned (OpenSpec.ofChange Rows.matchStarSpec) :=
  OpenClaim.holds_of_wide 7 Try.f7 rfl rfl rfl rfl rfl rfl rfl ⟨rfl, rfl, rfl, rfl, rfl⟩ rfl rfl rfl rfl rfl (by kernel_rfl) Try.func7 (by kernel_rfl)
    (of_decide_eq_true (by kernel_rfl)) (by unfold Func.isWrapper; rw [if_neg (by decide +kernel)]; exact ⟨rfl, rfl⟩)
    (fun os started H enc _ => matchStar_lifted os started H enc)

/-- THE STATEMENT. -/
theorem matchStar_proved : Rows.MatchStarSaid := matchStar_over
end Go.Proofs.Ytaolohlpdampgaa
