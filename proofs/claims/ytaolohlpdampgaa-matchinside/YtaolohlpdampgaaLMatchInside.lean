/-
  For all texts, cut to 200 and 40 bytes: contains is a match with stars around (Rows.MatchInsideSaid); no condition.
-/
import Derived.Test.YtaolohlpdampgaaRows
import Derived.Test.YtaolohlpdampgaaMatch
import Derived.Test.YtaolohlpdampgaaMasked
import Derived.WalkKit
import Derived.ProofKit
import Derived.OpenShut
import Derived.ShutString
import Derived.ChangeOld
import Derived.HandedShaped
namespace Go.Proofs.Ytaolohlpdampgaa
open Go.ChangeShapes Go.WideShapes Go.ChangeAt Go.RowKit
open Go.ChangeMaps (open_string shut_string)
set_option linter.unusedVariables false

theorem match2 (s p : ByteArray) (b : Bool) (hs : s.size ≤ 2000) (hp : p.size ≤ 100) (hb : Lib.contains (low s).data.toList (low p).data.toList = b) (w : World) (hm : maxLenCell w) :
    Calls Try.prog 11 #[.int .i64 2, .string s, .string p] w fun e w' => e = .returned (.tuple #[.bool b, .int .i64 0]) ∧ Below w.heap.size w w' := by
  rw [← hb]
  exact match_contains s p w hs hp hm

set_option maxHeartbeats 1000000 in
theorem matchInside_walk (a0 : ByteArray) (w0 : a0.size ≤ maxLen) (a1 : ByteArray) (w1 : a1.size ≤ maxLen) (w : World) (hm : maxLenCell w) :
    Calls Try.prog 8 #[.string a0, .string a1] w fun e w' => e = .returned (.bool true) ∧ Below w.heap.size w w' := by
  have z0 := cutB_size a0 200
  have z1 := cutB_size a1 40
  have HC0 : Hid _ := fun u => cut_any a0 200 u w0 (by omega)
  have HC1 : Hid _ := fun u => cut_any a1 40 u w1 (by omega)
  have y0 : (cutB a0 200).size ≤ 200 := by omega
  have y1 : (cutB a1 40).size ≤ 40 := by omega
  generalize cutB a0 200 = t at *
  generalize cutB a1 40 = q at *
  clear z0 z1
  have mq := maskB_size q
  have HQ : Hid _ := fun u => masked_any q u (by omega)
  have s1 : (ByteArray.mk #[42]).size = 1 := rfl
  have l1 : lowL (ByteArray.mk #[42]).data.toList = [42] := by decide
  have HM1 : Hid _ := match2 t q _ (by omega) (by omega) rfl
  have HM2 : Hid _ := match3 t (⟨#[42]⟩ ++ maskB q ++ ⟨#[42]⟩) (Lib.contains (low t).data.toList (low q).data.toList) (by omega) (by rw [ByteArray.size_append, ByteArray.size_append]; omega)
    (by rw [lowB_append, ← low_list (⟨#[42]⟩ ++ maskB q), lowB_append, l1, ← low_list (maskB q), lowB_mask, low_list q]; exact (glob_inside _ _).symm)
  have HM3 : Hid _ := match2 (t ++ q) q true (by rw [ByteArray.size_append]; omega) (by omega) (by rw [lowB_append, low_list]; exact contains_last _ _)
  generalize Lib.contains (low t).data.toList (low q).data.toList = bb at *
  have hB : Below w.heap.size w w := Below.refl _ _
  have HM : Hid _ := hm
  clear s1 l1 hm
  go_enter Try.func8, Try.ntmps8
  go_wp2_with fail
  refine (HC0.out _).mono ?_
  rintro e u1 ⟨rfl, rfl⟩
  go_wp2_with fail
  refine (HC1.out _).mono ?_
  rintro e u2 ⟨rfl, rfl⟩
  go_wp2_with fail
  refine (HM1.out _ HM.out).mono ?_
  rintro e u3 ⟨rfl, k3⟩
  replace hB := Below.next hB k3 (Nat.le_refl _)
  clear k3
  go_wp2_with fail
  refine (HQ.out _).mono ?_
  rintro e u4 ⟨rfl, k4⟩
  replace hB := Below.next hB k4 (Nat.le_refl _)
  clear k4
  go_wp2_with fail
  refine (HM2.out _).mono ?_
  rintro e u5 ⟨rfl, k5⟩
  replace hB := Below.next hB k5 (Nat.le_refl _)
  clear k5
  go_wp2_with fail
  refine (HM3.out _ (maxLenCell_below HM.out hB)).mono ?_
  rintro e u6 ⟨rfl, k6⟩
  replace hB := Below.next hB k6 (Nat.le_refl _)
  clear k6
  go_wp2
  go_ret
  exact ⟨by simp, hB⟩

set_option maxRecDepth 100000 in
theorem matchInside_lifted (os : Os) (started : os.Started) (H : Type) (enc : TypeId × Value → H) :
    ReturnsInHanded {} Try.checked os 8 .any (Rows.matchInsideSpec.pre6 enc Try.prog Try.f8 Rows.matchInsideRow.domain false) (Rows.matchInsideSpec.post enc Try.prog Try.f8 false true false false) := by
  refine returnsInHanded_of_change_shaped (C := Try.checked) (by kernel_rfl) started (by kernel_rfl) Try.func8
    (ChangeSpec.witness6 (enc := enc) (C := Try.checked) false ⟨#[], #[.string ByteArray.empty, .string ByteArray.empty], []⟩ 8 (by kernel_rfl) (by kernel_rfl) (by kernel_rfl) (by kernel_rfl)) ?_
  intro W base args ds gs before hval0 hW hcnd _ hsh _
  have hval : ∀ (j : Nat) t v, Try.f8.params[j]? = some t → args[j]? = some v → Value.okWide Try.prog W .any base t v := hval0
  have hW' := hW
  obtain ⟨p, q, hA0, hV, rfl, hfz, hnd⟩ := hW
  have hA : DataW.TrodAll enc Try.prog W 0 (fun _ => true) true Try.f8.params.toList args.toList ds p := hA0
  rw [Try.params8] at hA hval
  obtain ⟨v0, vs0, d0, ds0, p0, q0, hargs, rfl, rfl, h0, r0⟩ := trodAll_cons hA
  obtain ⟨v1, vs1, d1, ds1, p1, q1, rfl, rfl, rfl, h1, r1⟩ := trodAll_cons r0
  obtain ⟨rfl, rfl, rfl⟩ := trodAll_nil r1
  obtain rfl : args = #[v0, v1] := by cases args; simp_all
  obtain ⟨rfl, rfl⟩ := trodVars_none hV
  obtain ⟨a0, rfl, rfl, rfl, w0⟩ := open_string Try.underlying9 (hval 0 9 v0 rfl rfl) h0
  obtain ⟨a1, rfl, rfl, rfl, w1⟩ := open_string Try.underlying9 (hval 1 9 v1 rfl rfl) h1
  clear hA0 hval0
  refine (matchInside_walk a0 w0 a1 w1 W (maxLenCell_shaped W hsh)).mono fun e W' ⟨he, bel⟩ => ?_
  subst he
  exact ⟨_, rfl, _, _, _, [], _, [], hW', trodAll_mk1 (shut_bool Try.underlying4 _), (trodAll_cons_mk (shut_string Try.underlying9 w0) (trodAll_cons_mk (shut_string Try.underlying9 w1) trodAll_mk0)), rfl, bel.frame _, fun h => by cases h⟩

theorem matchInside_over : Rows.matchInsideRow.holds Try.pinned (OpenSpec.ofChange Rows.matchInsideSpec) :=
  OpenClaim.holds_of_wide 8 Try.f8 rfl rfl rfl rfl rfl rfl rfl ⟨rfl, rfl, rfl, rfl, rfl⟩ rfl rfl rfl rfl rfl (by kernel_rfl) Try.func8 (by kernel_rfl)
    (of_decide_eq_true (by kernel_rfl)) (by unfold Func.isWrapper; rw [if_neg (by decide +kernel)]; exact ⟨rfl, rfl⟩)
    (fun os started H enc _ => matchInside_lifted os started H enc)

/-- THE STATEMENT. -/
theorem matchInside_proved : Rows.MatchInsideSaid := matchInside_over
end Go.Proofs.Ytaolohlpdampgaa
