/-
  For all texts, cut to 60, 15 and 15 bytes: two stars are one; great letters are small ones (Rows.MatchStarsSaid); no condition.
-/
import Derived.Test.YtaolohlpdampgabRows
import Derived.Test.YtaolohlpdampgabMatch
import Derived.Test.YtaolohlpdampgabMasked
import Derived.WalkKit
import Derived.ProofKit
import Derived.OpenShut
import Derived.ShutString
import Derived.ChangeOld
namespace Go.Proofs.Ytaolohlpdampgab
open Go.ChangeShapes Go.WideShapes Go.ChangeAt Go.RowKit
open Go.ChangeMaps (open_string shut_string)
set_option linter.unusedVariables false


theorem match1 (s p : ByteArray) (b : Bool) (hs : s.size ≤ 2000) (hp : p.size ≤ 100) (hb : ((low s).toList == (low p).toList) = b) (w : World) :
    Calls Try.prog 7 #[.int .i64 1, .string s, .string p] w fun e w' => e = .returned (.tuple #[.bool b, .int .i64 0]) ∧ Below w.heap.size w w' := by
  rw [← hb]
  exact match_is s p w hs hp
theorem abc_same (t : ByteArray) : ((low (⟨#[97, 66, 99]⟩ ++ t)).toList == (low (⟨#[65, 98, 67]⟩ ++ t)).toList) = true := by
  have e : low (⟨#[97, 66, 99]⟩ ++ t) = low (⟨#[65, 98, 67]⟩ ++ t) := by
    have h1 := lowB_append ⟨#[97, 66, 99]⟩ t
    have h2 := lowB_append ⟨#[65, 98, 67]⟩ t
    have h3 : lowL (ByteArray.mk #[97, 66, 99]).data.toList = lowL (ByteArray.mk #[65, 98, 67]).data.toList := by decide
    rw [h3, ← h2] at h1
    exact ByteArray.ext (Array.toList_inj.1 h1)
  rw [e]
  simp

set_option maxHeartbeats 1000000 in
theorem matchStars_walk (a0 : ByteArray) (w0 : a0.size ≤ maxLen) (a1 : ByteArray) (w1 : a1.size ≤ maxLen) (a2 : ByteArray) (w2 : a2.size ≤ maxLen) (w : World) :
    Calls Try.prog 5 #[.string a0, .string a1, .string a2] w fun e w' => e = .returned (.bool true) ∧ Below w.heap.size w w' := by
  have z0 := cutB_size a0 60
  have z1 := cutB_size a1 15
  have z2 := cutB_size a2 15
  have HC0 : Hid _ := fun u => cut_any a0 60 u w0 (by omega)
  have HC1 : Hid _ := fun u => cut_any a1 15 u w1 (by omega)
  have HC2 : Hid _ := fun u => cut_any a2 15 u w2 (by omega)
  have y0 : (cutB a0 60).size ≤ 60 := by omega
  have y1 : (cutB a1 15).size ≤ 15 := by omega
  have y2 : (cutB a2 15).size ≤ 15 := by omega
  generalize cutB a0 60 = t at *
  generalize cutB a1 15 = a at *
  generalize cutB a2 15 = b at *
  clear z0 z1 z2
  have ma := maskB_size a
  have mb := maskB_size b
  have HA : Hid _ := fun u => masked_any a u (by omega)
  have HB : Hid _ := fun u => masked_any b u (by omega)
  have s1 : (ByteArray.mk #[42]).size = 1 := rfl
  have s2 : (ByteArray.mk #[42, 42]).size = 2 := rfl
  have s3 : (ByteArray.mk #[97, 66, 99]).size = 3 := rfl
  have s4 : (ByteArray.mk #[65, 98, 67]).size = 3 := rfl
  have l1 : lowL (ByteArray.mk #[42]).data.toList = [42] := by decide
  have l2 : lowL (ByteArray.mk #[42, 42]).data.toList = [42, 42] := by decide
  have HM1 : Hid _ := match3 t (maskB a ++ ⟨#[42]⟩ ++ maskB b) (globB (lowL t.data.toList) (mask (lowL a.data.toList) ++ [42] ++ mask (lowL b.data.toList))) (by omega) (by rw [ByteArray.size_append, ByteArray.size_append]; omega)
    (by rw [lowB_append, ← low_list (maskB a ++ ⟨#[42]⟩), lowB_append, l1, ← low_list (maskB a), lowB_mask, ← low_list (maskB b), lowB_mask, low_list])
  have HM2 : Hid _ := match3 t (maskB a ++ ⟨#[42, 42]⟩ ++ maskB b) (globB (lowL t.data.toList) (mask (lowL a.data.toList) ++ [42] ++ mask (lowL b.data.toList))) (by omega) (by rw [ByteArray.size_append, ByteArray.size_append]; omega)
    (by rw [lowB_append, ← low_list (maskB a ++ ⟨#[42, 42]⟩), lowB_append, l2, ← low_list (maskB a), lowB_mask, ← low_list (maskB b), lowB_mask, low_list]; exact (glob_stars _ _ _).symm)
  have HM3 : Hid _ := match1 (⟨#[97, 66, 99]⟩ ++ t) (⟨#[65, 98, 67]⟩ ++ t) true (by rw [ByteArray.size_append]; omega) (by rw [ByteArray.size_append]; omega) (abc_same t)
  generalize globB (lowL t.data.toList) (mask (lowL a.data.toList) ++ [42] ++ mask (lowL b.data.toList)) = bb at *
  have hB : Below w.heap.size w w := Below.refl _ _
  clear s1 s2 s3 s4 l1 l2
  go_enter Try.func5, Try.ntmps5
  go_wp2_with fail
  refine (HC0.out _).mono ?_
  rintro e u1 ⟨rfl, rfl⟩
  go_wp2_with fail
  refine (HC1.out _).mono ?_
  rintro e u2 ⟨rfl, rfl⟩
  go_wp2_with fail
  refine (HA.out _).mono ?_
  rintro e u3 ⟨rfl, k3⟩
  replace hB := Below.next hB k3 (Nat.le_refl _)
  clear k3
  go_wp2_with fail
  refine (HC2.out _).mono ?_
  rintro e u4 ⟨rfl, rfl⟩
  go_wp2_with fail
  refine (HB.out _).mono ?_
  rintro e u5 ⟨rfl, k5⟩
  replace hB := Below.next hB k5 (Nat.le_refl _)
  clear k5
  go_wp2_with fail
  refine (HM1.out _).mono ?_
  rintro e u6 ⟨rfl, k6⟩
  replace hB := Below.next hB k6 (Nat.le_refl _)
  clear k6
  go_wp2_with fail
  refine (HM2.out _).mono ?_
  rintro e u7 ⟨rfl, k7⟩
  replace hB := Below.next hB k7 (Nat.le_refl _)
  clear k7
  go_wp2_with fail
  refine (HM3.out _).mono ?_
  rintro e u8 ⟨rfl, k8⟩
  replace hB := Below.next hB k8 (Nat.le_refl _)
  clear k8
  go_wp2
  go_ret
  exact ⟨by simp, hB⟩

set_option maxRecDepth 100000 in
theorem matchStars_lifted (os : Os) (started : os.Started) (H : Type) (enc : TypeId × Value → H) :
    ReturnsInHanded {} Try.checked os 5 .any (Rows.matchStarsSpec.pre6 enc Try.prog Try.f5 Rows.matchStarsRow.domain false) (Rows.matchStarsSpec.post enc Try.prog Try.f5 false true false false) := by
  refine returnsInHanded_of_change (C := Try.checked) (by kernel_rfl) started (by kernel_rfl) Try.func5
    (ChangeSpec.witness6 (enc := enc) (C := Try.checked) false ⟨#[], #[.string ByteArray.empty, .string ByteArray.empty, .string ByteArray.empty], []⟩ 8 (by kernel_rfl) (by kernel_rfl) (by kernel_rfl) (by kernel_rfl)) ?_
  intro W base args ds gs before hval0 hW hcnd _
  have hval : ∀ (j : Nat) t v, Try.f5.params[j]? = some t → args[j]? = some v → Value.okWide Try.prog W .any base t v := hval0
  have hW' := hW
  obtain ⟨p, q, hA0, hV, rfl, hfz, hnd⟩ := hW
  have hA : DataW.TrodAll enc Try.prog W 0 (fun _ => true) true Try.f5.params.toList args.toList ds p := hA0
  rw [Try.params5] at hA hval
  obtain ⟨v0, vs0, d0, ds0, p0, q0, hargs, rfl, rfl, h0, r0⟩ := trodAll_cons hA
  obtain ⟨v1, vs1, d1, ds1, p1, q1, rfl, rfl, rfl, h1, r1⟩ := trodAll_cons r0
  obtain ⟨v2, vs2, d2, ds2, p2, q2, rfl, rfl, rfl, h2, r2⟩ := trodAll_cons r1
  obtain ⟨rfl, rfl, rfl⟩ := trodAll_nil r2
  obtain rfl : args = #[v0, v1, v2] := by cases args; simp_all
  obtain ⟨rfl, rfl⟩ := trodVars_none hV
  obtain ⟨a0, rfl, rfl, rfl, w0⟩ := open_string Try.underlying9 (hval 0 9 v0 rfl rfl) h0
  obtain ⟨a1, rfl, rfl, rfl, w1⟩ := open_string Try.underlying9 (hval 1 9 v1 rfl rfl) h1
  obtain ⟨a2, rfl, rfl, rfl, w2⟩ := open_string Try.underlying9 (hval 2 9 v2 rfl rfl) h2
  clear hA0 hval0
  refine (matchStars_walk a0 w0 a1 w1 a2 w2 W).mono fun e W' ⟨he, bel⟩ => ?_
  subst he
  exact ⟨_, rfl, _, _, _, [], _, [], hW', trodAll_mk1 (shut_bool Try.underlying4 _), (trodAll_cons_mk (shut_string Try.underlying9 w0) (trodAll_cons_mk (shut_string Try.underlying9 w1) (trodAll_cons_mk (shut_string Try.underlying9 w2) trodAll_mk0))), rfl, bel.frame _, fun h => by cases h⟩

theorem matchStars_over : Rows.matchStarsRow.holds Try.pinned (OpenSpec.ofChange Rows.matchStarsSpec) :=
  OpenClaim.holds_of_wide 5 Try.f5 rfl rfl rfl rfl rfl rfl rfl ⟨rfl, rfl, rfl, rfl, rfl⟩ rfl rfl rfl rfl rfl (by kernel_rfl) Try.func5 (by kernel_rfl)
    (of_decide_eq_true (by kernel_rfl)) (by unfold Func.isWrapper; rw [if_neg (by decide +kernel)]; exact ⟨rfl, rfl⟩)
    (fun os started H enc _ => matchStars_lifted os started H enc)

/-- THE STATEMENT. -/
theorem matchStars_proved : Rows.MatchStarsSaid := matchStars_over
end Go.Proofs.Ytaolohlpdampgab
