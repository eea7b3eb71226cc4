/-
  Proved: for every text, rule.Name answers what the document's P6.2 says (no condition but the form's own).
-/
import Derived.Test.YtbdpfoidhffalabRulName
import Derived.WalkKit
import Derived.ProofKit
import Derived.OpenShut
import Derived.ShutString
import Derived.ChangeOld
namespace Go.Proofs.Ytbdpfoidhffalab
open Go.ChangeShapes Go.WideShapes Go.ChangeAt Go.RowKit
open Go.ChangeMaps (open_string shut_string)
set_option linter.unusedVariables false

theorem in_any (a b c : Int) (w : World) :
    Calls Try.prog 6 #[.int .i64 a, .int .i64 b, .int .i64 c] w fun e w' => e = .returned (.bool (decide (b ≤ a) && decide (a ≤ c))) ∧ w' = w := by
  by_cases h1 : b ≤ a
  · by_cases h2 : a ≤ c
    · go_enter Try.func6, Try.ntmps6
      go_wp2
      go_ret
      exact ⟨by simp [h1, h2], rfl⟩
    · go_enter Try.func6, Try.ntmps6
      go_wp2
      go_ret
      exact ⟨by simp [h2], rfl⟩
  · have HF : Hid (decide (b ≤ a) = false) := decide_eq_false h1
    go_enter Try.func6, Try.ntmps6
    go_wp2
    go_ret
    exact ⟨by rw [HF.out]; rfl, rfl⟩
set_option maxHeartbeats 2000000 in
theorem boxName_any (s : ByteArray) (w : World) :
    Calls Try.prog 5 #[.string s] w fun e w' => e = .returned (.int .i64 (nameP s.data.toList)) ∧ w' = w := by
  by_cases h0 : s.size < 1 ∨ 12 < s.size
  · have HR : Hid _ := nameP_size h0
    have HD : Hid ((decide ((1 : Int) ≤ (s.size : Int)) && decide ((s.size : Int) ≤ 12)) = false) := by unfold Hid; simp; omega
    clear h0
    go_enter Try.func5, Try.ntmps5
    go_wp2_with fail
    refine (in_any _ 1 12 w).mono ?_
    rintro e u ⟨rfl, hu⟩
    have hu' := hu.symm
    subst hu'
    rw [HD.out]
    go_wp2
    go_ret
    exact ⟨ret_int HR.out.symm, rfl⟩
  · have HD : Hid ((decide ((1 : Int) ≤ (s.size : Int)) && decide ((s.size : Int) ≤ 12)) = true) := by unfold Hid; simp; omega
    go_enter Try.func5, Try.ntmps5
    go_wp2_with fail
    refine (in_any _ 1 12 w).mono ?_
    rintro e u ⟨rfl, hu⟩
    have hu' := hu.symm
    subst hu'
    rw [HD.out]
    go_wp2
    go_loopw [3] (fun i wr => ∃ k : Nat, k ≤ s.size ∧ i = .int .i64 k ∧ Hid ((s.data.toList.take k).all inName = true) ∧ wr = w) (fun i _ => s.size - (intOf i).toNat)
    case atStart => exact ⟨0, Nat.zero_le _, rfl, rfl, rfl⟩
    case round =>
      obtain ⟨k, hk, rfl, HT, rfl⟩ := hrel
      by_cases hlt : k < s.size
      · have hg := get_list s k hlt
        have HS : Hid _ := all_take_more inName hg
        have HU : Hid ((decide ((33 : Int) ≤ (s[k].toNat : Int)) && decide ((s[k].toNat : Int) ≤ 126)) = inName s[k]) := by
          unfold Hid inName
          have e1 : decide ((33 : Int) ≤ (s[k].toNat : Int)) = decide (33 ≤ s[k].toNat) := by simp only [decide_eq_decide]; omega
          have e2 : decide ((s[k].toNat : Int) ≤ 126) = decide (s[k].toNat ≤ 126) := by simp only [decide_eq_decide]; omega
          rw [e1, e2]
        have HW : Hid (wrap64 (s[k].toNat : Int) = (s[k].toNat : Int)) := by
          have := s[k].toNat_lt
          unfold Hid wrap64; omega
        have hlt' : (k : Int) < (s.size : Int) := by omega
        have hk0 : (0 : Int) ≤ (k : Int) := by omega
        cases ha : inName s[k] with
        | true =>
          have HN : Hid ((s.data.toList.take (k + 1)).all inName = true) := by unfold Hid; rw [HS.out, HT.out, ha]; rfl
          have HA : Hid _ := ha
          clear HS hg ha
          go_wp2_with fail
          refine (in_any _ 33 126 _).mono ?_
          rintro e v ⟨rfl, hu⟩
          have hu' := hu.symm
          subst hu'
          rw [HW.out, HU.out, HA.out]
          go_wp2
          go_roundw
          case rel => first | exact ⟨k + 1, by omega, by go_num, HN, by first | rfl | trivial⟩ | ((repeat apply Exists.intro); exact ⟨⟨k + 1, by omega, by go_num, HN, by first | rfl | trivial⟩, rfl⟩) | (refine ⟨trivial, ?_⟩; (repeat apply Exists.intro); exact ⟨⟨k + 1, by omega, by go_num, HN, by first | rfl | trivial⟩, rfl⟩)
          case measure => simp [intOf]; omega
        | false =>
          have HN : Hid _ := nameP_bad (List.mem_of_getElem? hg) (by omega) (by omega) ha
          have HA : Hid _ := ha
          clear HS hg ha
          go_wp2_with fail
          refine (in_any _ 33 126 _).mono ?_
          rintro e v ⟨rfl, hu⟩
          have hu' := hu.symm
          subst hu'
          rw [HW.out, HU.out, HA.out]
          go_wp2
          go_ret
          exact ⟨ret_int HN.out.symm, rfl⟩
      · have hk' : k = s.size := by omega
        have HN : Hid (nameP s.data.toList = 0) := nameP_good (by omega) (by omega) (by have := HT.out; rwa [List.take_of_length_le (by rw [size_list]; omega)] at this)
        have hlt' : ¬ (k : Int) < (s.size : Int) := by omega
        go_wp2
        go_ret
        exact ⟨ret_int HN.out.symm, rfl⟩
set_option maxHeartbeats 2000000 in
theorem ruleNames_walk (s : ByteArray) (_ : s.size ≤ maxLen) (w : World) :
    Calls Try.prog 3 #[.string s] w fun e w' => e = .returned (.bool true) ∧ Below w.heap.size w w' := by
  obtain ⟨y, hy⟩ : ∃ y, y = nameP s.data.toList := ⟨_, rfl⟩
  have HY : Hid _ := hy
  clear hy
  go_enter Try.func3, Try.ntmps3
  go_wp2_with fail
  refine (rname_any s w).mono ?_
  rintro e u ⟨rfl, hu⟩
  have hu' := hu.symm
  subst hu'
  rw [← HY.out]
  go_wp2_with fail
  refine (boxName_any s w).mono ?_
  rintro e v ⟨rfl, hu⟩
  have hu' := hu.symm
  subst hu'
  rw [← HY.out]
  go_wp2
  go_ret
  exact ⟨by simp, Below.refl _ _⟩

theorem ruleNames_lifted (os : Os) (started : os.Started) (H : Type) (enc : TypeId × Value → H) :
    ReturnsInHanded {} Try.checked os 3 .any (Rows.ruleNamesSpec.pre6 enc Try.prog Try.f3 Rows.ruleNamesRow.domain false) (Rows.ruleNamesSpec.post enc Try.prog Try.f3 false true false false) := by
  refine returnsInHanded_of_change (C := Try.checked) (by kernel_rfl) started (by kernel_rfl) Try.func3
    (ChangeSpec.witness6 (enc := enc) (C := Try.checked) false ⟨#[], #[.string ByteArray.empty], []⟩ 8 (by kernel_rfl) (by kernel_rfl) (by kernel_rfl) (by kernel_rfl)) ?_
  intro W base args ds gs before hval0 hW hcnd _
  have hval : ∀ (j : Nat) t v, Try.f3.params[j]? = some t → args[j]? = some v → Value.okWide Try.prog W .any base t v := hval0
  have hW' := hW
  obtain ⟨p, q, hA0, hV, rfl, hfz, hnd⟩ := hW
  have hA : DataW.TrodAll enc Try.prog W 0 (fun _ => true) true Try.f3.params.toList args.toList ds p := hA0
  rw [Try.params3] at hA hval
  obtain ⟨v0, vs0, d0, ds0, p0, q0, hargs, rfl, rfl, h0, r0⟩ := trodAll_cons hA
  obtain ⟨rfl, rfl, rfl⟩ := trodAll_nil r0
  obtain rfl : args = #[v0] := by cases args; simp_all
  obtain ⟨rfl, rfl⟩ := trodVars_none hV
  obtain ⟨a0, rfl, rfl, rfl, w0⟩ := open_string Try.underlying9 (hval 0 9 v0 rfl rfl) h0
  clear hA0 hval0
  refine (ruleNames_walk a0 w0 W).mono fun e W' ⟨he, bel⟩ => ?_
  subst he
  exact ⟨_, rfl, _, _, _, [], _, [], hW', trodAll_mk1 (shut_bool Try.underlying4 _), (trodAll_cons_mk (shut_string Try.underlying9 w0) trodAll_mk0), rfl, bel.frame _, fun h => by cases h⟩

theorem ruleNames_over : Rows.ruleNamesRow.holds Try.pinned (OpenSpec.ofChange Rows.ruleNamesSpec) :=
  OpenClaim.holds_of_wide 3 Try.f3 rfl rfl rfl rfl rfl rfl rfl ⟨rfl, rfl, rfl, rfl, rfl⟩ rfl rfl rfl rfl rfl (by kernel_rfl) Try.func3 (by kernel_rfl)
    (of_decide_eq_true (by kernel_rfl)) (by unfold Func.isWrapper; rw [if_neg (by decide +kernel)]; exact ⟨rfl, rfl⟩)
    (fun os started H enc _ => ruleNames_lifted os started H enc)

/-- THE STATEMENT. -/
theorem ruleNames_proved : Rows.RuleNamesSaid := ruleNames_over
end Go.Proofs.Ytbdpfoidhffalab
