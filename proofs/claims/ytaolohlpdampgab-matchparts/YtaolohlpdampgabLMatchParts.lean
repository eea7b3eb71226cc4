/-
  For all texts and patterns, each cut to 40 bytes, the first pattern without backslashes at its end: two matches, one behind the other, are one (Rows.MatchPartsSaid); no condition.
-/
import Derived.Test.YtaolohlpdampgabRows
import Derived.Test.YtaolohlpdampgabMatch
import Derived.Test.YtaolohlpdampgabMasked
import Derived.WalkKit
import Derived.ProofKit
import Derived.OpenShut
import Derived.ShutString
import Derived.ChangeOld
namespace Go.Proofs.Ytaolohlpdampgab
open Go.ChangeShapes Go.WideShapes Go.ChangeAt Go.RowKit
open Go.ChangeMaps (open_string shut_string)
set_option linter.unusedVariables false


def strSize : Value → Nat
  | .string s => s.size
  | _ => 0
theorem low1_92 (c : UInt8) (h : low1 c = 92) : c = 92 := by
  by_cases hc : 65 ≤ (c.toNat : Int) ∧ (c.toNat : Int) ≤ 90
  · have := low1_yes hc
    rw [h] at this
    have e : (92 : UInt8).toNat = 92 := rfl
    omega
  · rw [low1_no hc] at h
    exact h
/-- No backslash stands last, in great or small letters. -/
def NoLast (x : ByteArray) : Prop := (lowL x.data.toList).getLast? ≠ some 92
theorem noLast_empty {x : ByteArray} (h : x.size = 0) : NoLast x := by
  have : x.data.toList = [] := List.length_eq_zero_iff.1 (by rw [size_list]; exact h)
  simp [NoLast, this, lowL]
theorem noLast_byte {x : ByteArray} {k : Nat} (hk : k + 1 = x.size) (h : ((x[k].toNat : Int) == 92) = false) : NoLast x := by
  have hl : x.data.toList.getLast? = some x[k] := by
    rw [List.getLast?_eq_getElem?, size_list, show x.size - 1 = k from by omega]
    exact get_list x k (by omega)
  intro hc
  rw [lowL, List.getLast?_map, hl] at hc
  simp only [Option.map_some, Option.some.injEq] at hc
  exact byte_ne (d := 92) (by omega) h (low1_92 _ hc)

set_option maxHeartbeats 1000000 in
theorem matchParts_walk (a0 : ByteArray) (w0 : a0.size ≤ maxLen) (a1 : ByteArray) (w1 : a1.size ≤ maxLen) (a2 : ByteArray) (w2 : a2.size ≤ maxLen) (a3 : ByteArray) (w3 : a3.size ≤ maxLen) (w : World) :
    Calls Try.prog 3 #[.string a0, .string a1, .string a2, .string a3] w fun e w' => e = .returned (.bool true) ∧ Below w.heap.size w w' := by
  have z0 := cutB_size a0 40
  have z1 := cutB_size a1 40
  have z2 := cutB_size a2 40
  have z3 := cutB_size a3 40
  have HC0 : Hid _ := fun u => cut_any a0 40 u w0 (by omega)
  have HC1 : Hid _ := fun u => cut_any a1 40 u w1 (by omega)
  have HC2 : Hid _ := fun u => cut_any a2 40 u w2 (by omega)
  have HC3 : Hid _ := fun u => cut_any a3 40 u w3 (by omega)
  have y0 : (cutB a0 40).size ≤ 40 := by omega
  have y1 : (cutB a1 40).size ≤ 40 := by omega
  have y2 : (cutB a2 40).size ≤ 40 := by omega
  have y3 : (cutB a3 40).size ≤ 40 := by omega
  generalize cutB a0 40 = a at *
  generalize cutB a1 40 = b at *
  generalize cutB a2 40 = x0 at *
  generalize cutB a3 40 = y at *
  clear z0 z1 z2 z3
  have s1 : (ByteArray.mk #[42]).size = 1 := rfl
  have l1 : lowL (ByteArray.mk #[42]).data.toList = [42] := by decide
  have HM4 : Hid _ := match3 b ⟨#[42]⟩ true (by omega) (by omega) (by rw [low_list ⟨#[42]⟩, l1]; exact glob_star _)
  clear s1 l1
  go_enter Try.func3, Try.ntmps3
  go_wp2_with fail
  refine (HC0.out _).mono ?_
  rintro e u1 ⟨rfl, rfl⟩
  go_wp2_with fail
  refine (HC1.out _).mono ?_
  rintro e u2 ⟨rfl, rfl⟩
  go_wp2_with fail
  refine (HC2.out _).mono ?_
  rintro e u3 ⟨rfl, rfl⟩
  go_wp2_with fail
  refine (HC3.out _).mono ?_
  rintro e u4 ⟨rfl, rfl⟩
  go_wp2_with fail
  go_loop [11] (fun v => ∃ x : ByteArray, v = .string x ∧ x.size ≤ 40) (fun v => strSize v)
  case atStart => exact ⟨x0, rfl, y2⟩
  case round =>
    obtain ⟨x, rfl, hx⟩ := hrel
    by_cases h0 : 0 < x.size
    · have hkx : x.size - 1 < x.size := by omega
      by_cases hb : ((x[x.size - 1].toNat : Int) == 92) = true
      · go_wp2_with fail
        go_round
        case rel => exact ⟨_, rfl, by simp [ByteArray.size_extract]; omega⟩
        case measure => simp [strSize, ByteArray.size_extract]; omega
      · replace hb : ((x[x.size - 1].toNat : Int) == 92) = false := by simpa using hb
        have HNL : Hid _ := noLast_byte (x := x) (k := x.size - 1) (by omega) hb
        have HM1 : Hid _ := match3 a x _ (by omega) (by omega) rfl
        have HM2 : Hid _ := match3 b y _ (by omega) (by omega) rfl
        have HM3 : Hid _ := match3 (a ++ b) (x ++ y) _ (by rw [ByteArray.size_append]; omega) (by rw [ByteArray.size_append]; omega) rfl
        have hpp : globB (low a).data.toList (low x).data.toList = true → globB (low b).data.toList (low y).data.toList = true → globB (low (a ++ b)).data.toList (low (x ++ y)).data.toList = true := by
          intro g1 g2
          rw [lowB_append, lowB_append]
          rw [low_list, low_list] at g1 g2
          exact glob_parts _ _ _ _ HNL.out g1 g2
        generalize globB (low a).data.toList (low x).data.toList = m at *
        generalize globB (low b).data.toList (low y).data.toList = n at *
        generalize globB (low (a ++ b)).data.toList (low (x ++ y)).data.toList = both at *
        have hfin : (!m || !n || both) = true := by cases m <;> cases n <;> simp_all
        have HF : Hid _ := hfin
        clear hpp hfin
        have hB : Below u4.heap.size u4 u4 := Below.refl _ _
        go_wp2_with fail
        refine (HM1.out _).mono ?_
        rintro e u5 ⟨rfl, k5⟩
        replace hB := Below.next hB k5 (Nat.le_refl _)
        clear k5
        go_wp2_with fail
        refine (HM2.out _).mono ?_
        rintro e u6 ⟨rfl, k6⟩
        replace hB := Below.next hB k6 (Nat.le_refl _)
        clear k6
        go_wp2_with fail
        refine (HM3.out _).mono ?_
        rintro e u7 ⟨rfl, k7⟩
        replace hB := Below.next hB k7 (Nat.le_refl _)
        clear k7
        go_wp2_with fail
        refine (HM4.out _).mono ?_
        rintro e u8 ⟨rfl, k8⟩
        replace hB := Below.next hB k8 (Nat.le_refl _)
        clear k8
        have hfin := HF.out
        cases m
        · go_wp2
          go_ret
          exact ⟨rfl, hB⟩
        · cases n
          · go_wp2
            go_ret
            exact ⟨rfl, hB⟩
          · have hbo : both = true := by simpa using hfin
            subst hbo
            go_wp2
            go_ret
            exact ⟨rfl, hB⟩
    · have HNL : Hid _ := noLast_empty (x := x) (by omega)
      have h0' : ¬ (0 : Int) < (x.size : Int) := by omega
      have HM1 : Hid _ := match3 a x _ (by omega) (by omega) rfl
      have HM2 : Hid _ := match3 b y _ (by omega) (by omega) rfl
      have HM3 : Hid _ := match3 (a ++ b) (x ++ y) _ (by rw [ByteArray.size_append]; omega) (by rw [ByteArray.size_append]; omega) rfl
      have hpp : globB (low a).data.toList (low x).data.toList = true → globB (low b).data.toList (low y).data.toList = true → globB (low (a ++ b)).data.toList (low (x ++ y)).data.toList = true := by
        intro g1 g2
        rw [lowB_append, lowB_append]
        rw [low_list, low_list] at g1 g2
        exact glob_parts _ _ _ _ HNL.out g1 g2
      generalize globB (low a).data.toList (low x).data.toList = m at *
      generalize globB (low b).data.toList (low y).data.toList = n at *
      generalize globB (low (a ++ b)).data.toList (low (x ++ y)).data.toList = both at *
      have hfin : (!m || !n || both) = true := by cases m <;> cases n <;> simp_all
      have HF : Hid _ := hfin
      clear hpp hfin
      have hB : Below u4.heap.size u4 u4 := Below.refl _ _
      go_wp2_with fail
      refine (HM1.out _).mono ?_
      rintro e u5 ⟨rfl, k5⟩
      replace hB := Below.next hB k5 (Nat.le_refl _)
      clear k5
      go_wp2_with fail
      refine (HM2.out _).mono ?_
      rintro e u6 ⟨rfl, k6⟩
      replace hB := Below.next hB k6 (Nat.le_refl _)
      clear k6
      go_wp2_with fail
      refine (HM3.out _).mono ?_
      rintro e u7 ⟨rfl, k7⟩
      replace hB := Below.next hB k7 (Nat.le_refl _)
      clear k7
      go_wp2_with fail
      refine (HM4.out _).mono ?_
      rintro e u8 ⟨rfl, k8⟩
      replace hB := Below.next hB k8 (Nat.le_refl _)
      clear k8
      have hfin := HF.out
      cases m
      · go_wp2
        go_ret
        exact ⟨rfl, hB⟩
      · cases n
        · go_wp2
          go_ret
          exact ⟨rfl, hB⟩
        · have hbo : both = true := by simpa using hfin
          subst hbo
          go_wp2
          go_ret
          exact ⟨rfl, hB⟩

set_option maxRecDepth 100000 in
theorem matchParts_lifted (os : Os) (started : os.Started) (H : Type) (enc : TypeId × Value → H) :
    ReturnsInHanded {} Try.checked os 3 .any (Rows.matchPartsSpec.pre6 enc Try.prog Try.f3 Rows.matchPartsRow.domain false) (Rows.matchPartsSpec.post enc Try.prog Try.f3 false true false false) := by
  refine returnsInHanded_of_change (C := Try.checked) (by kernel_rfl) started (by kernel_rfl) Try.func3
    (ChangeSpec.witness6 (enc := enc) (C := Try.checked) false ⟨#[], #[.string ByteArray.empty, .string ByteArray.empty, .string ByteArray.empty, .string ByteArray.empty], []⟩ 8 (by kernel_rfl) (by kernel_rfl) (by kernel_rfl) (by kernel_rfl)) ?_
  intro W base args ds gs before hval0 hW hcnd _
  have hval : ∀ (j : Nat) t v, Try.f3.params[j]? = some t → args[j]? = some v → Value.okWide Try.prog W .any base t v := hval0
  have hW' := hW
  obtain ⟨p, q, hA0, hV, rfl, hfz, hnd⟩ := hW
  have hA : DataW.TrodAll enc Try.prog W 0 (fun _ => true) true Try.f3.params.toList args.toList ds p := hA0
  rw [Try.params3] at hA hval
  obtain ⟨v0, vs0, d0, ds0, p0, q0, hargs, rfl, rfl, h0, r0⟩ := trodAll_cons hA
  obtain ⟨v1, vs1, d1, ds1, p1, q1, rfl, rfl, rfl, h1, r1⟩ := trodAll_cons r0
  obtain ⟨v2, vs2, d2, ds2, p2, q2, rfl, rfl, rfl, h2, r2⟩ := trodAll_cons r1
  obtain ⟨v3, vs3, d3, ds3, p3, q3, rfl, rfl, rfl, h3, r3⟩ := trodAll_cons r2
  obtain ⟨rfl, rfl, rfl⟩ := trodAll_nil r3
  obtain rfl : args = #[v0, v1, v2, v3] := by cases args; simp_all
  obtain ⟨rfl, rfl⟩ := trodVars_none hV
  obtain ⟨a0, rfl, rfl, rfl, w0⟩ := open_string Try.underlying9 (hval 0 9 v0 rfl rfl) h0
  obtain ⟨a1, rfl, rfl, rfl, w1⟩ := open_string Try.underlying9 (hval 1 9 v1 rfl rfl) h1
  obtain ⟨a2, rfl, rfl, rfl, w2⟩ := open_string Try.underlying9 (hval 2 9 v2 rfl rfl) h2
  obtain ⟨a3, rfl, rfl, rfl, w3⟩ := open_string Try.underlying9 (hval 3 9 v3 rfl rfl) h3
  clear hA0 hval0
  refine (matchParts_walk a0 w0 a1 w1 a2 w2 a3 w3 W).mono fun e W' ⟨he, bel⟩ => ?_
  subst he
  exact ⟨_, rfl, _, _, _, [], _, [], hW', trodAll_mk1 (shut_bool Try.underlying4 _), (trodAll_cons_mk (shut_string Try.underlying9 w0) (trodAll_cons_mk (shut_string Try.underlying9 w1) (trodAll_cons_mk (shut_string Try.underlying9 w2) (trodAll_cons_mk (shut_string Try.underlying9 w3) trodAll_mk0)))), rfl, bel.frame _, fun h => by cases h⟩

theorem matchParts_over : Rows.matchPartsRow.holds Try.pinned (OpenSpec.ofChange Rows.matchPartsSpec) :=
  OpenClaim.holds_of_wide 3 Try.f3 rfl rfl rfl rfl rfl rfl rfl ⟨rfl, rfl, rfl, rfl, rfl⟩ rfl rfl rfl rfl rfl (by kernel_rfl) Try.func3 (by kernel_rfl)
    (of_decide_eq_true (by kernel_rfl)) (by unfold Func.isWrapper; rw [if_neg (by decide +kernel)]; exact ⟨rfl, rfl⟩)
    (fun os started H enc _ => matchParts_lifted os started H enc)

/-- THE STATEMENT. -/
theorem matchParts_proved : Rows.MatchPartsSaid := matchParts_over
end Go.Proofs.Ytaolohlpdampgab
