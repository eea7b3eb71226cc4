/-
  For every text, cut to 30 bytes, and every byte: a question mark stands for just one byte (Rows.MatchOneSaid); no condition.
-/
import Derived.Test.YtaolohlpdampgabRows
import Derived.Test.YtaolohlpdampgabMatch
import Derived.Test.YtaolohlpdampgabMasked
import Derived.WalkKit
import Derived.Deep.DeepCutAuto
import Derived.Deep.RegionWith
import Derived.ProofKit
import Derived.OpenShut
import Derived.ShutString
import Derived.ChangeOld
namespace Go.Proofs.Ytaolohlpdampgab
open Go.ChangeShapes Go.WideShapes Go.ChangeAt Go.RowKit
open Go.ChangeMaps (open_string shut_string)
set_option linter.unusedVariables false


theorem one_byte_at (c : UInt8) {u : World} {B : Nat} (h : u.cell? ⟨B, 0, none⟩ = some (.int .u8 c.toNat)) : (convert 27 9 (.slice (some ⟨B, 0, none⟩) 1 1)).run Try.prog u = .ok (.string ⟨#[c]⟩) u := by
  have := run_convert_bytes_back (P := Try.prog) u 27 9 5 ⟨B, 0, none⟩ 1 [c] Try.underlying27 Try.underlying5 Try.underlying9 (fun j hj => by
    have hj0 : j = 0 := by simpa using hj
    subst hj0
    simpa [Addr.add] using h)
  exact this

set_option maxHeartbeats 1000000 in
theorem matchOne_walk (a0 : ByteArray) (w0 : a0.size ≤ maxLen) (a1 : Int) (w1 : (Lit.int .u8 a1).wf = true) (w : World) :
    Calls Try.prog 4 #[.string a0, .int .u8 a1] w fun e w' => e = .returned (.bool true) ∧ Below w.heap.size w w' := by
  obtain ⟨c, rfl⟩ := byte_of w1
  have z0 := cutB_size a0 30
  have HC0 : Hid _ := fun u => cut_any a0 30 u w0 (by omega)
  have y0 : (cutB a0 30).size ≤ 30 := by omega
  generalize cutB a0 30 = t at *
  clear z0
  have mt := maskB_size t
  have HK : Hid _ := fun u => masked_any t u (by omega)
  have s1 : (ByteArray.mk #[63]).size = 1 := rfl
  have s2 : (ByteArray.mk #[c]).size = 1 := rfl
  have l1 : lowL (ByteArray.mk #[63]).data.toList = [63] := by decide
  have HM1 : Hid _ := match3 (t ++ ⟨#[c]⟩) (maskB t ++ ⟨#[63]⟩) true (by rw [ByteArray.size_append]; omega) (by rw [ByteArray.size_append]; omega)
    (by rw [lowB_append, lowB_append, l1, lowB_one, ← low_list (maskB t), lowB_mask]; exact glob_mask_one _ _)
  have HM2 : Hid _ := match3 t (maskB t ++ ⟨#[63]⟩) false (by omega) (by rw [ByteArray.size_append]; omega)
    (by rw [lowB_append, l1, low_list, ← low_list (maskB t), lowB_mask]; exact glob_mask_one_no _)
  have HM3 : Hid _ := fun u => match_kind 0 t t u (by omega)
  have hcv : ∀ (u : World) (B : Nat), u.cell? ⟨B, 0, none⟩ = some (.int .u8 c.toNat) → (convert 27 9 (.slice (some ⟨B, 0, none⟩) 1 1)).run Try.prog u = .ok (.string ⟨#[c]⟩) u := fun u B h => one_byte_at c h
  clear s1 s2 l1
  go_enter Try.func4, Try.ntmps4
  go_wp2_with fail
  refine (HC0.out _).mono ?_
  rintro e u1 ⟨rfl, rfl⟩
  go_wp2_with fail
  go_cut [6, 7] (fun x y wx => x = .bool true ∧ y = .int .i64 0 ∧ Below u1.heap.size u1 wx)
  case first =>
    go_region_with (first | (go_at_call 8; refine (HK.out _).mono ?_; rintro e w' ⟨rfl, hb'⟩; obtain ⟨hcx, hfx⟩ := bcell hb') | (go_at_call 7; refine (HM1.out _).mono ?_; rintro e w'' ⟨rfl, hb''⟩))
    all_goals
      go_wp2_with fail
      go_meet
      refine ⟨rfl, rfl, ?_⟩
      refine Below.next ?_ (by assumption) (Nat.le_refl _)
      first
      | exact Below.next (Below.drew (Below.more (Below.refl _ _) (Nat.le_refl _) _)) hb' (Nat.le_refl _)
      | exact Below.more (Below.next (Below.drew (Below.refl _ _)) hb' (Nat.le_refl _)) (Nat.le_refl _) _
  case rest =>
    obtain ⟨rfl, rfl, hB⟩ := hcut
    clear hcv
    go_wp2_with fail
    refine (HK.out _).mono ?_
    rintro e u4 ⟨rfl, k4⟩
    replace hB := Below.next hB k4 (Nat.le_refl _)
    clear k4
    go_wp2_with fail
    refine (HM2.out _).mono ?_
    rintro e u5 ⟨rfl, k5⟩
    replace hB := Below.next hB k5 (Nat.le_refl _)
    clear k5
    go_wp2_with fail
    refine (HM3.out _).mono ?_
    rintro e u6 ⟨rfl, k6⟩
    replace hB := Below.next hB k6 (Nat.le_refl _)
    clear k6
    go_wp2
    go_ret
    exact ⟨rfl, hB⟩

set_option maxRecDepth 100000 in
theorem matchOne_lifted (os : Os) (started : os.Started) (H : Type) (enc : TypeId × Value → H) :
    ReturnsInHanded {} Try.checked os 4 .any (Rows.matchOneSpec.pre6 enc Try.prog Try.f4 Rows.matchOneRow.domain false) (Rows.matchOneSpec.post enc Try.prog Try.f4 false true false false) := by
  refine returnsInHanded_of_change (C := Try.checked) (by kernel_rfl) started (by kernel_rfl) Try.func4
    (ChangeSpec.witness6 (enc := enc) (C := Try.checked) false ⟨#[], #[.string ByteArray.empty, .int .u8 0], []⟩ 8 (by kernel_rfl) (by kernel_rfl) (by kernel_rfl) (by kernel_rfl)) ?_
  intro W base args ds gs before hval0 hW hcnd _
  have hval : ∀ (j : Nat) t v, Try.f4.params[j]? = some t → args[j]? = some v → Value.okWide Try.prog W .any base t v := hval0
  have hW' := hW
  obtain ⟨p, q, hA0, hV, rfl, hfz, hnd⟩ := hW
  have hA : DataW.TrodAll enc Try.prog W 0 (fun _ => true) true Try.f4.params.toList args.toList ds p := hA0
  rw [Try.params4] at hA hval
  obtain ⟨v0, vs0, d0, ds0, p0, q0, hargs, rfl, rfl, h0, r0⟩ := trodAll_cons hA
  obtain ⟨v1, vs1, d1, ds1, p1, q1, rfl, rfl, rfl, h1, r1⟩ := trodAll_cons r0
  obtain ⟨rfl, rfl, rfl⟩ := trodAll_nil r1
  obtain rfl : args = #[v0, v1] := by cases args; simp_all
  obtain ⟨rfl, rfl⟩ := trodVars_none hV
  obtain ⟨a0, rfl, rfl, rfl, w0⟩ := open_string Try.underlying9 (hval 0 9 v0 rfl rfl) h0
  obtain ⟨a1, rfl, rfl, rfl, w1⟩ := open_int Try.underlying5 (hval 1 5 v1 rfl rfl) h1
  clear hA0 hval0
  refine (matchOne_walk a0 w0 a1 w1 W).mono fun e W' ⟨he, bel⟩ => ?_
  subst he
  exact ⟨_, rfl, _, _, _, [], _, [], hW', trodAll_mk1 (shut_bool Try.underlying4 _), (trodAll_cons_mk (shut_string Try.underlying9 w0) (trodAll_cons_mk (shut_int Try.underlying5 w1) trodAll_mk0)), rfl, bel.frame _, fun h => by cases h⟩

theorem matchOne_over : Rows.matchOneRow.holds Try.pinned (OpenSpec.ofChange Rows.matchOneSpec) :=
  OpenClaim.holds_of_wide 4 Try.f4 rfl rfl rfl rfl rfl rfl rfl ⟨rfl, rfl, rfl, rfl, rfl⟩ rfl rfl rfl rfl rfl (by kernel_rfl) Try.func4 (by kernel_rfl)
    (of_decide_eq_true (by kernel_rfl)) (by unfold Func.isWrapper; rw [if_neg (by decide +kernel)]; exact ⟨rfl, rfl⟩)
    (fun os started H enc _ => matchOne_lifted os started H enc)

/-- THE STATEMENT. -/
theorem matchOne_proved : Rows.MatchOneSaid := matchOne_over
end Go.Proofs.Ytaolohlpdampgab
