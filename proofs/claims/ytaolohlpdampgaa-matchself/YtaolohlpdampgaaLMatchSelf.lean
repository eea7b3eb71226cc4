/-
  For every text, cut to 45 bytes, and every byte: the text matches itself with each byte behind a backslash, and no longer one does (Rows.MatchSelfSaid); no condition.
-/
import Derived.Test.YtaolohlpdampgaaRows
import Derived.Test.YtaolohlpdampgaaMatch
import Derived.Test.YtaolohlpdampgaaMasked
import Derived.WalkKit
import Derived.ProofKit
import Derived.OpenShut
import Derived.ShutString
import Derived.ChangeOld
namespace Go.Proofs.Ytaolohlpdampgaa
open Go.ChangeShapes Go.WideShapes Go.ChangeAt Go.RowKit
open Go.ChangeMaps (open_string shut_string)
set_option linter.unusedVariables false

set_option maxHeartbeats 400000 in
theorem matchSelf_walk (a0 : ByteArray) (w0 : a0.size ≤ maxLen) (a1 : Int) (w1 : (Lit.int .u8 a1).wf = true) (w : World) :
    Calls Try.prog 6 #[.string a0, .int .u8 a1] w fun e w' => e = .returned (.bool true) ∧ Below w.heap.size w w' := by
  obtain ⟨c, rfl⟩ := byte_of w1
  have hsz := cutB_size a0 45
  have hle : (cutB a0 45).size ≤ 45 := by omega
  have HC : Hid _ := fun u => cut_any a0 45 u w0 (by omega)
  generalize cutB a0 45 = t at *
  clear hsz
  have hml := maskB_size t
  have HK : Hid _ := fun u => masked_any t u (by omega)
  have HM1 : Hid _ := fun u => match_matches t (maskB t) u (by omega) (by omega)
  have HM2 : Hid _ := fun u => match_matches (t ++ ⟨#[c]⟩) (maskB t) u (by rw [ByteArray.size_append]; show t.size + 1 ≤ 2000; omega) (by omega)
  have e1 : globB (low t).data.toList (low (maskB t)).data.toList = true := by rw [lowB_mask, low_list]; exact glob_mask _
  have e2 : globB (low (t ++ ⟨#[c]⟩)).data.toList (low (maskB t)).data.toList = false := by rw [lowB_append, lowB_mask, lowB_one]; exact glob_mask_more _ _
  rw [e1] at HM1
  rw [e2] at HM2
  clear e1 e2
  have hcv := one_byte c
  go_enter Try.func6, Try.ntmps6
  go_wp2_with fail
  refine (HC.out _).mono ?_
  rintro e w1 ⟨rfl, rfl⟩
  go_wp2_with fail
  refine (HK.out _).mono ?_
  rintro e w2 ⟨rfl, hb1⟩
  go_wp2_with fail
  refine (HM1.out _).mono ?_
  rintro e w3 ⟨rfl, hb2⟩
  have h12 := hb1.trans (hb2.mono hb1.size)
  have h3 := h12.alloc h12.size (.cells #[.int .u8 c.toNat] 5)
  go_wp2_with fail
  refine (HM2.out _).mono ?_
  rintro e w4 ⟨rfl, hb3⟩
  have h4 := h3.trans (hb3.mono h3.size)
  go_wp2
  go_ret
  exact ⟨rfl, h4⟩

set_option maxRecDepth 100000 in
theorem matchSelf_lifted (os : Os) (started : os.Started) (H : Type) (enc : TypeId × Value → H) :
    ReturnsInHanded {} Try.checked os 6 .any (Rows.matchSelfSpec.pre6 enc Try.prog Try.f6 Rows.matchSelfRow.domain false) (Rows.matchSelfSpec.post enc Try.prog Try.f6 false true false false) := by
  refine returnsInHanded_of_change (C := Try.checked) (by kernel_rfl) started (by kernel_rfl) Try.func6
    (ChangeSpec.witness6 (enc := enc) (C := Try.checked) false ⟨#[], #[.string ByteArray.empty, .int .u8 0], []⟩ 8 (by kernel_rfl) (by kernel_rfl) (by kernel_rfl) (by kernel_rfl)) ?_
  intro W base args ds gs before hval0 hW hcnd _
  have hval : ∀ (j : Nat) t v, Try.f6.params[j]? = some t → args[j]? = some v → Value.okWide Try.prog W .any base t v := hval0
  have hW' := hW
  obtain ⟨p, q, hA0, hV, rfl, hfz, hnd⟩ := hW
  have hA : DataW.TrodAll enc Try.prog W 0 (fun _ => true) true Try.f6.params.toList args.toList ds p := hA0
  rw [Try.params6] at hA hval
  obtain ⟨v0, vs0, d0, ds0, p0, q0, hargs, rfl, rfl, h0, r0⟩ := trodAll_cons hA
  obtain ⟨v1, vs1, d1, ds1, p1, q1, rfl, rfl, rfl, h1, r1⟩ := trodAll_cons r0
  obtain ⟨rfl, rfl, rfl⟩ := trodAll_nil r1
  obtain rfl : args = #[v0, v1] := by cases args; simp_all
  obtain ⟨rfl, rfl⟩ := trodVars_none hV
  obtain ⟨a0, rfl, rfl, rfl, w0⟩ := open_string Try.underlying9 (hval 0 9 v0 rfl rfl) h0
  obtain ⟨a1, rfl, rfl, rfl, w1⟩ := open_int Try.underlying5 (hval 1 5 v1 rfl rfl) h1
  clear hA0 hval0
  refine (matchSelf_walk a0 w0 a1 w1 W).mono fun e W' ⟨he, bel⟩ => ?_
  subst he
  exact ⟨_, rfl, _, _, _, [], _, [], hW', trodAll_mk1 (shut_bool Try.underlying4 _), (trodAll_cons_mk (shut_string Try.underlying9 w0) (trodAll_cons_mk (shut_int Try.underlying5 w1) trodAll_mk0)), rfl, bel.frame _, fun h => by cases h⟩

theorem matchSelf_over : Rows.matchSelfRow.holds Try.pinned (OpenSpec.ofChange Rows.matchSelfSpec) :=
  OpenClaim.holds_of_wide 6 Try.f6 rfl rfl rfl rfl rfl rfl rfl ⟨rfl, rfl, rfl, rfl, rfl⟩ rfl rfl rfl rfl rfl (by kernel_rfl) Try.func6 (by kernel_rfl)
    (of_decide_eq_true (by kernel_rfl)) (by unfold Func.isWrapper; rw [if_neg (by decide +kernel)]; exact ⟨rfl, rfl⟩)
    (fun os started H enc _ => matchSelf_lifted os started H enc)

/-- THE STATEMENT. -/
theorem matchSelf_proved : Rows.MatchSelfSaid := matchSelf_over
end Go.Proofs.Ytaolohlpdampgaa
