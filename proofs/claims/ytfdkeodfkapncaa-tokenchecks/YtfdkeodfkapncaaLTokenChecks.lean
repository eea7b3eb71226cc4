/-
  Proved: for every token, token.Check answers what the document's P4.6 says (no condition but the form's own).
-/
import Derived.Test.YtfdkeodfkapncaaRefTok
import Derived.Test.YtfdkeodfkapncaaTokOpen
namespace Go.Proofs.Ytfdkeodfkapncaa
open Go.ChangeShapes Go.WideShapes Go.ChangeAt Go.RowKit

theorem laidOut : laidOutB Try.prog = true := by kernel_rfl
set_option maxHeartbeats 2000000 in
theorem tokenChecks_walk (t : Tok) (hs : t.text.length ≤ maxLen) (w : World) :
    Calls Try.prog 4 #[.agg #[.int .i64 t.kind, .string (S t.text), .int .i64 t.num]] w fun e w' => e = .returned (.bool true) ∧ Below w.heap.size w w' := by
  have HS : Hid _ := hs
  clear hs
  obtain ⟨W0, hW0⟩ : ∃ W0, W0 = w.alloc (.cells #[.int .i64 t.kind, .string (S t.text), .int .i64 t.num] 29) := ⟨_, rfl⟩
  have HT : Hid (TokB W0 w.heap.size t) := by unfold Hid; rw [hW0]; exact tokB_new w t
  have HB0 : Hid (Below w.heap.size w W0) := by unfold Hid; rw [hW0]; exact (Below.refl _ _).alloc (Nat.le_refl _) _
  have HW : Hid _ := hW0
  obtain ⟨x, hx⟩ : ∃ x, x = faultT t := ⟨_, rfl⟩
  have HX : Hid _ := hx
  clear hW0 hx
  go_enter Try.func4, Try.ntmps4
  go_wp2_with fail
  rw [← HW.out]
  refine (tcheck_any t _ HS.out).mono ?_
  rintro e u ⟨rfl, hb⟩
  rw [← HX.out]
  have c0 := (TokB.next HT.out hb).c0
  have c1 := (TokB.next HT.out hb).c1
  have c2 := (TokB.next HT.out hb).c2
  go_wp2_with fail
  refine (rfault_any t _ HS.out).mono ?_
  rintro e u2 ⟨rfl, hb2⟩
  rw [← HX.out]
  go_wp2
  go_ret
  exact ⟨ret_bool (by simp), wnext (wnext HB0.out hb (Nat.le_refl _)) hb2 (Nat.le_refl _)⟩

theorem tokenChecks_lifted (os : Os) (started : os.Started) (H : Type) (enc : TypeId × Value → H) :
    ReturnsInHanded {} Try.checked os 4 .any (Rows.tokenChecksSpec.pre6 enc Try.prog Try.f4 Rows.tokenChecksRow.domain false) (Rows.tokenChecksSpec.post enc Try.prog Try.f4 false true false false) := by
  refine returnsInHanded_of_change (C := Try.checked) (by kernel_rfl) started (by kernel_rfl) Try.func4
    (ChangeSpec.witness6 (enc := enc) (C := Try.checked) false ⟨#[], #[.agg #[.int .i64 0, .string ByteArray.empty, .int .i64 0]], []⟩ 8 (by kernel_rfl) (by kernel_rfl) (by kernel_rfl) (by kernel_rfl)) ?_
  intro W base args ds gs before hval0 hW hcnd _
  have hval : ∀ (j : Nat) t v, Try.f4.params[j]? = some t → args[j]? = some v → Value.okWide Try.prog W .any base t v := hval0
  have hW' := hW
  obtain ⟨p, q, hA0, hV, rfl, hfz, hnd⟩ := hW
  have hA : DataW.TrodAll enc Try.prog W 0 (fun _ => true) true Try.f4.params.toList args.toList ds p := hA0
  rw [Try.params4] at hA hval
  obtain ⟨v0, vs0, d0, ds0, p0, q0, hargs, rfl, rfl, h0, r0⟩ := trodAll_cons hA
  obtain ⟨rfl, rfl, rfl⟩ := trodAll_nil r0
  obtain rfl : args = #[v0] := by cases args; simp_all
  obtain ⟨rfl, rfl⟩ := trodVars_none hV
  have k0 := h0
  have lt0 : ∀ x ∈ p0, x.block < W.heap.size := by obtain ⟨m, hm⟩ := k0; exact DataW.trod_lt m _ _ _ hm
  obtain ⟨l0, rfl, wl0⟩ := open_token (hval 0 29 v0 rfl rfl) h0
  clear hA0 hval0
  refine (tokenChecks_walk l0 wl0 W).mono fun e W' ⟨he, bel⟩ => ?_
  subst he
  exact ⟨_, rfl, _, _, _, [], _, [], hW', trodAll_mk1 (shut_bool Try.underlying4 _), (trodAll_cons_mk (Below.trod laidOut (by kernel_rfl) (of_decide_eq_true (by kernel_rfl)) k0 bel lt0) trodAll_mk0), rfl, bel.frame _, fun h => by cases h⟩

theorem tokenChecks_over : Rows.tokenChecksRow.holds Try.pinned (OpenSpec.ofChange Rows.tokenChecksSpec) :=
  OpenClaim.holds_of_wide 4 Try.f4 rfl rfl rfl rfl rfl rfl rfl ⟨rfl, rfl, rfl, rfl, rfl⟩ rfl rfl rfl rfl rfl (by kernel_rfl) Try.func4 (by kernel_rfl)
    (of_decide_eq_true (by kernel_rfl)) (by unfold Func.isWrapper; rw [if_neg (by decide +kernel)]; exact ⟨rfl, rfl⟩)
    (fun os started H enc _ => tokenChecks_lifted os started H enc)

/-- THE STATEMENT. -/
theorem tokenChecks_proved : Rows.TokenChecksSaid := tokenChecks_over
end Go.Proofs.Ytfdkeodfkapncaa
