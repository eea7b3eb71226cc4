/-
  Proved: for every act, post.Check answers what the document's P13.1 says (no condition but the form's own).
-/
import Derived.Test.YtmdlfokmcikilaaRefAct
import Derived.Test.YtmdlfokmcikilaaPoOpen
namespace Go.Proofs.Ytmdlfokmcikilaa
open Go.ChangeShapes Go.WideShapes Go.ChangeAt Go.RowKit

set_option maxHeartbeats 2000000 in
set_option maxRecDepth 100000 in
theorem postChecks_walk (k c u p ek eu ef : Int) (d eb eg et : List UInt8) (hd : d.length ≤ maxLen) (w : World) :
    Calls Try.prog 3 #[.agg #[.int .i64 k, .int .i64 c, .int .i64 u, .int .i64 p, .string (S d), .int .i64 ek, .string (S eb), .int .i64 eu, .int .i64 ef, .string (S eg), .string (S et)]] w fun e w' => e = .returned (.bool true) ∧ Below w.heap.size w w' := by
  have hd' : d.length ≤ 9223372036854775807 := hd
  obtain ⟨W1, hW1⟩ : ∃ W1, W1 = w.alloc (.cells #[.int .i64 k, .int .i64 c, .int .i64 u, .int .i64 p, .string (S d), .int .i64 ek, .string (S eb), .int .i64 eu, .int .i64 ef, .string (S eg), .string (S et)] 25) := ⟨_, rfl⟩
  have HWE := hidp hW1
  have HB1 := hidp (show Below w.heap.size w W1 by rw [hW1]; exact (Below.refl _ _).alloc (Nat.le_refl _) _)
  have HX := hidp (show ∀ w', Below W1.heap.size W1 w' → w'.cell? ⟨w.heap.size, 0, none⟩ = some (.int .i64 k) ∧ w'.cell? ⟨w.heap.size, 1, none⟩ = some (.int .i64 c) ∧ w'.cell? ⟨w.heap.size, 2, none⟩ = some (.int .i64 u) ∧ w'.cell? ⟨w.heap.size, 3, none⟩ = some (.int .i64 p) ∧ w'.cell? ⟨w.heap.size, 4, none⟩ = some (.string (S d)) ∧ w'.cell? ⟨w.heap.size, 5, none⟩ = some (.int .i64 ek) ∧ w'.cell? ⟨w.heap.size, 6, none⟩ = some (.string (S eb)) ∧ w'.cell? ⟨w.heap.size, 7, none⟩ = some (.int .i64 eu) ∧ w'.cell? ⟨w.heap.size, 8, none⟩ = some (.int .i64 ef) ∧ w'.cell? ⟨w.heap.size, 9, none⟩ = some (.string (S eg)) ∧ w'.cell? ⟨w.heap.size, 10, none⟩ = some (.string (S et)) from fun w' hb => by
    have hs : w.heap.size < W1.heap.size := by rw [hW1]; simp
    refine ⟨?_, ?_, ?_, ?_, ?_, ?_, ?_, ?_, ?_, ?_, ?_⟩ <;> exact (hb.cell hs).trans (by rw [hW1]; simp))
  have HD := hidp hd'
  clear hW1 hd hd'
  obtain ⟨x0, x1, x2, x3, x4, x5, x6, x7, x8, x9, x10⟩ := HX.out W1 (Below.refl _ _)
  go_enter Try.func3, Try.ntmps3
  go_wp2_with fail
  rw [← HWE.out]
  refine (pcheck_any k c u p ek eu ef d eb eg et HD.out W1).mono ?_
  rintro e w2 ⟨⟨r, rfl, hr⟩, hb2⟩
  have HR := hidp hr
  have HB2 := hidp hb2
  clear hr x0 x1 x2 x3 x4 x5 x6 x7 x8 x9 x10
  obtain ⟨x0, x1, x2, x3, x4, x5, x6, x7, x8, x9, x10⟩ := HX.out w2 hb2
  clear hb2
  go_wp2_with fail
  refine (rfault_any k c u p ek eu ef d eb eg et HD.out w2).mono ?_
  rintro e w3 ⟨⟨r', rfl, hr⟩, hb3⟩
  obtain rfl := actE_one HR.out hr
  have HB3 := hidp hb3
  clear hb3 hr
  go_wp2
  go_ret
  exact ⟨ret_bool (by simp), HB1.out.trans ((HB2.out.trans (HB3.out.mono HB2.out.size)).mono HB1.out.size)⟩

theorem laidOut : laidOutB Try.prog = true := by kernel_rfl
set_option maxRecDepth 100000 in
theorem postChecks_lifted (os : Os) (started : os.Started) (H : Type) (enc : TypeId × Value → H) :
    ReturnsInHanded {} Try.checked os 3 .any (Rows.postChecksSpec.pre6 enc Try.prog Try.f3 Rows.postChecksRow.domain false) (Rows.postChecksSpec.post enc Try.prog Try.f3 false true false false) := by
  refine returnsInHanded_of_change (C := Try.checked) (by kernel_rfl) started (by kernel_rfl) Try.func3
    (ChangeSpec.witness6 (enc := enc) (C := Try.checked) false ⟨#[], #[.agg #[.int .i64 0, .int .i64 0, .int .i64 0, .int .i64 0, .string ByteArray.empty, .int .i64 0, .string ByteArray.empty, .int .i64 0, .int .i64 0, .string ByteArray.empty, .string ByteArray.empty]], []⟩ 8 (by kernel_rfl) (by kernel_rfl) (by kernel_rfl) (by kernel_rfl)) ?_
  intro W base args ds gs before hval0 hW hcnd _
  have hval : ∀ (j : Nat) t v, Try.f3.params[j]? = some t → args[j]? = some v → Value.okWide Try.prog W .any base t v := hval0
  have hW' := hW
  obtain ⟨p, q, hA0, hV, rfl, hfz, hnd⟩ := hW
  have hA : DataW.TrodAll enc Try.prog W 0 (fun _ => true) true Try.f3.params.toList args.toList ds p := hA0
  rw [Try.params3] at hA hval
  obtain ⟨v0, vs0, d0, ds0, p0, q0, hargs, rfl, rfl, h0, r0⟩ := trodAll_cons hA
  obtain ⟨rfl, rfl, rfl⟩ := trodAll_nil r0
  obtain rfl : args = #[v0] := by cases args; simp_all
  obtain ⟨rfl, rfl⟩ := trodVars_none hV
  have k0 := h0
  have lt0 : ∀ x ∈ p0, x.block < W.heap.size := by obtain ⟨m, hm⟩ := k0; exact DataW.trod_lt m _ _ _ hm
  obtain ⟨k0k, c0, u0, q0q, ek0, eu0, ef0, dt0, eb0, eg0, et0, rfl, wl0⟩ := open_act (hval 0 25 v0 rfl rfl) h0
  clear hA0 hval0
  refine (postChecks_walk k0k c0 u0 q0q ek0 eu0 ef0 dt0 eb0 eg0 et0 wl0 W).mono fun e W' ⟨he, bel⟩ => ?_
  subst he
  exact ⟨_, rfl, _, _, _, [], _, [], hW', trodAll_mk1 (shut_bool Try.underlying4 _), (trodAll_cons_mk (Below.trod laidOut (by kernel_rfl) (of_decide_eq_true (by kernel_rfl)) k0 bel lt0) trodAll_mk0), rfl, bel.frame _, fun h => by cases h⟩

theorem postChecks_over : Rows.postChecksRow.holds Try.pinned (OpenSpec.ofChange Rows.postChecksSpec) :=
  OpenClaim.holds_of_wide 3 Try.f3 rfl rfl rfl rfl rfl rfl rfl ⟨rfl, rfl, rfl, rfl, rfl⟩ rfl rfl rfl rfl rfl (by kernel_rfl) Try.func3 (by kernel_rfl)
    (of_decide_eq_true (by kernel_rfl)) (by unfold Func.isWrapper; rw [if_neg (by decide +kernel)]; exact ⟨rfl, rfl⟩)
    (fun os started H enc _ => postChecks_lifted os started H enc)

/-- THE STATEMENT. -/
theorem postChecks_proved : Rows.PostChecksSaid := postChecks_over
end Go.Proofs.Ytmdlfokmcikilaa
