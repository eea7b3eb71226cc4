/-
  Proved: for every address, who.Check answers what the document's P3.2 says (no condition but the form's own: each text has at most 2^47 - 4096 bytes).
-/
import Derived.Test.YtmcpipgjckgjgaaRefWho
import Derived.Test.YtmcpipgjckgjgaaWhoOpen
namespace Go.Proofs.Ytmcpipgjckgjgaa
open Go.ChangeShapes Go.WideShapes Go.ChangeAt Go.RowKit

set_option maxHeartbeats 2000000 in
theorem whoChecks_walk (l d : ByteArray) (hl : l.size ≤ 140737488355328) (hd : d.size ≤ 140737488355328) (w : World) :
    Calls Try.prog 3 #[.agg #[.string l, .string d]] w fun e w' => e = .returned (.bool true) ∧ Below w.heap.size w w' := by
  have HL : Hid _ := hl
  have HD : Hid _ := hd
  clear hl hd
  have hN : Below w.heap.size w (w.alloc (.cells #[.string l, .string d] 23)) := (Below.refl _ _).alloc (Nat.le_refl _) _
  have HN : Hid _ := hN
  have hc0 : ∀ u, Below (w.heap.size + 1) (w.alloc (.cells #[.string l, .string d] 23)) u → u.cell? ⟨w.heap.size, 0, none⟩ = some (.string l) := fun u hb => (hb.cell (by simp)).trans (by simp)
  have hc1 : ∀ u, Below (w.heap.size + 1) (w.alloc (.cells #[.string l, .string d] 23)) u → u.cell? ⟨w.heap.size, 1, none⟩ = some (.string d) := fun u hb => (hb.cell (by simp)).trans (by simp)
  clear hN
  go_enter Try.func3, Try.ntmps3
  go_wp2_with fail
  refine (check_any l d _ HL.out HD.out).mono ?_
  rintro e u ⟨rfl, hb⟩
  have c0 := hc0 u (by simpa using hb)
  have c1 := hc1 u (by simpa using hb)
  clear hc0 hc1
  obtain ⟨x, hx⟩ : ∃ x, x = checkA l.data.toList d.data.toList := ⟨_, rfl⟩
  rw [← hx]
  have HX : Hid _ := hx
  clear hx
  go_wp2_with fail
  refine (addressFault_any l d _ HL.out HD.out).mono ?_
  rintro e u2 ⟨rfl, hb2⟩
  rw [← HX.out]
  go_wp2
  go_ret
  exact ⟨ret_bool (by simp), wnext (wnext HN.out hb (Nat.le_refl _)) hb2 (Nat.le_refl _)⟩

theorem whoChecks_lifted (os : Os) (started : os.Started) (H : Type) (enc : TypeId × Value → H) :
    ReturnsInHanded {} Try.checked os 3 .any (Rows.whoChecksSpec.pre6 enc Try.prog Try.f3 Rows.whoChecksRow.domain false) (Rows.whoChecksSpec.post enc Try.prog Try.f3 false true false false) := by
  refine returnsInHanded_of_change_sized (C := Try.checked) (by kernel_rfl) started (by kernel_rfl) Try.func3
    (ChangeSpec.witness6 (enc := enc) (C := Try.checked) false ⟨#[], #[.agg #[.string ByteArray.empty, .string ByteArray.empty]], []⟩ 8 (by kernel_rfl) (by kernel_rfl) (by kernel_rfl) (by kernel_rfl)) ?_
  intro W base args ds gs before hval0 hW hcnd hsz _
  have hval : ∀ (j : Nat) t v, Try.f3.params[j]? = some t → args[j]? = some v → Value.okWide Try.prog W .any base t v := hval0
  have hW' := hW
  obtain ⟨p, q, hA0, hV, rfl, hfz, hnd⟩ := hW
  have hA : DataW.TrodAll enc Try.prog W 0 (fun _ => true) true Try.f3.params.toList args.toList ds p := hA0
  rw [Try.params3] at hA hval
  obtain ⟨v0, vs0, d0, ds0, p0, q0, hargs, rfl, rfl, h0, r0⟩ := trodAll_cons hA
  obtain ⟨rfl, rfl, rfl⟩ := trodAll_nil r0
  obtain rfl : args = #[v0] := by cases args; simp_all
  obtain ⟨rfl, rfl⟩ := trodVars_none hV
  have k0 := h0
  have lt0 : ∀ x ∈ p0, x.block < W.heap.size := by obtain ⟨m, hm⟩ := k0; exact DataW.trod_lt m _ _ _ hm
  obtain ⟨l0, e0, rfl, hd0, wl0, we0⟩ := open_address (hval 0 23 v0 rfl rfl) h0
  have z0 := sized_address hsz (j := 0) rfl (congrArg some hd0)
  clear hA0 hval0
  refine (whoChecks_walk l0 e0 z0.1 z0.2 W).mono fun e W' ⟨he, bel⟩ => ?_
  subst he
  exact ⟨_, rfl, _, _, _, [], _, [], hW', trodAll_mk1 (shut_bool Try.underlying4 _), (trodAll_cons_mk (Below.trod laidOut (by kernel_rfl) (of_decide_eq_true (by kernel_rfl)) k0 bel lt0) trodAll_mk0), rfl, bel.frame _, fun h => by cases h⟩

theorem whoChecks_over : Rows.whoChecksRow.holds Try.pinned (OpenSpec.ofChange Rows.whoChecksSpec) :=
  OpenClaim.holds_of_wide 3 Try.f3 rfl rfl rfl rfl rfl rfl rfl ⟨rfl, rfl, rfl, rfl, rfl⟩ rfl rfl rfl rfl rfl (by kernel_rfl) Try.func3 (by kernel_rfl)
    (of_decide_eq_true (by kernel_rfl)) (by unfold Func.isWrapper; rw [if_neg (by decide +kernel)]; exact ⟨rfl, rfl⟩)
    (fun os started H enc _ => whoChecks_lifted os started H enc)

/-- THE STATEMENT. -/
theorem whoChecks_proved : Rows.WhoChecksSaid := whoChecks_over
end Go.Proofs.Ytmcpipgjckgjgaa
