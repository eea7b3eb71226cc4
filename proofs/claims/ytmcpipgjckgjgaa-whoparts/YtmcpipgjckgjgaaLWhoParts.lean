/-
  Proved: for every kind and every address, who.Part answers what the document's P3.3 says (no condition but the form's own: each text has at most 2^47 - 4096 bytes).
-/
import Derived.Test.YtmcpipgjckgjgaaRefPart
import Derived.Test.YtmcpipgjckgjgaaWhoOpen
namespace Go.Proofs.Ytmcpipgjckgjgaa
open Go.ChangeShapes Go.WideShapes Go.ChangeAt Go.RowKit

set_option maxHeartbeats 2000000 in
theorem whoParts_walk (k : Int) (_ : (Lit.int .i64 k).wf = true) (l d : ByteArray) (hl : l.size ≤ 140737488355328) (hd : d.size ≤ 140737488355328) (w : World) :
    Calls Try.prog 4 #[.int .i64 k, .agg #[.string l, .string d]] w fun e w' => e = .returned (.bool true) ∧ Below w.heap.size w w' := by
  have HL : Hid _ := hl
  have HD : Hid _ := hd
  clear hl hd
  have hN : Below w.heap.size w (w.alloc (.cells #[.string l, .string d] 23)) := (Below.refl _ _).alloc (Nat.le_refl _) _
  have HN : Hid _ := hN
  have hc0 : ∀ u, Below (w.heap.size + 1) (w.alloc (.cells #[.string l, .string d] 23)) u → u.cell? ⟨w.heap.size, 0, none⟩ = some (.string l) := fun u hb => (hb.cell (by simp)).trans (by simp)
  have hc1 : ∀ u, Below (w.heap.size + 1) (w.alloc (.cells #[.string l, .string d] 23)) u → u.cell? ⟨w.heap.size, 1, none⟩ = some (.string d) := fun u hb => (hb.cell (by simp)).trans (by simp)
  clear hN
  obtain ⟨x, hx⟩ : ∃ x, x = S (partM k l.data.toList d.data.toList).1 := ⟨_, rfl⟩
  obtain ⟨y, hy⟩ : ∃ y, y = (partM k l.data.toList d.data.toList).2 := ⟨_, rfl⟩
  have HX : Hid _ := hx
  have HY : Hid _ := hy
  clear hx hy
  go_enter Try.func4, Try.ntmps4
  go_wp2_with fail
  refine (part_any k l d _ HL.out HD.out).mono ?_
  rintro e u ⟨rfl, hb⟩
  have c0 := hc0 u (by simpa using hb)
  have c1 := hc1 u (by simpa using hb)
  clear hc0 hc1
  rw [← HX.out, ← HY.out]
  go_wp2_with fail
  refine (partOf_any k l d _ HL.out HD.out).mono ?_
  rintro e u2 ⟨rfl, hb2⟩
  rw [← HX.out, ← HY.out]
  go_wp2
  go_ret
  exact ⟨ret_bool (by simp), wnext (wnext HN.out hb (Nat.le_refl _)) hb2 (Nat.le_refl _)⟩

theorem whoParts_lifted (os : Os) (started : os.Started) (H : Type) (enc : TypeId × Value → H) :
    ReturnsInHanded {} Try.checked os 4 .any (Rows.whoPartsSpec.pre6 enc Try.prog Try.f4 Rows.whoPartsRow.domain false) (Rows.whoPartsSpec.post enc Try.prog Try.f4 false true false false) := by
  refine returnsInHanded_of_change_sized (C := Try.checked) (by kernel_rfl) started (by kernel_rfl) Try.func4
    (ChangeSpec.witness6 (enc := enc) (C := Try.checked) false ⟨#[], #[.int .i64 0, .agg #[.string ByteArray.empty, .string ByteArray.empty]], []⟩ 8 (by kernel_rfl) (by kernel_rfl) (by kernel_rfl) (by kernel_rfl)) ?_
  intro W base args ds gs before hval0 hW hcnd hsz _
  have hval : ∀ (j : Nat) t v, Try.f4.params[j]? = some t → args[j]? = some v → Value.okWide Try.prog W .any base t v := hval0
  have hW' := hW
  obtain ⟨p, q, hA0, hV, rfl, hfz, hnd⟩ := hW
  have hA : DataW.TrodAll enc Try.prog W 0 (fun _ => true) true Try.f4.params.toList args.toList ds p := hA0
  rw [Try.params4] at hA hval
  obtain ⟨v0, vs0, d0, ds0, p0, q0, hargs, rfl, rfl, h0, r0⟩ := trodAll_cons hA
  obtain ⟨v1, vs1, d1, ds1, p1, q1, rfl, rfl, rfl, h1, r1⟩ := trodAll_cons r0
  obtain ⟨rfl, rfl, rfl⟩ := trodAll_nil r1
  obtain rfl : args = #[v0, v1] := by cases args; simp_all
  obtain ⟨rfl, rfl⟩ := trodVars_none hV
  obtain ⟨a0, rfl, rfl, rfl, w0⟩ := open_int Try.underlying3 (hval 0 3 v0 rfl rfl) h0
  have k1 := h1
  have lt1 : ∀ x ∈ p1, x.block < W.heap.size := by obtain ⟨m, hm⟩ := k1; exact DataW.trod_lt m _ _ _ hm
  obtain ⟨l1, e1, rfl, hd1, wl1, we1⟩ := open_address (hval 1 23 v1 rfl rfl) h1
  have z1 := sized_address hsz (j := 1) rfl (congrArg some hd1)
  clear hA0 hval0
  refine (whoParts_walk a0 w0 l1 e1 z1.1 z1.2 W).mono fun e W' ⟨he, bel⟩ => ?_
  subst he
  exact ⟨_, rfl, _, _, _, [], _, [], hW', trodAll_mk1 (shut_bool Try.underlying4 _), (trodAll_cons_mk (shut_int Try.underlying3 w0) (trodAll_cons_mk (Below.trod laidOut (by kernel_rfl) (of_decide_eq_true (by kernel_rfl)) k1 bel lt1) trodAll_mk0)), rfl, bel.frame _, fun h => by cases h⟩

theorem whoParts_over : Rows.whoPartsRow.holds Try.pinned (OpenSpec.ofChange Rows.whoPartsSpec) :=
  OpenClaim.holds_of_wide 4 Try.f4 rfl rfl rfl rfl rfl rfl rfl ⟨rfl, rfl, rfl, rfl, rfl⟩ rfl rfl rfl rfl rfl (by kernel_rfl) Try.func4 (by kernel_rfl)
    (of_decide_eq_true (by kernel_rfl)) (by unfold Func.isWrapper; rw [if_neg (by decide +kernel)]; exact ⟨rfl, rfl⟩)
    (fun os started H enc _ => whoParts_lifted os started H enc)

/-- THE STATEMENT. -/
theorem whoParts_proved : Rows.WhoPartsSaid := whoParts_over
end Go.Proofs.Ytmcpipgjckgjgaa
