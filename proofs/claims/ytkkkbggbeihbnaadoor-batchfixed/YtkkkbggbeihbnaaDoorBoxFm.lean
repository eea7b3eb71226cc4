/-
  Whether an entry has its form: the walks.
-/
import Derived.Test.YtkkkbggbeihbnaaDoorBoxBr
import Derived.Test.YtkkkbggbeihbnaaDoorBoxSz
import Derived.Test.YtkkkbggbeihbnaaDoorWhoRd
import Derived.Deep.RegionHeld3
import Derived.Deep.RegionLaw
import Derived.Deep.DeepCutAuto
namespace Go.Proofs.YtkkkbggbeihbnaaDoor
open Go.RowKit Go.Proofs

theorem box6 {w : World} {p : Nat} {v0 v1 v2 v3 v4 v5 : Value} {t : TypeId} (h : w.heap[p]? = some (.cells #[v0, v1, v2, v3, v4, v5] t)) : w.cell? ⟨p, 0, none⟩ = some v0 ∧ w.cell? ⟨p, 1, none⟩ = some v1 ∧ w.cell? ⟨p, 2, none⟩ = some v2 ∧ w.cell? ⟨p, 3, none⟩ = some v3 ∧ w.cell? ⟨p, 4, none⟩ = some v4 ∧ w.cell? ⟨p, 5, none⟩ = some v5 := by
  refine ⟨?_, ?_, ?_, ?_, ?_, ?_⟩ <;> simp [World.cell?, h]
set_option maxHeartbeats 1000000 in
set_option maxRecDepth 100000 in
theorem checkGoal_ok (s : List UInt8) (w : World) (h : goalM s = 0) :
    Calls Tryd.prog 61 #[.string (S s)] w fun e w' => e = .returned (.int .i64 0) ∧ Below w.heap.size w w' := by
  unfold goalM at h
  have hl : s.length ≤ 100 := by
    rcases Nat.lt_or_ge 100 s.length with hl | hl
    · rw [if_pos hl] at h; cases h
    · exact hl
  rw [if_neg (by omega)] at h
  have h2 : (listM s).2 = 0 ∧ (listM s).1.length = 1 := by
    by_cases hc : (listM s).2 = 0 ∧ (listM s).1.length = 1
    · exact hc
    · rw [if_neg hc] at h; cases h
  have c1 : ¬ (100 : Int) < ((S s).size : Int) := by rw [size_S]; omega
  have HC := hid (list_any (S s) w (by rw [size_S]; unfold maxLen; omega))
  rw [list_S] at HC
  have H2 := hid h2
  clear h h2 hl
  go_enter Tryd.func61, Tryd.ntmps61
  go_wp2_with fail
  refine HC.out.mono ?_
  rintro e w1 ⟨a, c, rfl, _, hb⟩
  have HB := hid hb
  clear hb
  rw [H2.out.1, H2.out.2]
  simp only
  go_wp2
  go_ret
  exact ⟨rfl, HB.out⟩
set_option maxHeartbeats 1000000 in
set_option maxRecDepth 100000 in
theorem checkNames_ok (x : Ent) (w : World) (h : Formed x) :
    Calls Tryd.prog 43 #[.agg #[.int .i64 x.kind, .string (S x.box), .int .i64 x.uid, .int .i64 x.flags, .string (S x.goal), .string (S x.text)]] w fun e w' => e = .returned (.int .i64 0) ∧ Below w.heap.size w w' := by
  obtain ⟨W1, hW1⟩ : ∃ W1, W1 = w.alloc (.cells #[.int .i64 x.kind, .string (S x.box), .int .i64 x.uid, .int .i64 x.flags, .string (S x.goal), .string (S x.text)] 70) := ⟨_, rfl⟩
  have HWE := hid hW1
  have HB1 := hid (show Below w.heap.size w W1 by rw [hW1]; exact (Below.refl _ _).alloc (Nat.le_refl _) _)
  have hX : W1.heap[w.heap.size]? = some (.cells #[.int .i64 x.kind, .string (S x.box), .int .i64 x.uid, .int .i64 x.flags, .string (S x.goal), .string (S x.text)] 70) := by rw [hW1]; exact heap_alloc_new w _
  obtain ⟨x0, x1, x2, x3, x4, x5⟩ := box6 hX
  by_cases k6 : x.kind = 6
  · have HG := hid (h.goal k6)
    have c6 : (x.kind == 6) = true := by simp [k6]
    clear h k6 hW1 hX
    go_enter Tryd.func43, Tryd.ntmps43
    go_wp2_with fail
    rw [← HWE.out]
    refine (checkGoal_ok x.goal W1 HG.out).mono ?_
    rintro e w2 ⟨rfl, hb⟩
    have HB2 := hid (HB1.out.trans (hb.mono HB1.out.size))
    clear hb
    go_wp2
    go_ret
    exact ⟨rfl, HB2.out⟩
  · have HN := hid (show nameP (S x.box).data.toList = 0 by rw [list_S]; exact h.name k6)
    have c6 : (x.kind == 6) = false := by simp [k6]
    by_cases k5 : x.kind = 5
    · have HT := hid (show nameP (S x.goal).data.toList = 0 by rw [list_S]; exact h.to k5)
      have c5 : (x.kind == 5) = true := by simp [k5]
      clear h k6 k5 hW1 hX
      go_enter Tryd.func43, Tryd.ntmps43
      go_wp2_with fail
      rw [← HWE.out]
      refine (rname_any (S x.box) W1).mono ?_
      rintro e u ⟨rfl, hu⟩
      have hu' := hu.symm
      subst hu'
      rw [HN.out]
      clear hu
      go_wp2_with fail
      refine (rname_any (S x.goal) W1).mono ?_
      rintro e u ⟨rfl, hu⟩
      have hu' := hu.symm
      subst hu'
      rw [HT.out]
      clear hu
      go_wp2
      go_ret
      exact ⟨rfl, HB1.out⟩
    · have c5 : (x.kind == 5) = false := by simp [k5]
      clear h k6 k5 hW1 hX
      go_enter Tryd.func43, Tryd.ntmps43
      go_wp2_with fail
      rw [← HWE.out]
      refine (rname_any (S x.box) W1).mono ?_
      rintro e u ⟨rfl, hu⟩
      have hu' := hu.symm
      subst hu'
      rw [HN.out]
      clear hu
      go_wp2
      go_ret
      exact ⟨rfl, HB1.out⟩
set_option maxHeartbeats 1000000 in
set_option maxRecDepth 100000 in
theorem form_ok (x : Ent) (w : World) (h : Formed x) :
    Calls Tryd.prog 28 #[.agg #[.int .i64 x.kind, .string (S x.box), .int .i64 x.uid, .int .i64 x.flags, .string (S x.goal), .string (S x.text)]] w fun e w' => e = .returned (.int .i64 0) ∧ Below w.heap.size w w' := by
  obtain ⟨W1, hW1⟩ : ∃ W1, W1 = w.alloc (.cells #[.int .i64 x.kind, .string (S x.box), .int .i64 x.uid, .int .i64 x.flags, .string (S x.goal), .string (S x.text)] 70) := ⟨_, rfl⟩
  have HWE := hid hW1
  have HB1 := hid (show Below w.heap.size w W1 by rw [hW1]; exact (Below.refl _ _).alloc (Nat.le_refl _) _)
  have hX : W1.heap[w.heap.size]? = some (.cells #[.int .i64 x.kind, .string (S x.box), .int .i64 x.uid, .int .i64 x.flags, .string (S x.goal), .string (S x.text)] 70) := by rw [hW1]; exact heap_alloc_new w _
  have HX := hid hX
  obtain ⟨x0, x1, x2, x3, x4, x5⟩ := box6 hX
  have k1 : ¬ x.kind < 1 := by have := h.kind; omega
  have k2 : ¬ 6 < x.kind := by have := h.kind; omega
  have u1 : ¬ x.uid < 0 := by have := h.uid; omega
  have u2 : ¬ 1048576 < x.uid := by have := h.uid; omega
  have t1 : ¬ (2000 : Int) < ((S x.text).size : Int) := by rw [size_S]; have := h.text; omega
  have HFL := hid (show (decide (0 ≤ x.flags) && decide (x.flags ≤ 31)) = true by simp [h.flags.1, h.flags.2])
  have HBR := hid (fun u : World => bare_ok x u h.kind h.bare)
  have HCN := hid (fun u : World => checkNames_ok x u h)
  clear h hW1 hX
  go_enter Tryd.func28, Tryd.ntmps28
  go_wp2
  rw [← HWE.out]
  go_cut [1, 2, 12] (fun a b c wx => a = .pointer (some ⟨w.heap.size, 0, none⟩) ∧ c = .bool false ∧ Below W1.heap.size W1 wx)
  case first =>
    go_region_held3 (fun w' => w'.cell? ⟨w.heap.size, 0, none⟩ = some (.int .i64 x.kind) ∧ w'.cell? ⟨w.heap.size, 1, none⟩ = some (.string (S x.box)) ∧ w'.cell? ⟨w.heap.size, 2, none⟩ = some (.int .i64 x.uid) ∧ w'.cell? ⟨w.heap.size, 3, none⟩ = some (.int .i64 x.flags) ∧ w'.cell? ⟨w.heap.size, 4, none⟩ = some (.string (S x.goal)) ∧ w'.cell? ⟨w.heap.size, 5, none⟩ = some (.string (S x.text))) (go_keep)
      (first
        | (go_at_call 41
           with_reducible refine (HBR.out W1.drew).mono ?_
           rintro e w2 ⟨rfl, hb⟩
           have hb2 : Below W1.heap.size W1 w2 := (Below.refl _ _).drew.trans hb
           have HB2 := hid hb2
           have z0 := wcell_next x0 hb2
           have z1 := wcell_next x1 hb2
           have z2 := wcell_next x2 hb2
           have z3 := wcell_next x3 hb2
           have z4 := wcell_next x4 hb2
           have z5 := wcell_next x5 hb2
           clear hb hb2))
    all_goals
      go_wp2_with fail
      go_meet
      exact ⟨rfl, by first | rfl | simp, HB2.out⟩
  case rest =>
    obtain ⟨rfl, rfl, hb⟩ := hcut
    have z2 := wcell_next x2 hb
    have z3 := wcell_next x3 hb
    have z5 := wcell_next x5 hb
    have hX3 := (hb.block w.heap.size (World.block_lt_of_cell? _ _ x0)).trans HX.out
    obtain ⟨z0, _, _, _, z4, _⟩ := box6 hX3
    have z1 := wcell_next x1 hb
    have HB2 := hid (HB1.out.trans (hb.mono HB1.out.size))
    clear hb hX3 HBR
    go_wp2_with fail
    refine (areFlags_any x.flags wc).mono ?_
    rintro e u ⟨rfl, hu⟩
    have hu' := hu.symm
    subst hu'
    rw [HFL.out]
    clear hu
    go_wp2_with fail
    refine (HCN.out wc).mono ?_
    rintro e w3 ⟨rfl, hb3⟩
    have HB3 := hid (HB2.out.trans (hb3.mono HB2.out.size))
    clear hb3
    go_wp2
    go_ret
    exact ⟨rfl, HB3.out⟩
end Go.Proofs.YtkkkbggbeihbnaaDoor
