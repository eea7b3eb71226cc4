/-
  What the laws' makers of commands do: the walks.
-/
import Derived.Test.YtlcnfpeabnnjoaaGreatDoorScrCk
import Derived.Test.YtlcnfpeabnnjoaaGreatDoorTokMem
import Derived.Test.YtlcnfpeabnnjoaaGreatDoorRulPur
import Derived.Test.YtlcnfpeabnnjoaaGreatDoorMkCmd
import Derived.Test.YtlcnfpeabnnjoaaGreatDoorMkTesv
namespace Go.Proofs.YtlcnfpeabnnjoaaGreatDoor
open Go.RowKit Go.Proofs

theorem flat_cells {k : Nat} : ∀ {css : List (List Value)}, (∀ c ∈ css, c.length = k) → css.flatten.length = css.length * k := by
  intro css
  induction css with
  | nil => intro _; simp
  | cons c css ih =>
    intro h
    rw [List.flatten_cons, List.length_append, h c (by simp), ih fun d hd => h d (by simp [hd]), List.length_cons, Nat.add_mul]
    omega
/-- The cells of a row, one behind the other. -/
theorem row_cells {A : Type} {Q : Nat → Prop} {k : Nat} {P : A → List Value → Prop} {w : World} {b o c : Nat} {l : List A} (h : RowM Q k P w (.slice (some ⟨b, o, none⟩) l.length c) l) : ∀ m : Nat, m ≤ l.length →
    ∃ css : List (List Value), css.length = m ∧ (∀ cs ∈ css, cs.length = k) ∧ (∀ (i : Nat) (x : A) (cs : List Value), l[i]? = some x → css[i]? = some cs → P x cs) ∧ ∀ (j : Nat) u, css.flatten[j]? = some u → w.cell? ⟨b, o + j, none⟩ = some u := by
  intro m
  induction m with
  | zero => intro _; exact ⟨[], rfl, (fun cs h => by cases h), (fun i x cs _ h => by simp at h), (fun j u h => by simp at h)⟩
  | succ m ih =>
    intro hm
    obtain ⟨css, h1, h2, h3, h4⟩ := ih (by omega)
    obtain ⟨a', c', hv, _, hr⟩ := h
    simp only [Value.slice.injEq, true_and] at hv
    obtain ⟨rfl, rfl⟩ := hv
    obtain ⟨x, hx⟩ : ∃ x, l[m]? = some x := ⟨_, List.getElem?_eq_getElem (by omega)⟩
    obtain ⟨b', o', cs, ha, _, _, hl, hc, hP⟩ := hr m x hx
    cases ha
    have hfl := flat_cells h2
    rw [h1] at hfl
    refine ⟨css ++ [cs], by simp [h1], ?_, ?_, ?_⟩
    · intro d hd
      rcases List.mem_append.1 hd with e | e
      · exact h2 d e
      · simp at e; rw [e]; exact hl
    · intro i y d hy hd
      rcases Nat.lt_or_ge i m with hi | hi
      · rw [List.getElem?_append_left (by omega)] at hd
        exact h3 i y d hy hd
      · rw [List.getElem?_append_right (by omega)] at hd
        have hz : i - css.length = 0 := by
          rcases Nat.eq_zero_or_pos (i - css.length) with e | e
          · exact e
          · obtain ⟨q, hq⟩ : ∃ q, i - css.length = q + 1 := ⟨i - css.length - 1, by omega⟩
            rw [hq] at hd; simp at hd
        rw [hz] at hd
        simp at hd
        subst hd
        obtain rfl : i = m := by omega
        rw [hx] at hy
        cases hy
        exact hP
    · intro j u hj
      have ef : (css ++ [cs]).flatten = css.flatten ++ cs := by simp
      rw [ef] at hj
      rcases Nat.lt_or_ge j (m * k) with hlt | hge
      · rw [List.getElem?_append_left (by omega)] at hj
        exact h4 j u hj
      · rw [List.getElem?_append_right (by omega), hfl] at hj
        have := hc _ u hj
        rw [show o + m * k + (j - m * k) = o + j by omega] at this
        exact this


set_option maxHeartbeats 8000000 in
set_option maxRecDepth 100000 in
theorem cmd_if (d m n : Nat) (x : Stk) (cs : List Value) (w : World) (h : StkM (n + 1) w x cs) (hp : ([3, 2, 5, 2, 6, 2, 4, 8, 9, 7, 10, 2] : List Nat)[pickN x.kind 12]? = some 2) (hd : d < 2) (iht : TestC 1 (m + 1)) (ihc : CmdsC (d + 1) (m + 1)) :
    Calls Tryz.prog 19 #[.agg cs.toArray, .int .i64 d] w (CmdP (m + 2) w) := by
  obtain ⟨ai, ci, rfl, wk, wa, wb, ls, lt, hic, hcm, hR⟩ := h
  have hpl := pickN_lt x.kind 12 (by omega)
  have hkk := knd_at hpl hp
  clear hp
  have HR := hid hR
  have HIT := hid iht
  have HIC := hid ihc
  have HDW := hid (show (d : Int) + 1 = ((d + 1 : Nat) : Int) by omega)
  have hlm : x.ins.length ≤ maxLen := hR.small
  obtain ⟨hcm, hl47⟩ := hcm
  unfold maxLen at hlm hcm
  clear hR iht ihc
  obtain ⟨hh, hhd⟩ : ∃ hh, hh = (x.ins.length + 1) / 2 := ⟨_, rfl⟩
  have hh1 : hh ≤ x.ins.length := by omega
  have hwq : wrap64 ((wrap64 ((x.ins.length : Int) + 1)).tdiv 2) = (hh : Int) := by
    have e1 : wrap64 ((x.ins.length : Int) + 1) = (x.ins.length : Int) + 1 := by unfold wrap64; omega
    have e2 : ((x.ins.length : Int) + 1).tdiv 2 = (hh : Int) := by rw [Int.tdiv_eq_ediv_of_nonneg (by omega)]; omega
    rw [e1, e2]; unfold wrap64; omega
  have q1 : (0 : Int) ≤ (hh : Int) := by omega
  have q2 : (hh : Int) ≤ (ci : Int) := by omega
  have q3 : (hh : Int) ≤ (x.ins.length : Int) := by omega
  have hd2 : ¬ (2 : Int) ≤ (d : Int) := by omega
  have HHD := hid hhd
  clear hhd
  go_enter Tryz.func19, Tryz.ntmps19
  go_wp2_with fail
  refine (picked_any x.kind 12 _ wk (by omega) (by omega)).mono ?_
  rintro e w1 ⟨rfl, rfl⟩
  generalize pickN x.kind 12 = p at *
  have hp12 : (p : Int) < 12 := by omega
  have hp0 : (0 : Int) ≤ (p : Int) := by omega
  have step : ∀ (W : World) (a1 : Option Addr) (c1 l1 : Nat) (tk : Stk), True := fun _ _ _ _ _ => trivial
  clear step
  by_cases hpos : 0 < x.ins.length
  · have hposI : (0 : Int) < (x.ins.length : Int) := by omega
    have hc1 : (1 : Int) ≤ (ci : Int) := by omega
    obtain ⟨bb, oo, rfl⟩ : ∃ bb oo, ai = some ⟨bb, oo, none⟩ := by
      obtain ⟨a', c', hv, hsm, hrow⟩ := HR.out
      simp only [Value.slice.injEq, true_and] at hv
      obtain ⟨y, hy⟩ : ∃ y, x.ins[0]? = some y := ⟨_, List.getElem?_eq_getElem hpos⟩
      obtain ⟨b, o, _, ha, _⟩ := hrow 0 y hy
      exact ⟨b, o, by rw [hv.1, ha]⟩
    by_cases hcap : ci = (x.ins.length + 1) / 2
    · have hch : ci = hh := by rw [HHD.out]; exact hcap
      subst hch
      clear hcap
      obtain ⟨W, hW⟩ : ∃ W, W = ((((w.alloc (.cells #[.int .i64 x.kind, .int .i64 x.a, .int .i64 x.b, .string (S x.s), .string (S x.t), .slice (some ⟨bb, oo, none⟩) x.ins.length ci] 29)).alloc (.cells #[.int .i64 0, .slice none 0 0, .int .i64 0, .int .i64 0, .int .i64 0, .slice none 0 0, .slice none 0 0, .bool false, .int .i64 0, .slice none 0 0, .slice none 0 0, .slice none 0 0] 50)).alloc (.cells #[.int .i64 3, .int .i64 2, .int .i64 5, .int .i64 2, .int .i64 6, .int .i64 2, .int .i64 4, .int .i64 8, .int .i64 9, .int .i64 7, .int .i64 10, .int .i64 2] 3)).alloc (.cells #[.int .i64 2, .slice none 0 0, .int .i64 0, .int .i64 0, .int .i64 0, .slice none 0 0, .slice none 0 0, .bool false, .int .i64 0, .slice none 0 0, .slice none 0 0, .slice none 0 0] 50)).alloc (.cells #[.int .i64 x.a, .int .i64 x.b, .int .i64 x.a, .string (S x.s), .string (S x.t), .slice (some ⟨bb, oo, none⟩) 1 ci] 29) := ⟨_, rfl⟩
      have HWE := hid hW
      have hx := hid (show W.heap[w.heap.size]? = some (.cells #[.int .i64 x.kind, .int .i64 x.a, .int .i64 x.b, .string (S x.s), .string (S x.t), .slice (some ⟨bb, oo, none⟩) x.ins.length ci] 29) by rw [hW]; exact heap_old _ (heap_old _ (heap_old _ (heap_old _ (heap_at _ rfl)))))
      have hr := hid (show W.heap[w.heap.size + 1]? = some (.cells #[.int .i64 0, .slice none 0 0, .int .i64 0, .int .i64 0, .int .i64 0, .slice none 0 0, .slice none 0 0, .bool false, .int .i64 0, .slice none 0 0, .slice none 0 0, .slice none 0 0] 50) by rw [hW]; exact heap_old _ (heap_old _ (heap_old _ (heap_at _ (by simp)))))
      have hc := hid (show W.heap[w.heap.size + 1 + 1 + 1]? = some (.cells #[.int .i64 2, .slice none 0 0, .int .i64 0, .int .i64 0, .int .i64 0, .slice none 0 0, .slice none 0 0, .bool false, .int .i64 0, .slice none 0 0, .slice none 0 0, .slice none 0 0] 50) by rw [hW]; exact heap_old _ (heap_at _ (by simp)))
      have HSZ := hid (show W.heap.size = w.heap.size + 5 by rw [hW]; simp)
      have HB := hid (show Below w.heap.size w W by rw [hW]; exact (((((Below.refl _ _).alloc (Nat.le_refl _) _).alloc (by simp) _).alloc (by simp; omega) _).alloc (by simp; omega) _).alloc (by simp; omega) _)
      have HS := hid (show StkM (n + 1) W ⟨x.a, x.b, x.a, x.s, x.t, x.ins.take 1⟩ [.int .i64 x.a, .int .i64 x.b, .int .i64 x.a, .string (S x.s), .string (S x.t), .slice (some ⟨bb, oo, none⟩) 1 ci] from ⟨some ⟨bb, oo, none⟩, ci, by rw [show (x.ins.take 1).length = 1 by rw [List.length_take]; omega], wa, wb, wa, ls, lt, by rw [List.length_take]; omega, ⟨by unfold maxLen; omega, by rw [List.length_take]; omega⟩, by rw [show (x.ins.take 1).length = 1 by rw [List.length_take]; omega]; exact RowM.takeR (SticksM.next HR.out HB.out) 1 ci (by omega)⟩)
      clear hW
      go_wp2_with fail
      rw [← HWE.out]
      refine (HIT.out (n + 1) _ _ W HS.out).mono ?_
      rintro e w2 ⟨t', cs', rfl, hT, hN, hb2⟩
      obtain ⟨an, cn, ak, ck, at', ct, m0, _, rfl, _⟩ := tst_form hT
      have HT := hid hT
      have HN := hid hN
      have hs2 := hid hb2.size
      have hx2 := hid (below_heap hb2 hx.out (by have := HSZ.out; omega))
      have hr2 := hid (below_heap hb2 hr.out (by have := HSZ.out; omega))
      have hc2 := hid (below_heap hb2 hc.out (by have := HSZ.out; omega))
      have HB2 := hid (HB.out.trans (hb2.mono (by have := HSZ.out; omega)))
      obtain ⟨k0, k1, k2, k3, k4, k5, k6, k7, k8, k9, k10, k11, g0, g1, g2, g3, g4, g5, g6, g7, g8, g9, g10, g11⟩ := box12 hc2.out
      have y5 := (box6 hx2.out).2.2.2.2.2
      clear hT hN hb2
      obtain ⟨W3, hW3⟩ : ∃ W3, W3 = setAll w2 (w.heap.size + 1 + 1 + 1) 2 [.int .i64 t'.kind, .int .i64 t'.mat, .int .i64 t'.part, .slice an t'.names.length cn, .slice ak t'.keys.length ck, .bool t'.over, .int .i64 t'.limit, .slice at' t'.tests.length ct] := ⟨_, rfl⟩
      have HW3 := hid (show (((((((w2.setCell ⟨w.heap.size + 1 + 1 + 1, 2, none⟩ (.int .i64 t'.kind)).setCell ⟨w.heap.size + 1 + 1 + 1, 3, none⟩ (.int .i64 t'.mat)).setCell ⟨w.heap.size + 1 + 1 + 1, 4, none⟩ (.int .i64 t'.part)).setCell ⟨w.heap.size + 1 + 1 + 1, 5, none⟩ (.slice an t'.names.length cn)).setCell ⟨w.heap.size + 1 + 1 + 1, 6, none⟩ (.slice ak t'.keys.length ck)).setCell ⟨w.heap.size + 1 + 1 + 1, 7, none⟩ (.bool t'.over)).setCell ⟨w.heap.size + 1 + 1 + 1, 8, none⟩ (.int .i64 t'.limit)).setCell ⟨w.heap.size + 1 + 1 + 1, 9, none⟩ (.slice at' t'.tests.length ct) = W3 from hW3.symm)
      have hK3 := hid (show Keeps (fun k => W.heap.size ≤ k) w2 W3 by rw [hW3]; exact setAll_keeps (b := w.heap.size + 1 + 1 + 1) (fun k (hk : W.heap.size ≤ k) => by have := HSZ.out; omega) [.int .i64 t'.kind, .int .i64 t'.mat, .int .i64 t'.part, .slice an t'.names.length cn, .slice ak t'.keys.length ck, .bool t'.over, .int .i64 t'.limit, .slice at' t'.tests.length ct] 2 w2 w2 (Keeps.refl _ _))
      have hz3 := hid (show W3.heap.size = w2.heap.size by rw [hW3]; exact setAll_size (b := w.heap.size + 1 + 1 + 1) [.int .i64 t'.kind, .int .i64 t'.mat, .int .i64 t'.part, .slice an t'.names.length cn, .slice ak t'.keys.length ck, .bool t'.over, .int .i64 t'.limit, .slice at' t'.tests.length ct] 2 w2)
      have HB3 := hid (show Below w.heap.size w W3 by rw [hW3]; exact setAll_below (b := w.heap.size + 1 + 1 + 1) (by omega) [.int .i64 t'.kind, .int .i64 t'.mat, .int .i64 t'.part, .slice an t'.names.length cn, .slice ak t'.keys.length ck, .bool t'.over, .int .i64 t'.limit, .slice at' t'.tests.length ct] 2 w2 w HB2.out)
      have hc3 := hid (show W3.heap[w.heap.size + 1 + 1 + 1]? = some (.cells #[.int .i64 2, .slice none 0 0, .int .i64 t'.kind, .int .i64 t'.mat, .int .i64 t'.part, .slice an t'.names.length cn, .slice ak t'.keys.length ck, .bool t'.over, .int .i64 t'.limit, .slice at' t'.tests.length ct, .slice none 0 0, .slice none 0 0] 50) by rw [hW3]; exact (setAll_heap (b := w.heap.size + 1 + 1 + 1) [.int .i64 t'.kind, .int .i64 t'.mat, .int .i64 t'.part, .slice an t'.names.length cn, .slice ak t'.keys.length ck, .bool t'.over, .int .i64 t'.limit, .slice at' t'.tests.length ct] 2 w2 _ hc2.out).trans (by simp [putAll]))
      have hx3 := hid (show W3.heap[w.heap.size]? = some (.cells #[.int .i64 x.kind, .int .i64 x.a, .int .i64 x.b, .string (S x.s), .string (S x.t), .slice (some ⟨bb, oo, none⟩) x.ins.length ci] 29) by rw [hW3]; exact ((setAll_keeps (b := w.heap.size + 1 + 1 + 1) (Q := fun k => k ≠ w.heap.size + 1 + 1 + 1) (fun _ h => h) [.int .i64 t'.kind, .int .i64 t'.mat, .int .i64 t'.part, .slice an t'.names.length cn, .slice ak t'.keys.length ck, .bool t'.over, .int .i64 t'.limit, .slice at' t'.tests.length ct] 2 w2 w2 (Keeps.refl _ _)).block _ (by have := HSZ.out; have := hs2.out; omega) (by omega)).trans hx2.out)
      have hr3 := hid (show W3.heap[w.heap.size + 1]? = some (.cells #[.int .i64 0, .slice none 0 0, .int .i64 0, .int .i64 0, .int .i64 0, .slice none 0 0, .slice none 0 0, .bool false, .int .i64 0, .slice none 0 0, .slice none 0 0, .slice none 0 0] 50) by rw [hW3]; exact ((setAll_keeps (b := w.heap.size + 1 + 1 + 1) (Q := fun k => k ≠ w.heap.size + 1 + 1 + 1) (fun _ h => h) [.int .i64 t'.kind, .int .i64 t'.mat, .int .i64 t'.part, .slice an t'.names.length cn, .slice ak t'.keys.length ck, .bool t'.over, .int .i64 t'.limit, .slice at' t'.tests.length ct] 2 w2 w2 (Keeps.refl _ _)).block _ (by have := HSZ.out; have := hs2.out; omega) (by omega)).trans hr2.out)
      clear hW3
      go_wp2_with fail
      rw [HW3.out, HDW.out, ← HHD.out]
      have hsub := RowM.takeR (SticksM.next HR.out HB3.out) ci ci hh1
      have hcall := HIC.out n (x.ins.take ci) (some ⟨bb, oo, none⟩) ci W3 (by rw [show (x.ins.take ci).length = ci by rw [List.length_take]; omega]; exact hsub)
      rw [show (x.ins.take ci).length = ci by rw [List.length_take]; omega] at hcall
      refine hcall.mono ?_
      rintro e w4 ⟨L, a4, c4, rfl, hL, hNL, hL4, _, hb4⟩
      have hK34' : Keeps (fun k => W.heap.size ≤ k) W3 w4 := Keeps.of_below hb4
      have HL := hid hL
      have HNL := hid hNL
      have hs4 := hid hb4.size
      have hx4 := hid (below_heap hb4 hx3.out (by have := HSZ.out; have := hs2.out; have := hz3.out; omega))
      have hr4 := hid (below_heap hb4 hr3.out (by have := HSZ.out; have := hs2.out; have := hz3.out; omega))
      have hc4' := hid (below_heap hb4 hc3.out (by have := HSZ.out; have := hs2.out; have := hz3.out; omega))
      have HB4 := hid (HB3.out.trans (hb4.mono HB3.out.size))
      have z10 := (box12 hc4'.out).2.2.2.2.2.2.2.2.2.2.1
      have f10 := box_free hc4'.out 10
      have x5 := (box6 hx4.out).2.2.2.2.2
      clear hL hNL hb4 k0 k1 k2 k3 k4 k5 k6 k7 k8 k9 k10 k11 g0 g1 g2 g3 g4 g5 g6 g7 g8 g9 g10 g11 y5 hsub hcall
      obtain ⟨W5, hW5⟩ : ∃ W5, W5 = w4.setCell ⟨w.heap.size + 1 + 1 + 1, 10, none⟩ (.slice a4 L.length c4) := ⟨_, rfl⟩
      have HW5 := hid hW5
      have hK5 := hid (show Keeps (fun k => W.heap.size ≤ k) w4 W5 by rw [hW5]; exact Keeps.set w4 _ fun k (hk : W.heap.size ≤ k) => by show k ≠ w.heap.size + 1 + 1 + 1; have := HSZ.out; omega)
      have hz5 := hid (show W5.heap.size = w4.heap.size by rw [hW5]; simp [World.setCell])
      have HB5 := hid (show Below w.heap.size w W5 by rw [hW5]; exact HB4.out.setCell (by simp; omega) _)
      have hc5 := hid (show W5.heap[w.heap.size + 1 + 1 + 1]? = some (.cells #[.int .i64 2, .slice none 0 0, .int .i64 t'.kind, .int .i64 t'.mat, .int .i64 t'.part, .slice an t'.names.length cn, .slice ak t'.keys.length ck, .bool t'.over, .int .i64 t'.limit, .slice at' t'.tests.length ct, .slice a4 L.length c4, .slice none 0 0] 50) by rw [hW5]; exact (setCell_mark (i := 10) _ hc4'.out).trans (by simp))
      have hr5 := hid (show W5.heap[w.heap.size + 1]? = some (.cells #[.int .i64 0, .slice none 0 0, .int .i64 0, .int .i64 0, .int .i64 0, .slice none 0 0, .slice none 0 0, .bool false, .int .i64 0, .slice none 0 0, .slice none 0 0, .slice none 0 0] 50) by rw [hW5]; exact set_heap _ hr4.out (by show w.heap.size + 1 ≠ w.heap.size + 1 + 1 + 1; omega))
      clear hW5
      have hhd := HHD.out
      go_wp2_with fail
      clear hhd
      rw [← HW5.out, HDW.out]
      have hrow2 : SticksM n W5 (.slice (some ⟨bb, oo, none⟩) (x.ins.drop ci).length 0) (x.ins.drop ci) := by rw [show x.ins.drop ci = [] from List.drop_eq_nil_of_le (by have := HHD.out; omega)]; exact rowM_nil _ _ _ _ _ _
      have hcall2 := HIC.out n (x.ins.drop ci) (some ⟨bb, oo, none⟩) 0 W5 hrow2
      rw [show (x.ins.drop ci).length = x.ins.length - (x.ins.length + 1) / 2 by rw [List.length_drop, HHD.out]] at hcall2
      refine hcall2.mono ?_
      rintro e w6 ⟨L2, a6, c6, rfl, hL2, hNL2, hL24, _, hb6⟩
      have HL2 := hid hL2
      have HNL2 := hid hNL2
      have hs6 := hid hb6.size
      have hK6 := hid (show Keeps (fun k => W.heap.size ≤ k) W5 w6 from Keeps.of_below hb6)
      have hr6 := hid (below_heap hb6 hr5.out (by have := HSZ.out; have := hs2.out; have := hz3.out; have := hs4.out; have := hz5.out; omega))
      have hc6' := hid (below_heap hb6 hc5.out (by have := HSZ.out; have := hs2.out; have := hz3.out; have := hs4.out; have := hz5.out; omega))
      have HB6 := hid (HB5.out.trans (hb6.mono HB5.out.size))
      obtain ⟨r0, r1, r2, r3, r4, r5, r6, r7, r8, r9, r10, r11, f0, f1, f2, f3, f4, f5, f6, f7, f8, f9, f10, f11⟩ := box12 hr6.out
      obtain ⟨k0, k1, k2, k3, k4, k5, k6, k7, k8, k9, k10, k11, g0, g1, g2, g3, g4, g5, g6, g7, g8, g9, g10, g11⟩ := box12 hc6'.out
      clear hL2 hNL2 hb6 hcall2 hrow2 z10 x5
      go_wp2
      refine bodyPost_ret (v := .agg #[.int .i64 2, .slice none 0 0, .int .i64 t'.kind, .int .i64 t'.mat, .int .i64 t'.part, .slice an t'.names.length cn, .slice ak t'.keys.length ck, .bool t'.over, .int .i64 t'.limit, .slice at' t'.tests.length ct, .slice a4 L.length c4, .slice a6 L2.length c6]) (by simp [results, Tryz.results19, go_sem, *]) rfl ?_
      have hK7 : Keeps (fun k => W.heap.size ≤ k) w6 (w6.setCell ⟨w.heap.size + 1 + 1 + 1, 11, none⟩ (.slice a6 L2.length c6)) := Keeps.set w6 _ fun k (hk : W.heap.size ≤ k) => by show k ≠ w.heap.size + 1 + 1 + 1; have := HSZ.out; omega
      have hQ : ∀ k, W.heap.size ≤ k → w.heap.size + 1 < k := fun k hk => by have := HSZ.out; omega
      have hK46 := (hK5.out.trans hK6.out).trans hK7
      have hK34 := hid hK34'
      have hM7 : CmdM (fun b => w.heap.size + 1 < b) (m + 2) (w6.setCell ⟨w.heap.size + 1 + 1 + 1, 11, none⟩ (.slice a6 L2.length c6)) ⟨2, [], t', L, L2⟩ [.int .i64 2, .slice none 0 0, .int .i64 t'.kind, .int .i64 t'.mat, .int .i64 t'.part, .slice an t'.names.length cn, .slice ak t'.keys.length ck, .bool t'.over, .int .i64 t'.limit, .slice at' t'.tests.length ct, .slice a4 L.length c4, .slice a6 L2.length c6] := ⟨_, _, _, _, _, _, rfl, rowM_nil _ _ _ _ _ _, TstM.imp hQ ((hK3.out.trans hK34.out).trans hK46) _ _ _ HT.out, cmds_lift (hq := fun k hk => by have h1 : W3.heap.size ≤ k := hk; have := hs2.out; have := hz3.out; show W.heap.size ≤ k; omega) hQ hK46 HL.out, cmds_lift (hq := fun k hk => by have h1 : W5.heap.size ≤ k := hk; have := hs2.out; have := hz3.out; have := hs4.out; have := hz5.out; show W.heap.size ≤ k; omega) hQ hK7 HL2.out⟩
      exact CmdP.fin12 (W1 := w6.setCell ⟨w.heap.size + 1 + 1 + 1, 11, none⟩ (.slice a6 L2.length c6)) hM7 (NC.mk (by simp) (fun h => by cases h) (fun h => by rcases h with h | h <;> cases h) (fun h => by cases h) (fun n => (HN.out n).1) HNL.out HNL2.out (fit_if hL4 hL24) (fun _ => HN.out)) (HB6.out.setCell (by simp; omega) _) rfl
    · obtain ⟨W, hW⟩ : ∃ W, W = ((((w.alloc (.cells #[.int .i64 x.kind, .int .i64 x.a, .int .i64 x.b, .string (S x.s), .string (S x.t), .slice (some ⟨bb, oo, none⟩) x.ins.length ci] 29)).alloc (.cells #[.int .i64 0, .slice none 0 0, .int .i64 0, .int .i64 0, .int .i64 0, .slice none 0 0, .slice none 0 0, .bool false, .int .i64 0, .slice none 0 0, .slice none 0 0, .slice none 0 0] 50)).alloc (.cells #[.int .i64 3, .int .i64 2, .int .i64 5, .int .i64 2, .int .i64 6, .int .i64 2, .int .i64 4, .int .i64 8, .int .i64 9, .int .i64 7, .int .i64 10, .int .i64 2] 3)).alloc (.cells #[.int .i64 2, .slice none 0 0, .int .i64 0, .int .i64 0, .int .i64 0, .slice none 0 0, .slice none 0 0, .bool false, .int .i64 0, .slice none 0 0, .slice none 0 0, .slice none 0 0] 50)).alloc (.cells #[.int .i64 x.a, .int .i64 x.b, .int .i64 x.a, .string (S x.s), .string (S x.t), .slice (some ⟨bb, oo, none⟩) 1 ci] 29) := ⟨_, rfl⟩
      have HWE := hid hW
      have hx := hid (show W.heap[w.heap.size]? = some (.cells #[.int .i64 x.kind, .int .i64 x.a, .int .i64 x.b, .string (S x.s), .string (S x.t), .slice (some ⟨bb, oo, none⟩) x.ins.length ci] 29) by rw [hW]; exact heap_old _ (heap_old _ (heap_old _ (heap_old _ (heap_at _ rfl)))))
      have hr := hid (show W.heap[w.heap.size + 1]? = some (.cells #[.int .i64 0, .slice none 0 0, .int .i64 0, .int .i64 0, .int .i64 0, .slice none 0 0, .slice none 0 0, .bool false, .int .i64 0, .slice none 0 0, .slice none 0 0, .slice none 0 0] 50) by rw [hW]; exact heap_old _ (heap_old _ (heap_old _ (heap_at _ (by simp)))))
      have hc := hid (show W.heap[w.heap.size + 1 + 1 + 1]? = some (.cells #[.int .i64 2, .slice none 0 0, .int .i64 0, .int .i64 0, .int .i64 0, .slice none 0 0, .slice none 0 0, .bool false, .int .i64 0, .slice none 0 0, .slice none 0 0, .slice none 0 0] 50) by rw [hW]; exact heap_old _ (heap_at _ (by simp)))
      have HSZ := hid (show W.heap.size = w.heap.size + 5 by rw [hW]; simp)
      have HB := hid (show Below w.heap.size w W by rw [hW]; exact (((((Below.refl _ _).alloc (Nat.le_refl _) _).alloc (by simp) _).alloc (by simp; omega) _).alloc (by simp; omega) _).alloc (by simp; omega) _)
      have HS := hid (show StkM (n + 1) W ⟨x.a, x.b, x.a, x.s, x.t, x.ins.take 1⟩ [.int .i64 x.a, .int .i64 x.b, .int .i64 x.a, .string (S x.s), .string (S x.t), .slice (some ⟨bb, oo, none⟩) 1 ci] from ⟨some ⟨bb, oo, none⟩, ci, by rw [show (x.ins.take 1).length = 1 by rw [List.length_take]; omega], wa, wb, wa, ls, lt, by rw [List.length_take]; omega, ⟨by unfold maxLen; omega, by rw [List.length_take]; omega⟩, by rw [show (x.ins.take 1).length = 1 by rw [List.length_take]; omega]; exact RowM.takeR (SticksM.next HR.out HB.out) 1 ci (by omega)⟩)
      clear hW
      go_wp2_with fail
      rw [← HWE.out]
      refine (HIT.out (n + 1) _ _ W HS.out).mono ?_
      rintro e w2 ⟨t', cs', rfl, hT, hN, hb2⟩
      obtain ⟨an, cn, ak, ck, at', ct, m0, _, rfl, _⟩ := tst_form hT
      have HT := hid hT
      have HN := hid hN
      have hs2 := hid hb2.size
      have hx2 := hid (below_heap hb2 hx.out (by have := HSZ.out; omega))
      have hr2 := hid (below_heap hb2 hr.out (by have := HSZ.out; omega))
      have hc2 := hid (below_heap hb2 hc.out (by have := HSZ.out; omega))
      have HB2 := hid (HB.out.trans (hb2.mono (by have := HSZ.out; omega)))
      obtain ⟨k0, k1, k2, k3, k4, k5, k6, k7, k8, k9, k10, k11, g0, g1, g2, g3, g4, g5, g6, g7, g8, g9, g10, g11⟩ := box12 hc2.out
      have y5 := (box6 hx2.out).2.2.2.2.2
      clear hT hN hb2
      obtain ⟨W3, hW3⟩ : ∃ W3, W3 = setAll w2 (w.heap.size + 1 + 1 + 1) 2 [.int .i64 t'.kind, .int .i64 t'.mat, .int .i64 t'.part, .slice an t'.names.length cn, .slice ak t'.keys.length ck, .bool t'.over, .int .i64 t'.limit, .slice at' t'.tests.length ct] := ⟨_, rfl⟩
      have HW3 := hid (show (((((((w2.setCell ⟨w.heap.size + 1 + 1 + 1, 2, none⟩ (.int .i64 t'.kind)).setCell ⟨w.heap.size + 1 + 1 + 1, 3, none⟩ (.int .i64 t'.mat)).setCell ⟨w.heap.size + 1 + 1 + 1, 4, none⟩ (.int .i64 t'.part)).setCell ⟨w.heap.size + 1 + 1 + 1, 5, none⟩ (.slice an t'.names.length cn)).setCell ⟨w.heap.size + 1 + 1 + 1, 6, none⟩ (.slice ak t'.keys.length ck)).setCell ⟨w.heap.size + 1 + 1 + 1, 7, none⟩ (.bool t'.over)).setCell ⟨w.heap.size + 1 + 1 + 1, 8, none⟩ (.int .i64 t'.limit)).setCell ⟨w.heap.size + 1 + 1 + 1, 9, none⟩ (.slice at' t'.tests.length ct) = W3 from hW3.symm)
      have hK3 := hid (show Keeps (fun k => W.heap.size ≤ k) w2 W3 by rw [hW3]; exact setAll_keeps (b := w.heap.size + 1 + 1 + 1) (fun k (hk : W.heap.size ≤ k) => by have := HSZ.out; omega) [.int .i64 t'.kind, .int .i64 t'.mat, .int .i64 t'.part, .slice an t'.names.length cn, .slice ak t'.keys.length ck, .bool t'.over, .int .i64 t'.limit, .slice at' t'.tests.length ct] 2 w2 w2 (Keeps.refl _ _))
      have hz3 := hid (show W3.heap.size = w2.heap.size by rw [hW3]; exact setAll_size (b := w.heap.size + 1 + 1 + 1) [.int .i64 t'.kind, .int .i64 t'.mat, .int .i64 t'.part, .slice an t'.names.length cn, .slice ak t'.keys.length ck, .bool t'.over, .int .i64 t'.limit, .slice at' t'.tests.length ct] 2 w2)
      have HB3 := hid (show Below w.heap.size w W3 by rw [hW3]; exact setAll_below (b := w.heap.size + 1 + 1 + 1) (by omega) [.int .i64 t'.kind, .int .i64 t'.mat, .int .i64 t'.part, .slice an t'.names.length cn, .slice ak t'.keys.length ck, .bool t'.over, .int .i64 t'.limit, .slice at' t'.tests.length ct] 2 w2 w HB2.out)
      have hc3 := hid (show W3.heap[w.heap.size + 1 + 1 + 1]? = some (.cells #[.int .i64 2, .slice none 0 0, .int .i64 t'.kind, .int .i64 t'.mat, .int .i64 t'.part, .slice an t'.names.length cn, .slice ak t'.keys.length ck, .bool t'.over, .int .i64 t'.limit, .slice at' t'.tests.length ct, .slice none 0 0, .slice none 0 0] 50) by rw [hW3]; exact (setAll_heap (b := w.heap.size + 1 + 1 + 1) [.int .i64 t'.kind, .int .i64 t'.mat, .int .i64 t'.part, .slice an t'.names.length cn, .slice ak t'.keys.length ck, .bool t'.over, .int .i64 t'.limit, .slice at' t'.tests.length ct] 2 w2 _ hc2.out).trans (by simp [putAll]))
      have hx3 := hid (show W3.heap[w.heap.size]? = some (.cells #[.int .i64 x.kind, .int .i64 x.a, .int .i64 x.b, .string (S x.s), .string (S x.t), .slice (some ⟨bb, oo, none⟩) x.ins.length ci] 29) by rw [hW3]; exact ((setAll_keeps (b := w.heap.size + 1 + 1 + 1) (Q := fun k => k ≠ w.heap.size + 1 + 1 + 1) (fun _ h => h) [.int .i64 t'.kind, .int .i64 t'.mat, .int .i64 t'.part, .slice an t'.names.length cn, .slice ak t'.keys.length ck, .bool t'.over, .int .i64 t'.limit, .slice at' t'.tests.length ct] 2 w2 w2 (Keeps.refl _ _)).block _ (by have := HSZ.out; have := hs2.out; omega) (by omega)).trans hx2.out)
      have hr3 := hid (show W3.heap[w.heap.size + 1]? = some (.cells #[.int .i64 0, .slice none 0 0, .int .i64 0, .int .i64 0, .int .i64 0, .slice none 0 0, .slice none 0 0, .bool false, .int .i64 0, .slice none 0 0, .slice none 0 0, .slice none 0 0] 50) by rw [hW3]; exact ((setAll_keeps (b := w.heap.size + 1 + 1 + 1) (Q := fun k => k ≠ w.heap.size + 1 + 1 + 1) (fun _ h => h) [.int .i64 t'.kind, .int .i64 t'.mat, .int .i64 t'.part, .slice an t'.names.length cn, .slice ak t'.keys.length ck, .bool t'.over, .int .i64 t'.limit, .slice at' t'.tests.length ct] 2 w2 w2 (Keeps.refl _ _)).block _ (by have := HSZ.out; have := hs2.out; omega) (by omega)).trans hr2.out)
      clear hW3
      go_wp2_with fail
      rw [HW3.out, HDW.out, ← HHD.out]
      have hsub := RowM.takeR (SticksM.next HR.out HB3.out) hh ci hh1
      have hcall := HIC.out n (x.ins.take hh) (some ⟨bb, oo, none⟩) ci W3 (by rw [show (x.ins.take hh).length = hh by rw [List.length_take]; omega]; exact hsub)
      rw [show (x.ins.take hh).length = hh by rw [List.length_take]; omega] at hcall
      refine hcall.mono ?_
      rintro e w4 ⟨L, a4, c4, rfl, hL, hNL, hL4, _, hb4⟩
      have hK34' : Keeps (fun k => W.heap.size ≤ k) W3 w4 := Keeps.of_below hb4
      have HL := hid hL
      have HNL := hid hNL
      have hs4 := hid hb4.size
      have hx4 := hid (below_heap hb4 hx3.out (by have := HSZ.out; have := hs2.out; have := hz3.out; omega))
      have hr4 := hid (below_heap hb4 hr3.out (by have := HSZ.out; have := hs2.out; have := hz3.out; omega))
      have hc4' := hid (below_heap hb4 hc3.out (by have := HSZ.out; have := hs2.out; have := hz3.out; omega))
      have HB4 := hid (HB3.out.trans (hb4.mono HB3.out.size))
      have z10 := (box12 hc4'.out).2.2.2.2.2.2.2.2.2.2.1
      have f10 := box_free hc4'.out 10
      have x5 := (box6 hx4.out).2.2.2.2.2
      clear hL hNL hb4 k0 k1 k2 k3 k4 k5 k6 k7 k8 k9 k10 k11 g0 g1 g2 g3 g4 g5 g6 g7 g8 g9 g10 g11 y5 hsub hcall
      obtain ⟨W5, hW5⟩ : ∃ W5, W5 = w4.setCell ⟨w.heap.size + 1 + 1 + 1, 10, none⟩ (.slice a4 L.length c4) := ⟨_, rfl⟩
      have HW5 := hid hW5
      have hK5 := hid (show Keeps (fun k => W.heap.size ≤ k) w4 W5 by rw [hW5]; exact Keeps.set w4 _ fun k (hk : W.heap.size ≤ k) => by show k ≠ w.heap.size + 1 + 1 + 1; have := HSZ.out; omega)
      have hz5 := hid (show W5.heap.size = w4.heap.size by rw [hW5]; simp [World.setCell])
      have HB5 := hid (show Below w.heap.size w W5 by rw [hW5]; exact HB4.out.setCell (by simp; omega) _)
      have hc5 := hid (show W5.heap[w.heap.size + 1 + 1 + 1]? = some (.cells #[.int .i64 2, .slice none 0 0, .int .i64 t'.kind, .int .i64 t'.mat, .int .i64 t'.part, .slice an t'.names.length cn, .slice ak t'.keys.length ck, .bool t'.over, .int .i64 t'.limit, .slice at' t'.tests.length ct, .slice a4 L.length c4, .slice none 0 0] 50) by rw [hW5]; exact (setCell_mark (i := 10) _ hc4'.out).trans (by simp))
      have hr5 := hid (show W5.heap[w.heap.size + 1]? = some (.cells #[.int .i64 0, .slice none 0 0, .int .i64 0, .int .i64 0, .int .i64 0, .slice none 0 0, .slice none 0 0, .bool false, .int .i64 0, .slice none 0 0, .slice none 0 0, .slice none 0 0] 50) by rw [hW5]; exact set_heap _ hr4.out (by show w.heap.size + 1 ≠ w.heap.size + 1 + 1 + 1; omega))
      clear hW5
      go_wp2_with fail
      rw [← HW5.out, HDW.out]
      have hrow2 : SticksM n W5 (.slice (some ⟨bb, oo + hh * 6, none⟩) (x.ins.drop hh).length (ci - hh)) (x.ins.drop hh) := by rw [List.length_drop]; exact RowM.dropR (SticksM.next HR.out HB5.out) hh _ _ rfl
      have hcall2 := HIC.out n (x.ins.drop hh) (some ⟨bb, oo + hh * 6, none⟩) (ci - hh) W5 hrow2
      rw [show (x.ins.drop hh).length = x.ins.length - (x.ins.length + 1) / 2 by rw [List.length_drop, HHD.out]] at hcall2
      rw [HHD.out] at hcall2
      refine hcall2.mono ?_
      rintro e w6 ⟨L2, a6, c6, rfl, hL2, hNL2, hL24, _, hb6⟩
      have HL2 := hid hL2
      have HNL2 := hid hNL2
      have hs6 := hid hb6.size
      have hK6 := hid (show Keeps (fun k => W.heap.size ≤ k) W5 w6 from Keeps.of_below hb6)
      have hr6 := hid (below_heap hb6 hr5.out (by have := HSZ.out; have := hs2.out; have := hz3.out; have := hs4.out; have := hz5.out; omega))
      have hc6' := hid (below_heap hb6 hc5.out (by have := HSZ.out; have := hs2.out; have := hz3.out; have := hs4.out; have := hz5.out; omega))
      have HB6 := hid (HB5.out.trans (hb6.mono HB5.out.size))
      obtain ⟨r0, r1, r2, r3, r4, r5, r6, r7, r8, r9, r10, r11, f0, f1, f2, f3, f4, f5, f6, f7, f8, f9, f10, f11⟩ := box12 hr6.out
      obtain ⟨k0, k1, k2, k3, k4, k5, k6, k7, k8, k9, k10, k11, g0, g1, g2, g3, g4, g5, g6, g7, g8, g9, g10, g11⟩ := box12 hc6'.out
      clear hL2 hNL2 hb6 hcall2 hrow2 z10 x5
      go_wp2
      refine bodyPost_ret (v := .agg #[.int .i64 2, .slice none 0 0, .int .i64 t'.kind, .int .i64 t'.mat, .int .i64 t'.part, .slice an t'.names.length cn, .slice ak t'.keys.length ck, .bool t'.over, .int .i64 t'.limit, .slice at' t'.tests.length ct, .slice a4 L.length c4, .slice a6 L2.length c6]) (by simp [results, Tryz.results19, go_sem, *]) rfl ?_
      have hK7 : Keeps (fun k => W.heap.size ≤ k) w6 (w6.setCell ⟨w.heap.size + 1 + 1 + 1, 11, none⟩ (.slice a6 L2.length c6)) := Keeps.set w6 _ fun k (hk : W.heap.size ≤ k) => by show k ≠ w.heap.size + 1 + 1 + 1; have := HSZ.out; omega
      have hQ : ∀ k, W.heap.size ≤ k → w.heap.size + 1 < k := fun k hk => by have := HSZ.out; omega
      have hK46 := (hK5.out.trans hK6.out).trans hK7
      have hK34 := hid hK34'
      have hM7 : CmdM (fun b => w.heap.size + 1 < b) (m + 2) (w6.setCell ⟨w.heap.size + 1 + 1 + 1, 11, none⟩ (.slice a6 L2.length c6)) ⟨2, [], t', L, L2⟩ [.int .i64 2, .slice none 0 0, .int .i64 t'.kind, .int .i64 t'.mat, .int .i64 t'.part, .slice an t'.names.length cn, .slice ak t'.keys.length ck, .bool t'.over, .int .i64 t'.limit, .slice at' t'.tests.length ct, .slice a4 L.length c4, .slice a6 L2.length c6] := ⟨_, _, _, _, _, _, rfl, rowM_nil _ _ _ _ _ _, TstM.imp hQ ((hK3.out.trans hK34.out).trans hK46) _ _ _ HT.out, cmds_lift (hq := fun k hk => by have h1 : W3.heap.size ≤ k := hk; have := hs2.out; have := hz3.out; show W.heap.size ≤ k; omega) hQ hK46 HL.out, cmds_lift (hq := fun k hk => by have h1 : W5.heap.size ≤ k := hk; have := hs2.out; have := hz3.out; have := hs4.out; have := hz5.out; show W.heap.size ≤ k; omega) hQ hK7 HL2.out⟩
      exact CmdP.fin12 (W1 := w6.setCell ⟨w.heap.size + 1 + 1 + 1, 11, none⟩ (.slice a6 L2.length c6)) hM7 (NC.mk (by simp) (fun h => by cases h) (fun h => by rcases h with h | h <;> cases h) (fun h => by cases h) (fun n => (HN.out n).1) HNL.out HNL2.out (fit_if hL4 hL24) (fun _ => HN.out)) (HB6.out.setCell (by simp; omega) _) rfl
  · have hl0 : x.ins.length = 0 := by omega
    rw [hl0] at *
    obtain ⟨W, hW⟩ : ∃ W, W = ((((w.alloc (.cells #[.int .i64 x.kind, .int .i64 x.a, .int .i64 x.b, .string (S x.s), .string (S x.t), .slice ai 0 ci] 29)).alloc (.cells #[.int .i64 0, .slice none 0 0, .int .i64 0, .int .i64 0, .int .i64 0, .slice none 0 0, .slice none 0 0, .bool false, .int .i64 0, .slice none 0 0, .slice none 0 0, .slice none 0 0] 50)).alloc (.cells #[.int .i64 3, .int .i64 2, .int .i64 5, .int .i64 2, .int .i64 6, .int .i64 2, .int .i64 4, .int .i64 8, .int .i64 9, .int .i64 7, .int .i64 10, .int .i64 2] 3)).alloc (.cells #[.int .i64 2, .slice none 0 0, .int .i64 0, .int .i64 0, .int .i64 0, .slice none 0 0, .slice none 0 0, .bool false, .int .i64 0, .slice none 0 0, .slice none 0 0, .slice none 0 0] 50)).alloc (.cells #[.int .i64 x.a, .int .i64 x.b, .int .i64 x.a, .string (S x.s), .string (S x.t), .slice none 0 0] 29) := ⟨_, rfl⟩
    have HWE := hid hW
    have hx := hid (show W.heap[w.heap.size]? = some (.cells #[.int .i64 x.kind, .int .i64 x.a, .int .i64 x.b, .string (S x.s), .string (S x.t), .slice ai 0 ci] 29) by rw [hW]; exact heap_old _ (heap_old _ (heap_old _ (heap_old _ (heap_at _ rfl)))))
    have hr := hid (show W.heap[w.heap.size + 1]? = some (.cells #[.int .i64 0, .slice none 0 0, .int .i64 0, .int .i64 0, .int .i64 0, .slice none 0 0, .slice none 0 0, .bool false, .int .i64 0, .slice none 0 0, .slice none 0 0, .slice none 0 0] 50) by rw [hW]; exact heap_old _ (heap_old _ (heap_old _ (heap_at _ (by simp)))))
    have hc := hid (show W.heap[w.heap.size + 1 + 1 + 1]? = some (.cells #[.int .i64 2, .slice none 0 0, .int .i64 0, .int .i64 0, .int .i64 0, .slice none 0 0, .slice none 0 0, .bool false, .int .i64 0, .slice none 0 0, .slice none 0 0, .slice none 0 0] 50) by rw [hW]; exact heap_old _ (heap_at _ (by simp)))
    have HSZ := hid (show W.heap.size = w.heap.size + 5 by rw [hW]; simp)
    have HB := hid (show Below w.heap.size w W by rw [hW]; exact (((((Below.refl _ _).alloc (Nat.le_refl _) _).alloc (by simp) _).alloc (by simp; omega) _).alloc (by simp; omega) _).alloc (by simp; omega) _)
    have HS := hid (show StkM (n + 1) W ⟨x.a, x.b, x.a, x.s, x.t, []⟩ [.int .i64 x.a, .int .i64 x.b, .int .i64 x.a, .string (S x.s), .string (S x.t), .slice none 0 0] from ⟨none, 0, rfl, wa, wb, wa, ls, lt, Nat.le_refl _, ⟨by unfold maxLen; omega, by simp⟩, rowM_nil _ _ _ _ _ _⟩)
    clear hW
    go_wp2_with fail
    rw [← HWE.out]
    refine (HIT.out (n + 1) _ _ W HS.out).mono ?_
    rintro e w2 ⟨t', cs', rfl, hT, hN, hb2⟩
    obtain ⟨an, cn, ak, ck, at', ct, m0, _, rfl, _⟩ := tst_form hT
    have HT := hid hT
    have HN := hid hN
    have hs2 := hid hb2.size
    have hx2 := hid (below_heap hb2 hx.out (by have := HSZ.out; omega))
    have hr2 := hid (below_heap hb2 hr.out (by have := HSZ.out; omega))
    have hc2 := hid (below_heap hb2 hc.out (by have := HSZ.out; omega))
    have HB2 := hid (HB.out.trans (hb2.mono (by have := HSZ.out; omega)))
    obtain ⟨k0, k1, k2, k3, k4, k5, k6, k7, k8, k9, k10, k11, g0, g1, g2, g3, g4, g5, g6, g7, g8, g9, g10, g11⟩ := box12 hc2.out
    have y5 := (box6 hx2.out).2.2.2.2.2
    clear hT hN hb2
    obtain ⟨W3, hW3⟩ : ∃ W3, W3 = setAll w2 (w.heap.size + 1 + 1 + 1) 2 [.int .i64 t'.kind, .int .i64 t'.mat, .int .i64 t'.part, .slice an t'.names.length cn, .slice ak t'.keys.length ck, .bool t'.over, .int .i64 t'.limit, .slice at' t'.tests.length ct] := ⟨_, rfl⟩
    have HW3 := hid (show (((((((w2.setCell ⟨w.heap.size + 1 + 1 + 1, 2, none⟩ (.int .i64 t'.kind)).setCell ⟨w.heap.size + 1 + 1 + 1, 3, none⟩ (.int .i64 t'.mat)).setCell ⟨w.heap.size + 1 + 1 + 1, 4, none⟩ (.int .i64 t'.part)).setCell ⟨w.heap.size + 1 + 1 + 1, 5, none⟩ (.slice an t'.names.length cn)).setCell ⟨w.heap.size + 1 + 1 + 1, 6, none⟩ (.slice ak t'.keys.length ck)).setCell ⟨w.heap.size + 1 + 1 + 1, 7, none⟩ (.bool t'.over)).setCell ⟨w.heap.size + 1 + 1 + 1, 8, none⟩ (.int .i64 t'.limit)).setCell ⟨w.heap.size + 1 + 1 + 1, 9, none⟩ (.slice at' t'.tests.length ct) = W3 from hW3.symm)
    have hK3 := hid (show Keeps (fun k => W.heap.size ≤ k) w2 W3 by rw [hW3]; exact setAll_keeps (b := w.heap.size + 1 + 1 + 1) (fun k (hk : W.heap.size ≤ k) => by have := HSZ.out; omega) [.int .i64 t'.kind, .int .i64 t'.mat, .int .i64 t'.part, .slice an t'.names.length cn, .slice ak t'.keys.length ck, .bool t'.over, .int .i64 t'.limit, .slice at' t'.tests.length ct] 2 w2 w2 (Keeps.refl _ _))
    have hz3 := hid (show W3.heap.size = w2.heap.size by rw [hW3]; exact setAll_size (b := w.heap.size + 1 + 1 + 1) [.int .i64 t'.kind, .int .i64 t'.mat, .int .i64 t'.part, .slice an t'.names.length cn, .slice ak t'.keys.length ck, .bool t'.over, .int .i64 t'.limit, .slice at' t'.tests.length ct] 2 w2)
    have HB3 := hid (show Below w.heap.size w W3 by rw [hW3]; exact setAll_below (b := w.heap.size + 1 + 1 + 1) (by omega) [.int .i64 t'.kind, .int .i64 t'.mat, .int .i64 t'.part, .slice an t'.names.length cn, .slice ak t'.keys.length ck, .bool t'.over, .int .i64 t'.limit, .slice at' t'.tests.length ct] 2 w2 w HB2.out)
    have hc3 := hid (show W3.heap[w.heap.size + 1 + 1 + 1]? = some (.cells #[.int .i64 2, .slice none 0 0, .int .i64 t'.kind, .int .i64 t'.mat, .int .i64 t'.part, .slice an t'.names.length cn, .slice ak t'.keys.length ck, .bool t'.over, .int .i64 t'.limit, .slice at' t'.tests.length ct, .slice none 0 0, .slice none 0 0] 50) by rw [hW3]; exact (setAll_heap (b := w.heap.size + 1 + 1 + 1) [.int .i64 t'.kind, .int .i64 t'.mat, .int .i64 t'.part, .slice an t'.names.length cn, .slice ak t'.keys.length ck, .bool t'.over, .int .i64 t'.limit, .slice at' t'.tests.length ct] 2 w2 _ hc2.out).trans (by simp [putAll]))
    have hx3 := hid (show W3.heap[w.heap.size]? = some (.cells #[.int .i64 x.kind, .int .i64 x.a, .int .i64 x.b, .string (S x.s), .string (S x.t), .slice ai 0 ci] 29) by rw [hW3]; exact ((setAll_keeps (b := w.heap.size + 1 + 1 + 1) (Q := fun k => k ≠ w.heap.size + 1 + 1 + 1) (fun _ h => h) [.int .i64 t'.kind, .int .i64 t'.mat, .int .i64 t'.part, .slice an t'.names.length cn, .slice ak t'.keys.length ck, .bool t'.over, .int .i64 t'.limit, .slice at' t'.tests.length ct] 2 w2 w2 (Keeps.refl _ _)).block _ (by have := HSZ.out; have := hs2.out; omega) (by omega)).trans hx2.out)
    have hr3 := hid (show W3.heap[w.heap.size + 1]? = some (.cells #[.int .i64 0, .slice none 0 0, .int .i64 0, .int .i64 0, .int .i64 0, .slice none 0 0, .slice none 0 0, .bool false, .int .i64 0, .slice none 0 0, .slice none 0 0, .slice none 0 0] 50) by rw [hW3]; exact ((setAll_keeps (b := w.heap.size + 1 + 1 + 1) (Q := fun k => k ≠ w.heap.size + 1 + 1 + 1) (fun _ h => h) [.int .i64 t'.kind, .int .i64 t'.mat, .int .i64 t'.part, .slice an t'.names.length cn, .slice ak t'.keys.length ck, .bool t'.over, .int .i64 t'.limit, .slice at' t'.tests.length ct] 2 w2 w2 (Keeps.refl _ _)).block _ (by have := HSZ.out; have := hs2.out; omega) (by omega)).trans hr2.out)
    clear hW3
    go_wp2_with fail
    rw [HW3.out, HDW.out]
    have hsub := True.intro
    have hcall := HIC.out n [] ai ci W3 (rowM_nil _ _ _ _ _ _)
    rw [List.length_nil] at hcall
    refine hcall.mono ?_
    rintro e w4 ⟨L, a4, c4, rfl, hL, hNL, hL4, _, hb4⟩
    have hK34' : Keeps (fun k => W.heap.size ≤ k) W3 w4 := Keeps.of_below hb4
    have HL := hid hL
    have HNL := hid hNL
    have hs4 := hid hb4.size
    have hx4 := hid (below_heap hb4 hx3.out (by have := HSZ.out; have := hs2.out; have := hz3.out; omega))
    have hr4 := hid (below_heap hb4 hr3.out (by have := HSZ.out; have := hs2.out; have := hz3.out; omega))
    have hc4' := hid (below_heap hb4 hc3.out (by have := HSZ.out; have := hs2.out; have := hz3.out; omega))
    have HB4 := hid (HB3.out.trans (hb4.mono HB3.out.size))
    have z10 := (box12 hc4'.out).2.2.2.2.2.2.2.2.2.2.1
    have f10 := box_free hc4'.out 10
    have x5 := (box6 hx4.out).2.2.2.2.2
    clear hL hNL hb4 k0 k1 k2 k3 k4 k5 k6 k7 k8 k9 k10 k11 g0 g1 g2 g3 g4 g5 g6 g7 g8 g9 g10 g11 y5 hsub hcall
    obtain ⟨W5, hW5⟩ : ∃ W5, W5 = w4.setCell ⟨w.heap.size + 1 + 1 + 1, 10, none⟩ (.slice a4 L.length c4) := ⟨_, rfl⟩
    have HW5 := hid hW5
    have hK5 := hid (show Keeps (fun k => W.heap.size ≤ k) w4 W5 by rw [hW5]; exact Keeps.set w4 _ fun k (hk : W.heap.size ≤ k) => by show k ≠ w.heap.size + 1 + 1 + 1; have := HSZ.out; omega)
    have hz5 := hid (show W5.heap.size = w4.heap.size by rw [hW5]; simp [World.setCell])
    have HB5 := hid (show Below w.heap.size w W5 by rw [hW5]; exact HB4.out.setCell (by simp; omega) _)
    have hc5 := hid (show W5.heap[w.heap.size + 1 + 1 + 1]? = some (.cells #[.int .i64 2, .slice none 0 0, .int .i64 t'.kind, .int .i64 t'.mat, .int .i64 t'.part, .slice an t'.names.length cn, .slice ak t'.keys.length ck, .bool t'.over, .int .i64 t'.limit, .slice at' t'.tests.length ct, .slice a4 L.length c4, .slice none 0 0] 50) by rw [hW5]; exact (setCell_mark (i := 10) _ hc4'.out).trans (by simp))
    have hr5 := hid (show W5.heap[w.heap.size + 1]? = some (.cells #[.int .i64 0, .slice none 0 0, .int .i64 0, .int .i64 0, .int .i64 0, .slice none 0 0, .slice none 0 0, .bool false, .int .i64 0, .slice none 0 0, .slice none 0 0, .slice none 0 0] 50) by rw [hW5]; exact set_heap _ hr4.out (by show w.heap.size + 1 ≠ w.heap.size + 1 + 1 + 1; omega))
    clear hW5
    go_wp2_with fail
    rw [← HW5.out, HDW.out]
    have hrow2 := True.intro
    have hcall2 := HIC.out n [] ai ci W5 (rowM_nil _ _ _ _ _ _)
    rw [List.length_nil] at hcall2
    refine hcall2.mono ?_
    rintro e w6 ⟨L2, a6, c6, rfl, hL2, hNL2, hL24, _, hb6⟩
    have HL2 := hid hL2
    have HNL2 := hid hNL2
    have hs6 := hid hb6.size
    have hK6 := hid (show Keeps (fun k => W.heap.size ≤ k) W5 w6 from Keeps.of_below hb6)
    have hr6 := hid (below_heap hb6 hr5.out (by have := HSZ.out; have := hs2.out; have := hz3.out; have := hs4.out; have := hz5.out; omega))
    have hc6' := hid (below_heap hb6 hc5.out (by have := HSZ.out; have := hs2.out; have := hz3.out; have := hs4.out; have := hz5.out; omega))
    have HB6 := hid (HB5.out.trans (hb6.mono HB5.out.size))
    obtain ⟨r0, r1, r2, r3, r4, r5, r6, r7, r8, r9, r10, r11, f0, f1, f2, f3, f4, f5, f6, f7, f8, f9, f10, f11⟩ := box12 hr6.out
    obtain ⟨k0, k1, k2, k3, k4, k5, k6, k7, k8, k9, k10, k11, g0, g1, g2, g3, g4, g5, g6, g7, g8, g9, g10, g11⟩ := box12 hc6'.out
    clear hL2 hNL2 hb6 hcall2 hrow2 z10 x5
    go_wp2
    refine bodyPost_ret (v := .agg #[.int .i64 2, .slice none 0 0, .int .i64 t'.kind, .int .i64 t'.mat, .int .i64 t'.part, .slice an t'.names.length cn, .slice ak t'.keys.length ck, .bool t'.over, .int .i64 t'.limit, .slice at' t'.tests.length ct, .slice a4 L.length c4, .slice a6 L2.length c6]) (by simp [results, Tryz.results19, go_sem, *]) rfl ?_
    have hK7 : Keeps (fun k => W.heap.size ≤ k) w6 (w6.setCell ⟨w.heap.size + 1 + 1 + 1, 11, none⟩ (.slice a6 L2.length c6)) := Keeps.set w6 _ fun k (hk : W.heap.size ≤ k) => by show k ≠ w.heap.size + 1 + 1 + 1; have := HSZ.out; omega
    have hQ : ∀ k, W.heap.size ≤ k → w.heap.size + 1 < k := fun k hk => by have := HSZ.out; omega
    have hK46 := (hK5.out.trans hK6.out).trans hK7
    have hK34 := hid hK34'
    have hM7 : CmdM (fun b => w.heap.size + 1 < b) (m + 2) (w6.setCell ⟨w.heap.size + 1 + 1 + 1, 11, none⟩ (.slice a6 L2.length c6)) ⟨2, [], t', L, L2⟩ [.int .i64 2, .slice none 0 0, .int .i64 t'.kind, .int .i64 t'.mat, .int .i64 t'.part, .slice an t'.names.length cn, .slice ak t'.keys.length ck, .bool t'.over, .int .i64 t'.limit, .slice at' t'.tests.length ct, .slice a4 L.length c4, .slice a6 L2.length c6] := ⟨_, _, _, _, _, _, rfl, rowM_nil _ _ _ _ _ _, TstM.imp hQ ((hK3.out.trans hK34.out).trans hK46) _ _ _ HT.out, cmds_lift (hq := fun k hk => by have h1 : W3.heap.size ≤ k := hk; have := hs2.out; have := hz3.out; show W.heap.size ≤ k; omega) hQ hK46 HL.out, cmds_lift (hq := fun k hk => by have h1 : W5.heap.size ≤ k := hk; have := hs2.out; have := hz3.out; have := hs4.out; have := hz5.out; show W.heap.size ≤ k; omega) hQ hK7 HL2.out⟩
    exact CmdP.fin12 (W1 := w6.setCell ⟨w.heap.size + 1 + 1 + 1, 11, none⟩ (.slice a6 L2.length c6)) hM7 (NC.mk (by simp) (fun h => by cases h) (fun h => by rcases h with h | h <;> cases h) (fun h => by cases h) (fun n => (HN.out n).1) HNL.out HNL2.out (fit_if hL4 hL24) (fun _ => HN.out)) (HB6.out.setCell (by simp; omega) _) rfl

theorem cmd_of (d m : Nat) (iht : d < 2 → TestC 1 (m + 1)) (ihc : d < 2 → CmdsC (d + 1) (m + 1)) : CmdC d (m + 2) := by
  intro n x cs w h
  cases n with
  | zero => exact h.elim
  | succ n =>
  have hp := pickN_lt x.kind 12 (by omega)
  have go : ∀ p : Nat, p < 12 → pickN x.kind 12 = p → Calls Tryz.prog 19 #[.agg cs.toArray, .int .i64 d] w (CmdP (m + 2) w) := by
    intro p hp12 hpe
    have ife : ([3, 2, 5, 2, 6, 2, 4, 8, 9, 7, 10, 2] : List Nat)[pickN x.kind 12]? = some 2 → Calls Tryz.prog 19 #[.agg cs.toArray, .int .i64 d] w (CmdP (m + 2) w) := fun hi => by
      by_cases hd : d < 2
      · exact cmd_if d m n x cs w h hi hd (iht hd) (ihc hd)
      · exact cmd_deep d m n x cs w h hi hd
    match p, hp12 with
    | 0, _ => exact cmd_keep d m n x cs w h (by rw [hpe]; rfl)
    | 1, _ => exact ife (by rw [hpe]; rfl)
    | 2, _ => exact cmd_file d m n x cs w h (by rw [hpe]; rfl)
    | 3, _ => exact ife (by rw [hpe]; rfl)
    | 4, _ => exact cmd_redirect d m n x cs w h (by rw [hpe]; rfl)
    | 5, _ => exact ife (by rw [hpe]; rfl)
    | 6, _ => exact cmd_discard d m n x cs w h (by rw [hpe]; rfl)
    | 7, _ => exact cmd_setflag d m n x cs w h (by rw [hpe]; rfl)
    | 8, _ => exact cmd_addflag d m n x cs w h (by rw [hpe]; rfl)
    | 9, _ => exact cmd_reject d m n x cs w h (by rw [hpe]; rfl)
    | 10, _ => exact cmd_stop d m n x cs w h (by rw [hpe]; rfl)
    | 11, _ => exact ife (by rw [hpe]; rfl)
  exact go _ hp rfl


theorem OwnRow.next' {A : Type} {B k : Nat} {ty : TypeId} {P : (Nat → Prop) → World → A → List Value → Prop} (hP : Firm P) {w w' : World} {v : Value} {l : List A} (h : OwnRow B k ty P w v l) (hb : Below w.heap.size w w') : OwnRow B k ty P w' v l := by
  obtain ⟨css, h1, h2, h3, h4⟩ := h
  exact ⟨css, own_next h1 hb, h2, h3, fun i x cs hx hc => hP _ _ _ _ _ _ (fun b hq => ⟨hq.1, Nat.lt_of_lt_of_le hq.2.1 hb.size, hq.2.2⟩) (Keeps.of_below hb) (h4 i x cs hx hc)⟩
set_option maxHeartbeats 8000000 in
set_option maxRecDepth 100000 in
theorem cmds_of (d m : Nat) (ih : CmdC d m) : CmdsC d m := by
  intro n l a c w h
  have HR := hid h
  have HIH := hid ih
  have hlm : l.length ≤ maxLen := h.small
  unfold maxLen at hlm
  obtain ⟨i0, hi, hz0, hz1, hz2⟩ := info_parts infoCmd
  clear h ih
  go_enter Tryz.func14, Tryz.ntmps14
  go_wp2
  go_loopw [5, 6] (fun v i wr => ∃ (acc : List Cmd) (a0 : Option Addr) (c0 : Nat), acc.length ≤ l.length ∧ acc.length ≤ 4 ∧ i = .int .i64 acc.length ∧ v = .slice a0 acc.length c0 ∧
      Hid (OwnCs w.heap.size m wr (.slice a0 acc.length c0) acc) ∧ Hid (∀ u ∈ acc, NC u) ∧ Hid (Below w.heap.size w wr) ∧ Hid (acc = [] → a0 = none ∧ c0 = 0)) (fun _ i _ => 4 - (intOf i).toNat)
  case atStart => exact ⟨[], none, 0, Nat.zero_le _, Nat.zero_le _, rfl, rfl, hid (show OwnRow _ _ _ _ _ (.slice none 0 0) ([] : List Cmd) from OwnRow.nil _ _ _ _ _), (fun u hu => by cases hu), Below.refl _ _, fun _ => ⟨rfl, rfl⟩⟩
  case round =>
    obtain ⟨acc, a0, c0, hl1, hl3, rfl, rfl, HO, HN, HB, HE⟩ := hrel
    by_cases hlt : acc.length < l.length ∧ acc.length < 4
    · obtain ⟨hl, h3⟩ := hlt
      have i1 : (acc.length : Int) < (l.length : Int) := by omega
      have i2 : (acc.length : Int) < 4 := by omega
      have i3 : (0 : Int) ≤ (acc.length : Int) := by omega
      obtain ⟨a', c', hv, hsm, hrow⟩ := SticksM.next HR.out HB.out
      simp only [Value.slice.injEq, true_and] at hv
      obtain ⟨rfl, rfl⟩ := hv
      obtain ⟨y, hy⟩ : ∃ y, l[acc.length]? = some y := ⟨_, List.getElem?_eq_getElem hl⟩
      obtain ⟨b, o, cy, rfl, hbl, _, hly, hcy, hY⟩ := hrow _ y hy
      obtain ⟨ay, ky, rfl⟩ := stk_form hY
      have HY := hid hY
      have e0 : wr.cell? ⟨b, o + acc.length * 6, none⟩ = some (.int .i64 y.kind) := by simpa using hcy 0 _ rfl
      have e1 : wr.cell? ⟨b, o + acc.length * 6 + 1, none⟩ = some (.int .i64 y.a) := hcy 1 _ rfl
      have e2 : wr.cell? ⟨b, o + acc.length * 6 + 2, none⟩ = some (.int .i64 y.b) := hcy 2 _ rfl
      have e3 : wr.cell? ⟨b, o + acc.length * 6 + 3, none⟩ = some (.string (S y.s)) := hcy 3 _ rfl
      have e4 : wr.cell? ⟨b, o + acc.length * 6 + 4, none⟩ = some (.string (S y.t)) := hcy 4 _ rfl
      have e5 : wr.cell? ⟨b, o + acc.length * 6 + 5, none⟩ = some (.slice ay y.ins.length ky) := hcy 5 _ rfl
      clear hcy hrow hY hy
      go_wp2_with fail
      refine (HIH.out n y _ wr HY.out).mono ?_
      rintro e w2 ⟨t', cs', rfl, hT, hN, hb2⟩
      obtain ⟨ax, cx, an, cn, ak, ck, at', ct, aa, ca, ae, ce, m0, _, rfl, _⟩ := cmd_form hT
      have hs2 := hb2.size
      have hs0 := HB.out.size
      obtain ⟨css, k1, k2, k3, k4⟩ := HO.out.next' (firm_cmd m) hb2
      have hrow3 : ∀ k, (Value.slice a0 acc.length c0).ownBlock = some k → k < wr.heap.size := fun k hk => by
        obtain ⟨_, g1, _⟩ := HO.out
        exact (World.ownsRow.lt g1 k hk).2
      have HTT := hid (show CmdM (rowQ w.heap.size w2 (.slice a0 acc.length c0)) m w2 t' [.int .i64 t'.kind, .slice ax t'.texts.length cx, .int .i64 t'.test.kind, .int .i64 t'.test.mat, .int .i64 t'.test.part, .slice an t'.test.names.length cn, .slice ak t'.test.keys.length ck, .bool t'.test.over, .int .i64 t'.test.limit, .slice at' t'.test.tests.length ct, .slice aa t'.thn.length ca, .slice ae t'.els.length ce] from CmdM.imp (fun k hk => by
        have q1 : wr.heap.size ≤ k := hk.1
        have q2 : k < w2.heap.size := hk.2
        exact ⟨by omega, q2, fun e => by have := hrow3 k e.symm; omega⟩) (Keeps.refl _ _) _ _ _ (CmdM.both _ _ _ hT))
      have hone2 := cmd_one hT
      have HN2 := hid (show ∀ u ∈ acc ++ [t'], NC u from fun u hu => by
        rcases List.mem_append.1 hu with e | e
        · exact HN.out u e
        · simp at e; rw [e]; exact hN)
      have HB2 := hid (HB.out.trans (hb2.mono HB.out.size))
      have K1 := hid k1
      have K2 := hid k2
      have K3 := hid k3
      have K4 := hid k4
      have HRB := hid (show ∀ k, (Value.slice a0 acc.length c0).ownBlock = some k → w.heap.size ≤ k from fun k hk => (World.ownsRow.lt k1 k hk).1)
      clear hT hN hb2 k1 k2 k3 k4 e0 e1 e2 e3 e4 e5 hrow3
      go_wp2_with (at_builtin; refine wpList_append_lies _ rfl _ _ 47 rfl w.heap.size 50 i0 _ 12 192 Tryz.underlying47 hi hz0 hz1 hz2 rfl (by decide) (.slice a0 acc.length c0) acc.length css.flatten rfl (World.ownsRow.alloc (World.ownsRow.alloc K1.out _) _) ⟨w2.heap.size + 1, 0, none⟩ 1 1 [.int .i64 t'.kind, .slice ax t'.texts.length cx, .int .i64 t'.test.kind, .int .i64 t'.test.mat, .int .i64 t'.test.part, .slice an t'.test.names.length cn, .slice ak t'.test.keys.length ck, .bool t'.test.over, .int .i64 t'.test.limit, .slice at' t'.test.tests.length ct, .slice aa t'.thn.length ca, .slice ae t'.els.length ce] rfl rfl (eight' _ _ _ _ (by simp)) hone2 (by omega) ?c3 ?c4 ?c5 _ rfl ?_)
      case c3 => unfold maxLen; omega
      case c4 => omega
      case c5 => simp; omega
      intro g cap w5 hown' hgrow hat hlt5
      have hgal := grown2 hgrow
      have HO5 := hid (show OwnCs w.heap.size m w5 (.slice (some ⟨g, 0, none⟩) (acc.length + 1) cap) (acc ++ [t']) from
        OwnRow.more (firm_cmd m) (v := .slice a0 acc.length c0) (H := w2.heap.size + 2) K2.out K3.out K4.out HTT.out rfl hown' hgal (by
          rcases hat with e | e
          · exact .inl e.symm
          · exact .inr (by rw [e]; simp [Value.ownBlock])) (by omega))
      have HB5 := hid (show Below w.heap.size w w5 from HB2.out.grown hgal HB2.out.size (fun k hk => HRB.out k hk))
      clear hgrow hat hgal hown'
      go_wp2
      go_roundw
      case rel =>
        have hlen : (acc ++ [t']).length = acc.length + 1 := by simp
        have R : ∃ (acc' : List Cmd) (a0 : Option Addr) (c0 : Nat), acc'.length ≤ l.length ∧ acc'.length ≤ 4 ∧ Value.int .i64 ((acc.length : Int) + 1) = .int .i64 acc'.length ∧ Value.slice (some ⟨g, 0, none⟩) (acc.length + 1) cap = .slice a0 acc'.length c0 ∧
            Hid (OwnCs w.heap.size m w5 (.slice a0 acc'.length c0) acc') ∧ Hid (∀ u ∈ acc', NC u) ∧ Hid (Below w.heap.size w w5) ∧ Hid (acc' = [] → a0 = none ∧ c0 = 0) :=
          ⟨acc ++ [t'], some ⟨g, 0, none⟩, cap, by omega, by omega, by rw [hlen]; rfl, by rw [hlen], by rw [hlen]; exact HO5, HN2, HB5, fun e => by simp at e⟩
        first | exact R | ((repeat apply Exists.intro); exact ⟨R, rfl⟩) | (refine ⟨trivial, ?_⟩; (repeat apply Exists.intro); exact ⟨R, rfl⟩)
      case measure => simp [intOf]; omega
    · have HL := hid (show CmdsM (newB' w.heap.size) m wr (.slice a0 acc.length c0) acc from HO.out.rowM (firm_cmd m) (by unfold maxLen; omega))
      have hstop : ¬ acc.length < l.length ∨ (acc.length < l.length ∧ acc.length = 4) := by omega
      rcases hstop with hst | ⟨hst, hst3⟩
      · have i1 : ¬ (acc.length : Int) < (l.length : Int) := by omega
        clear hlt hst
        go_wp2
        go_ret
        exact ⟨acc, a0, c0, rfl, HL.out, HN.out, hl3, HE.out, HB.out⟩
      · have i1 : (acc.length : Int) < (l.length : Int) := by omega
        have i2 : ¬ (acc.length : Int) < 4 := by omega
        clear hlt hst hst3
        go_wp2
        go_ret
        exact ⟨acc, a0, c0, rfl, HL.out, HN.out, hl3, HE.out, HB.out⟩
theorem TestC.more {d m k : Nat} (h : TestC d m) (hk : m ≤ k) : TestC d k := fun n x cs w hs => (h n x cs w hs).mono fun _ _ ⟨t, cs', he, hT, hN, hB⟩ => ⟨t, cs', he, TstM.more _ _ _ _ hk hT, hN, hB⟩
theorem cmds2 : CmdsC 2 3 := cmds_of 2 3 (cmd_of 2 1 (fun h => by omega) fun h => by omega)
theorem cmds1 : CmdsC 1 4 := cmds_of 1 4 (cmd_of 1 2 (fun _ => test1) fun _ => cmds2)
theorem cmds0 : CmdsC 0 5 := cmds_of 0 5 (cmd_of 0 3 (fun _ => test1.more (by omega)) fun _ => cmds1)
end Go.Proofs.YtlcnfpeabnnjoaaGreatDoor
