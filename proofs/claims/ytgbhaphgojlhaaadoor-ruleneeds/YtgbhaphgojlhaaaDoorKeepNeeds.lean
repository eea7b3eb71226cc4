/-
  What the laws' own needs and needsTest do: the walks.
-/
import Derived.Test.YtgbhaphgojlhaaaDoorScrCk
import Derived.Test.YtgbhaphgojlhaaaDoorRulPur
namespace Go.Proofs.YtgbhaphgojlhaaaDoor
open Go.RowKit Go.Proofs

set_option maxHeartbeats 8000000 in
set_option maxRecDepth 100000 in
theorem needsTest_any (n : Nat) : ∀ (t : Tst) (w : World) (an ak at' : Option Addr) (cn ck ct : Nat),
    TstM anyB n w t [.int .i64 t.kind, .int .i64 t.mat, .int .i64 t.part, .slice an t.names.length cn, .slice ak t.keys.length ck, .bool t.over, .int .i64 t.limit, .slice at' t.tests.length ct] →
    Calls Tryd.prog 25 #[.agg #[.int .i64 t.kind, .int .i64 t.mat, .int .i64 t.part, .slice an t.names.length cn, .slice ak t.keys.length ck, .bool t.over, .int .i64 t.limit, .slice at' t.tests.length ct]] w
      fun e w' => e = .returned (.bool (needsTP n t)) ∧ Below w.heap.size w w' := by
  induction n with
  | zero => intro t w an ak at' cn ck ct h; exact h.elim
  | succ n ih =>
    intro t w an ak at' cn ck ct hT
    obtain ⟨_, _, _, _, _, _, m, hm, he, h1, h2, h3⟩ := tst_form hT
    simp only [List.cons.injEq, Value.slice.injEq, true_and, and_true] at he
    obtain ⟨⟨rfl, rfl⟩, ⟨rfl, rfl⟩, rfl, rfl⟩ := he
    obtain rfl : n = m := by omega
    clear hm h1 h2 hT
    have H3 := hid h3
    have HIH := hid ih
    have hmx := h3.small
    unfold maxLen at hmx
    clear h3 ih
    obtain ⟨W0, hW0⟩ : ∃ W0, W0 = w.alloc (.cells #[.int .i64 t.kind, .int .i64 t.mat, .int .i64 t.part, .slice an t.names.length cn, .slice ak t.keys.length ck, .bool t.over, .int .i64 t.limit, .slice at' t.tests.length ct] 33) := ⟨_, rfl⟩
    have HB0 := hid (show Below w.heap.size w W0 by rw [hW0]; exact (Below.refl _ _).alloc (Nat.le_refl _) _)
    have hH : W0.heap[w.heap.size]? = some (.cells #[.int .i64 t.kind, .int .i64 t.mat, .int .i64 t.part, .slice an t.names.length cn, .slice ak t.keys.length ck, .bool t.over, .int .i64 t.limit, .slice at' t.tests.length ct] 33) := by rw [hW0]; exact heap_alloc_new w _
    have HWE := hid hW0
    clear hW0
    have g0 : W0.cell? ⟨w.heap.size, 0, none⟩ = some (.int .i64 t.kind) := by simp [World.cell?, hH]
    have g7 : W0.cell? ⟨w.heap.size, 7, none⟩ = some (.slice at' t.tests.length ct) := by simp [World.cell?, hH]
    clear hH
    have HR := hid (show needsTP (n + 1) t = ((t.tests.drop 0).any (needsTP n) || decide (t.kind = 8)) from rfl)
    go_enter Tryd.func25, Tryd.ntmps25
    go_wp2
    rw [← HWE.out]
    go_loopw [3] (fun v wr => ∃ i : Nat, i ≤ t.tests.length ∧ v = .int .i64 i ∧ Hid (Below w.heap.size w wr) ∧ Hid (Below W0.heap.size W0 wr) ∧ Hid (needsTP (n + 1) t = ((t.tests.drop i).any (needsTP n) || decide (t.kind = 8)))) (fun v _ => t.tests.length - (intOf v).toNat)
    case atStart => exact ⟨0, Nat.zero_le _, rfl, HB0, Below.refl _ _, HR⟩
    case round =>
      obtain ⟨i, hi, rfl, HB, HBW, hN⟩ := hrel
      have k0 := wcell_next g0 HBW.out
      have k7 := wcell_next g7 HBW.out
      by_cases hlt : i < t.tests.length
      · have i1 : (i : Int) < (t.tests.length : Int) := by omega
        have i3 : (0 : Int) ≤ (i : Int) := by omega
        obtain ⟨x, hx⟩ : ∃ x, t.tests[i]? = some x := ⟨_, List.getElem?_eq_getElem hlt⟩
        have HS := hid (show (t.tests.drop i).any (needsTP n) = (needsTP n x || (t.tests.drop (i + 1)).any (needsTP n)) by
          rw [List.drop_eq_getElem_cons hlt]
          rw [List.getElem?_eq_getElem hlt] at hx
          cases hx
          rfl)
        obtain ⟨b, o, an', cn', ak', ck', at2, ct2, rfl, hbl, e0, e1, e2, e3, e4, e5, e6, e7, hT⟩ := tst_at (H3.out.next HB.out) hx
        have HT := hid hT
        clear hx hT
        go_wp2_with fail
        refine (HIH.out x wr _ _ _ _ _ _ HT.out).mono ?_
        rintro e w2 ⟨rfl, hb2⟩
        have HB2 := hid (HB.out.trans (hb2.mono HB.out.size))
        have HB3 := hid (HBW.out.trans (hb2.mono HBW.out.size))
        clear hb2 e0 e1 e2 e3 e4 e5 e6 e7
        cases hy : needsTP n x with
        | true =>
          have HE := hid (show needsTP (n + 1) t = true by rw [hN.out, HS.out, hy]; simp)
          clear hy
          go_wp2
          go_ret
          exact ⟨ret_bool HE.out.symm, HB2.out⟩
        | false =>
          have HE := hid (show needsTP (n + 1) t = ((t.tests.drop (i + 1)).any (needsTP n) || decide (t.kind = 8)) by rw [hN.out, HS.out, hy]; simp)
          clear hy
          go_wp2
          case roundEnd => exact ⟨⟨i + 1, by omega, by go_num, HB2, HB3, HE⟩, by simp [intOf]; omega⟩
      · have i1 : ¬ (i : Int) < (t.tests.length : Int) := by omega
        have HE := hid (show needsTP (n + 1) t = decide (t.kind = 8) by rw [hN.out, List.drop_eq_nil_of_le (by omega)]; simp)
        by_cases h8 : t.kind = 8
        · have h8b : (t.kind == 8) = true := by simpa using h8
          have HE2 := hid (show needsTP (n + 1) t = true by rw [HE.out]; simpa using h8)
          clear h8
          go_wp2
          go_ret
          exact ⟨ret_bool HE2.out.symm, HB.out⟩
        · have h8b : (t.kind == 8) = false := by simpa using h8
          have HE2 := hid (show needsTP (n + 1) t = false by rw [HE.out]; simpa using h8)
          clear h8
          go_wp2
          go_ret
          exact ⟨ret_bool HE2.out.symm, HB.out⟩

def NeedC (n : Nat) : Prop := ∀ (l : List Cmd) (a : Option Addr) (k : Nat) (w : World), CmdsM anyB n w (.slice a l.length k) l →
    Calls Tryd.prog 14 #[.slice a l.length k] w fun e w' => e = .returned (.bool (l.any (needsP n))) ∧ Below w.heap.size w w'
theorem needsP_eq (n : Nat) (c : Cmd) : needsP (n + 1) c = (decide (c.kind = 5) || decide (c.kind = 7) || decide (c.kind = 8) || decide (c.kind = 9) || (decide (c.kind = 2) && (needsTP n c.test || c.thn.any (needsP n) || c.els.any (needsP n)))) := rfl
set_option maxHeartbeats 8000000 in
set_option maxRecDepth 100000 in
theorem needs_any (n : Nat) : NeedC n := by
  induction n with
  | zero =>
    intro l a k w h
    cases l with
    | nil =>
      go_enter Tryd.func14, Tryd.ntmps14
      go_wp2
      refine wp_loop_rounds 1 ?_
      rw [rounds_succ]
      go_wp2
      go_ret
      exact ⟨rfl, Below.refl _ _⟩
    | cons x r =>
      obtain ⟨_, _, _, _, hr⟩ := h
      obtain ⟨_, _, _, _, _, _, _, _, hP⟩ := hr 0 x rfl
      exact hP.elim
  | succ n ih =>
    intro l a k w h
    have HT := hid h
    have HIH := hid ih
    have hmx := h.small
    unfold maxLen at hmx
    have HR : Hid (l.any (needsP (n + 1)) = (l.drop 0).any (needsP (n + 1))) := rfl
    clear h ih
    go_enter Tryd.func14, Tryd.ntmps14
    go_wp2
    go_loopw [3] (fun v wr => ∃ i : Nat, i ≤ l.length ∧ v = .int .i64 i ∧ Hid (Below w.heap.size w wr) ∧ Hid (l.any (needsP (n + 1)) = (l.drop i).any (needsP (n + 1)))) (fun v _ => l.length - (intOf v).toNat)
    case atStart => exact ⟨0, Nat.zero_le _, rfl, Below.refl _ _, HR⟩
    case round =>
      obtain ⟨i, hi, rfl, HB, hN⟩ := hrel
      by_cases hlt : i < l.length
      · have i1 : (i : Int) < (l.length : Int) := by omega
        have i3 : (0 : Int) ≤ (i : Int) := by omega
        obtain ⟨x, hx⟩ : ∃ x, l[i]? = some x := ⟨_, List.getElem?_eq_getElem hlt⟩
        have HS := hid (show l.any (needsP (n + 1)) = (needsP (n + 1) x || (l.drop (i + 1)).any (needsP (n + 1))) by
          rw [hN.out, List.drop_eq_getElem_cons hlt]
          rw [List.getElem?_eq_getElem hlt] at hx
          cases hx
          rfl)
        rw [needsP_eq] at HS
        obtain ⟨b, o, ax, cx, an, cn, ak, ck, at', ct, aa, ca, ae, ce, rfl, hbl, e0, e1, e2, e3, e4, e5, e6, e7, e8, e9, e10, e11, hT⟩ := cmd_at (HT.out.next HB.out) hx
        obtain ⟨_, _, _, _, _, _, _, _, _, _, _, _, m, hm, he, h1, h2, h3, h4⟩ := cmd_form hT
        simp only [List.cons.injEq, Value.slice.injEq, true_and, and_true] at he
        obtain ⟨⟨rfl, rfl⟩, ⟨rfl, rfl⟩, ⟨rfl, rfl⟩, ⟨rfl, rfl⟩, ⟨rfl, rfl⟩, rfl, rfl⟩ := he
        obtain rfl : n = m := by omega
        have H2 := hid h2
        have H3 := hid h3
        have H4 := hid h4
        clear hm hT h1 h2 h3 h4 hx hN
        by_cases hb5 : x.kind = 5 ∨ x.kind = 7 ∨ x.kind = 8 ∨ x.kind = 9
        · have HE := hid (show l.any (needsP (n + 1)) = true by rw [HS.out]; rcases hb5 with h | h | h | h <;> simp [h])
          clear HS
          have hcase : (x.kind == 5) = true ∨ (x.kind == 5) = false ∧ (x.kind == 7) = true ∨ (x.kind == 5) = false ∧ (x.kind == 7) = false ∧ (x.kind == 8) = true ∨ (x.kind == 5) = false ∧ (x.kind == 7) = false ∧ (x.kind == 8) = false ∧ (x.kind == 9) = true := by
            rcases hb5 with h | h | h | h <;> simp [h]
          clear hb5
          rcases hcase with q5 | ⟨q5, q7⟩ | ⟨q5, q7, q8⟩ | ⟨q5, q7, q8, q9⟩
          all_goals
            go_wp2
            go_ret
            exact ⟨ret_bool HE.out.symm, HB.out⟩
        · have q5 : (x.kind == 5) = false := by simp; omega
          have q7 : (x.kind == 7) = false := by simp; omega
          have q8 : (x.kind == 8) = false := by simp; omega
          have q9 : (x.kind == 9) = false := by simp; omega
          by_cases hb2 : x.kind = 2
          · have q2 : (x.kind == 2) = true := by simpa using hb2
            have HS2 := hid (show l.any (needsP (n + 1)) = (needsTP n x.test || x.thn.any (needsP n) || x.els.any (needsP n) || (l.drop (i + 1)).any (needsP (n + 1))) by rw [HS.out]; simp [hb2])
            clear hb2 hb5 HS
            go_wp2_with fail
            refine (needsTest_any n x.test wr an ak at' cn ck ct H2.out).mono ?_
            rintro e w2 ⟨rfl, hb2⟩
            have HB2 := hid (HB.out.trans (hb2.mono HB.out.size))
            have d10 := wcell_next e10 hb2
            have d11 := wcell_next e11 hb2
            have HC3 := hid (CmdsM.next H3.out hb2)
            have HC4 := hid (CmdsM.next H4.out hb2)
            clear hb2 e0 e1 e2 e3 e4 e5 e6 e7 e8 e9 e10 e11
            cases hy : needsTP n x.test with
            | true =>
              have HE := hid (show l.any (needsP (n + 1)) = true by rw [HS2.out, hy]; simp)
              clear hy
              go_wp2
              go_ret
              exact ⟨ret_bool HE.out.symm, HB2.out⟩
            | false =>
              rw [hy] at HS2
              clear hy
              go_wp2_with fail
              refine (HIH.out x.thn aa ca w2 HC3.out).mono ?_
              rintro e w3 ⟨rfl, hb3⟩
              have HB3 := hid (HB2.out.trans (hb3.mono HB2.out.size))
              have f11 := wcell_next d11 hb3
              have HD4 := hid (CmdsM.next HC4.out hb3)
              clear hb3 d10 d11
              cases hz : x.thn.any (needsP n) with
              | true =>
                have HE := hid (show l.any (needsP (n + 1)) = true by rw [HS2.out, hz]; simp)
                clear hz
                go_wp2
                go_ret
                exact ⟨ret_bool HE.out.symm, HB3.out⟩
              | false =>
                rw [hz] at HS2
                clear hz
                go_wp2_with fail
                refine (HIH.out x.els ae ce w3 HD4.out).mono ?_
                rintro e w4 ⟨rfl, hb4⟩
                have HB4 := hid (HB3.out.trans (hb4.mono HB3.out.size))
                clear hb4 f11
                cases hv : x.els.any (needsP n) with
                | true =>
                  have HE := hid (show l.any (needsP (n + 1)) = true by rw [HS2.out, hv]; simp)
                  clear hv
                  go_wp2
                  go_ret
                  exact ⟨ret_bool HE.out.symm, HB4.out⟩
                | false =>
                  have HE := hid (show l.any (needsP (n + 1)) = (l.drop (i + 1)).any (needsP (n + 1)) by rw [HS2.out, hv]; simp)
                  clear hv
                  go_wp2
                  case roundEnd => exact ⟨⟨i + 1, by omega, by go_num, HB4, HE⟩, by simp [intOf]; omega⟩
          · have q2 : (x.kind == 2) = false := by simpa using hb2
            have HE := hid (show l.any (needsP (n + 1)) = (l.drop (i + 1)).any (needsP (n + 1)) by rw [HS.out]; simp at q5 q7 q8 q9; simp [q5, q7, q8, q9, hb2])
            clear hb2 hb5 HS
            go_wp2
            case roundEnd => exact ⟨⟨i + 1, by omega, by go_num, HB, HE⟩, by simp [intOf]; omega⟩
      · have i1 : ¬ (i : Int) < (l.length : Int) := by omega
        have HE := hid (show l.any (needsP (n + 1)) = false by rw [hN.out, List.drop_eq_nil_of_le (by omega)]; rfl)
        go_wp2
        go_ret
        exact ⟨ret_bool HE.out.symm, HB.out⟩
end Go.Proofs.YtgbhaphgojlhaaaDoor
