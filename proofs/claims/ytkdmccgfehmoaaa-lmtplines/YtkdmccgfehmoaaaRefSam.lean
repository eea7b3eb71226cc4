/-
  What the laws' sameAddresses, sameLetters, sameSession and texts do with what is the same: the walks.
-/
import Derived.Test.YtkdmccgfehmoaaaLmLtr
import Derived.Test.YtkdmccgfehmoaaaWLmtpChecks
namespace Go.Proofs.Ytkdmccgfehmoaaa
open Go.RowKit Go.Proofs

set_option maxHeartbeats 1000000 in
set_option maxRecDepth 100000 in
theorem adr_neq (x : Adr) (w : World) : (binOp .neq 23 (.agg #[.string (S x.1), .string (S x.2)]) (.agg #[.string (S x.1), .string (S x.2)])).run Try.prog w = .ok (.bool false) w := by
  have e1 := lm_eq (S x.1)
  have e2 := lm_eq (S x.2)
  simp [go_sem, *]
set_option maxHeartbeats 1000000 in
set_option maxRecDepth 100000 in
theorem ltr_neq (x : Ltr) (w : World) : (binOp .neq 50 (.agg #[.string (S x.1.1), .string (S x.1.2), .string (S x.2.1.1), .string (S x.2.1.2), .string (S x.2.2)]) (.agg #[.string (S x.1.1), .string (S x.1.2), .string (S x.2.1.1), .string (S x.2.1.2), .string (S x.2.2)])).run Try.prog w = .ok (.bool false) w := by
  have e1 := lm_eq (S x.1.1)
  have e2 := lm_eq (S x.1.2)
  have e3 := lm_eq (S x.2.1.1)
  have e4 := lm_eq (S x.2.1.2)
  have e5 := lm_eq (S x.2.2)
  simp [go_sem, *]
set_option maxHeartbeats 1000000 in
set_option maxRecDepth 100000 in
theorem sameA_any (l : List Adr) (a1 a2 : Option Addr) (c1 c2 : Nat) (w : World) (h1 : AdrsM anyB w (.slice a1 l.length c1) l) (h2 : AdrsM anyB w (.slice a2 l.length c2) l) :
    Calls Try.prog 21 #[.slice a1 l.length c1, .slice a2 l.length c2] w fun e w' => e = .returned (.bool true) ∧ Below w.heap.size w w' := by
  have hm : l.length ≤ maxLen := by obtain ⟨_, _, _, hm, _⟩ := h1; exact hm
  unfold maxLen at hm
  have H1 := hid h1
  have H2 := hid h2
  clear h1 h2
  go_enter Try.func21, Try.ntmps21
  go_wp2
  go_loopw [5] (fun v wr => ∃ i : Nat, i ≤ l.length ∧ v = .int .i64 i ∧ Hid (Below w.heap.size w wr)) (fun v _ => l.length - (intOf v).toNat)
  case atStart => exact ⟨0, Nat.zero_le _, rfl, Below.refl _ _⟩
  case round =>
    obtain ⟨i, hi, rfl, HB⟩ := hrel
    by_cases hlt : i < l.length
    · have i1 : (i : Int) < (l.length : Int) := by omega
      have i0 : (0 : Int) ≤ (i : Int) := by omega
      obtain ⟨x, hx⟩ : ∃ x, l[i]? = some x := ⟨_, List.getElem?_eq_getElem hlt⟩
      obtain ⟨b, o, rfl, _, _, e0, e1⟩ := adr_get (H1.out.next HB.out) hx
      obtain ⟨b', o', rfl, _, _, e2, e3⟩ := adr_get (H2.out.next HB.out) hx
      have hA := fun w => adr_neq x w
      clear hx
      go_wp2_with fail
      go_region_held3 (fun u => u.cell? ⟨b, o + i * 2, none⟩ = some (.string (S x.1)) ∧ u.cell? ⟨b, o + i * 2 + 1, none⟩ = some (.string (S x.2)) ∧ u.cell? ⟨b', o' + i * 2, none⟩ = some (.string (S x.1)) ∧ u.cell? ⟨b', o' + i * 2 + 1, none⟩ = some (.string (S x.2))) (go_keep) (fail)
      all_goals
        go_wp2
        go_roundw
        case rel => first | exact ⟨i + 1, by omega, by simp, HB.out.drew⟩ | ((repeat apply Exists.intro); exact ⟨⟨i + 1, by omega, by simp, HB.out.drew⟩, rfl⟩)
        case measure => simp [intOf]; omega
    · have i1 : ¬ (i : Int) < (l.length : Int) := by omega
      go_wp2
      go_ret
      exact ⟨rfl, HB.out⟩
theorem ltrs_get {Q : Nat → Prop} {w : World} {a : Option Addr} {c : Nat} {l : List Ltr} (h : LtrsM Q w (.slice a l.length c) l) {i : Nat} {x : Ltr} (hx : l[i]? = some x) :
    ∃ b o, a = some ⟨b, o, none⟩ ∧ w.cell? ⟨b, o + i * 5, none⟩ = some (.string (S x.1.1)) ∧ w.cell? ⟨b, o + i * 5 + 1, none⟩ = some (.string (S x.1.2)) ∧ w.cell? ⟨b, o + i * 5 + 2, none⟩ = some (.string (S x.2.1.1)) ∧ w.cell? ⟨b, o + i * 5 + 3, none⟩ = some (.string (S x.2.1.2)) ∧ w.cell? ⟨b, o + i * 5 + 4, none⟩ = some (.string (S x.2.2)) := by
  obtain ⟨a', c', hv, _, hr⟩ := h
  simp only [Value.slice.injEq, true_and] at hv
  obtain ⟨rfl, rfl⟩ := hv
  obtain ⟨b, o, cs, rfl, hb, hQ, _, hc, hP⟩ := hr i x hx
  have hcs : cs = _ := hP
  subst hcs
  exact ⟨b, o, rfl, by simpa using hc 0 _ rfl, hc 1 _ rfl, hc 2 _ rfl, hc 3 _ rfl, hc 4 _ rfl⟩
theorem LtrsM.next {Q : Nat → Prop} {w w' : World} {v : Value} {l : List Ltr} (h : LtrsM Q w v l) (hb : Below w.heap.size w w') : LtrsM Q w' v l := RowM.imp h (fun _ h => h) (Keeps.of_below hb) fun _ _ h => h
set_option maxHeartbeats 1000000 in
set_option maxRecDepth 100000 in
theorem sameL_any (l : List Ltr) (a1 a2 : Option Addr) (c1 c2 : Nat) (w : World) (Q1 Q2 : Nat → Prop) (h1 : LtrsM Q1 w (.slice a1 l.length c1) l) (h2 : LtrsM Q2 w (.slice a2 l.length c2) l) :
    Calls Try.prog 12 #[.slice a1 l.length c1, .slice a2 l.length c2] w fun e w' => e = .returned (.bool true) ∧ Below w.heap.size w w' := by
  have hm : l.length ≤ maxLen := by obtain ⟨_, _, _, hm, _⟩ := h1; exact hm
  unfold maxLen at hm
  have H1 := hid h1
  have H2 := hid h2
  clear h1 h2
  go_enter Try.func12, Try.ntmps12
  go_wp2
  go_loopw [5] (fun v wr => ∃ i : Nat, i ≤ l.length ∧ v = .int .i64 i ∧ Hid (Below w.heap.size w wr)) (fun v _ => l.length - (intOf v).toNat)
  case atStart => exact ⟨0, Nat.zero_le _, rfl, Below.refl _ _⟩
  case round =>
    obtain ⟨i, hi, rfl, HB⟩ := hrel
    by_cases hlt : i < l.length
    · have i1 : (i : Int) < (l.length : Int) := by omega
      have i0 : (0 : Int) ≤ (i : Int) := by omega
      obtain ⟨x, hx⟩ : ∃ x, l[i]? = some x := ⟨_, List.getElem?_eq_getElem hlt⟩
      obtain ⟨b, o, rfl, e0, e1, e2, e3, e4⟩ := ltrs_get (H1.out.next HB.out) hx
      obtain ⟨b', o', rfl, f0, f1, f2, f3, f4⟩ := ltrs_get (H2.out.next HB.out) hx
      have hA := fun w => ltr_neq x w
      clear hx
      go_wp2_with fail
      go_region_held3 (fun u => u.cell? ⟨b, o + i * 5, none⟩ = some (.string (S x.1.1)) ∧ u.cell? ⟨b, o + i * 5 + 1, none⟩ = some (.string (S x.1.2)) ∧ u.cell? ⟨b, o + i * 5 + 2, none⟩ = some (.string (S x.2.1.1)) ∧ u.cell? ⟨b, o + i * 5 + 3, none⟩ = some (.string (S x.2.1.2)) ∧ u.cell? ⟨b, o + i * 5 + 4, none⟩ = some (.string (S x.2.2)) ∧ u.cell? ⟨b', o' + i * 5, none⟩ = some (.string (S x.1.1)) ∧ u.cell? ⟨b', o' + i * 5 + 1, none⟩ = some (.string (S x.1.2)) ∧ u.cell? ⟨b', o' + i * 5 + 2, none⟩ = some (.string (S x.2.1.1)) ∧ u.cell? ⟨b', o' + i * 5 + 3, none⟩ = some (.string (S x.2.1.2)) ∧ u.cell? ⟨b', o' + i * 5 + 4, none⟩ = some (.string (S x.2.2))) (go_keep) (fail)
      all_goals
        go_wp2
        go_roundw
        case rel => first | exact ⟨i + 1, by omega, by simp, HB.out.drew⟩ | ((repeat apply Exists.intro); exact ⟨⟨i + 1, by omega, by simp, HB.out.drew⟩, rfl⟩)
        case measure => simp [intOf]; omega
    · have i1 : ¬ (i : Int) < (l.length : Int) := by omega
      go_wp2
      go_ret
      exact ⟨rfl, HB.out⟩
set_option maxHeartbeats 1000000 in
set_option maxRecDepth 100000 in
theorem sameS_any (s : Ses) (a1 a2 : Option Addr) (c1 c2 : Nat) (w : World) (h1 : AdrsM anyB w (.slice a1 s.to.length c1) s.to) (h2 : AdrsM anyB w (.slice a2 s.to.length c2) s.to) :
    Calls Try.prog 11 #[.agg #[.int .i64 s.step, .string (S s.frm.1), .string (S s.frm.2), .slice a1 s.to.length c1, .string (S s.text), .bool s.large], .agg #[.int .i64 s.step, .string (S s.frm.1), .string (S s.frm.2), .slice a2 s.to.length c2, .string (S s.text), .bool s.large]] w fun e w' => e = .returned (.bool true) ∧ Below w.heap.size w w' := by
  obtain ⟨W1, hW1⟩ : ∃ W1, W1 = (w.alloc (.cells #[.int .i64 s.step, .string (S s.frm.1), .string (S s.frm.2), .slice a1 s.to.length c1, .string (S s.text), .bool s.large] 26)).alloc (.cells #[.int .i64 s.step, .string (S s.frm.1), .string (S s.frm.2), .slice a2 s.to.length c2, .string (S s.text), .bool s.large] 26) := ⟨_, rfl⟩
  have HWE := hid hW1
  have hB1 : Below w.heap.size w W1 := by rw [hW1]; exact ((Below.refl _ _).alloc (Nat.le_refl _) _).alloc (by simp) _
  have hX0 : W1.heap[w.heap.size]? = some (.cells #[.int .i64 s.step, .string (S s.frm.1), .string (S s.frm.2), .slice a1 s.to.length c1, .string (S s.text), .bool s.large] 26) := by rw [hW1]; exact lm_up0 _ _
  have hX1 : W1.heap[w.heap.size + 1]? = some (.cells #[.int .i64 s.step, .string (S s.frm.1), .string (S s.frm.2), .slice a2 s.to.length c2, .string (S s.text), .bool s.large] 26) := by rw [hW1]; exact lm_at1 _ _
  have HSA := hid (sameA_any s.to a1 a2 c1 c2 W1 (h1.next hB1) (h2.next hB1))
  obtain ⟨x0, x1, x2, x3, x4, x5⟩ := ses_box hX0
  obtain ⟨y0, y1, y2, y3, y4, y5⟩ := ses_box hX1
  have hA := fun w => adr_eql s.frm s.frm w
  have HB1 := hid hB1
  have HX0 := hid hX0
  have HX1 := hid hX1
  clear hW1 hB1 hX0 hX1 h1 h2
  go_enter Try.func11, Try.ntmps11
  go_upto_region 1 with fail
  rw [← HWE.out]
  go_wp2_with fail
  refine HSA.out.mono ?_
  rintro e w2 ⟨rfl, hb2⟩
  obtain ⟨p0, p1, p2, p3, p4, p5⟩ := ses_box (lm_next hb2 HX0.out)
  obtain ⟨q0, q1, q2, q3, q4, q5⟩ := ses_box (lm_next hb2 HX1.out)
  have HB2 := hid (HB1.out.trans (hb2.mono HB1.out.size))
  clear hb2 x0 x1 x2 x3 x4 x5 y0 y1 y2 y3 y4 y5
  go_wp2
  go_ret
  exact ⟨ret_bool (by simp), HB2.out⟩
end Go.Proofs.Ytkdmccgfehmoaaa
