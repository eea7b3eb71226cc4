/-
  The document's Check of sessions (P12.1): what the reference's functions do: the walks.
-/
import Derived.Test.YtkdmccgfehmoaaaLmChk
import Derived.Test.YtkdmccgfehmoaaaRefWho
namespace Go.Proofs.Ytkdmccgfehmoaaa
open Go.RowKit Go.Proofs

set_option maxHeartbeats 400000 in
theorem in3_any (x lo hi : Int) (w : World) : Calls Try.prog 14 #[.int .i64 x, .int .i64 lo, .int .i64 hi] w fun e w' => e = .returned (.bool (decide (lo ≤ x) && decide (x ≤ hi))) ∧ w' = w := by
  by_cases h1 : lo ≤ x
  · by_cases h2 : x ≤ hi
    · go_enter Try.func14, Try.ntmps14
      go_wp2
      go_ret
      exact ⟨ret_bool (by simp [h1, h2]), rfl⟩
    · go_enter Try.func14, Try.ntmps14
      go_wp2
      go_ret
      exact ⟨ret_bool (by simp [h2]), rfl⟩
  · go_enter Try.func14, Try.ntmps14
    go_wp2
    go_ret
    exact ⟨ret_bool (by simp; omega), rfl⟩
set_option maxHeartbeats 2000000 in
set_option maxRecDepth 100000 in
theorem addressIn_any (Q : Nat → Prop) (l : List Adr) (x : Adr) (a : Option Addr) (c : Nat) (w : World) (h : AdrsM Q w (.slice a l.length c) l) :
    Calls Try.prog 16 #[.slice a l.length c, .agg #[.string (S x.1), .string (S x.2)]] w fun e w' => e = .returned (.bool (l.contains x)) ∧ Below w.heap.size w w' := by
  have hm : l.length ≤ maxLen := by obtain ⟨_, _, _, hm, _⟩ := h; exact hm
  unfold maxLen at hm
  rw [← con_any]
  obtain ⟨W1, hW1⟩ : ∃ W1, W1 = w.alloc (.cells #[.string (S x.1), .string (S x.2)] 23) := ⟨_, rfl⟩
  have HWE := hid hW1
  have HB1 := hid (show Below w.heap.size w W1 by rw [hW1]; exact (Below.refl _ _).alloc (Nat.le_refl _) _)
  have c0 : W1.cell? ⟨w.heap.size, 0, none⟩ = some (.string (S x.1)) := by rw [hW1]; simp
  have c1 : W1.cell? ⟨w.heap.size, 1, none⟩ = some (.string (S x.2)) := by rw [hW1]; simp
  have HL := hid (h.next HB1.out)
  clear hW1 h
  have HN : Hid ((l.any fun z => decide (x = z)) = (l.drop 0).any fun z => decide (x = z)) := rfl
  obtain ⟨q, hq⟩ : ∃ q, q = l.any fun z => decide (x = z) := ⟨_, rfl⟩
  rw [← hq] at HN ⊢
  clear hq
  have HEQ := hid (fun y => adr_eql y x)
  go_enter Try.func16, Try.ntmps16
  go_wp2_with fail
  rw [← HWE.out]
  go_loopw [5] (fun v wr => ∃ i : Nat, i ≤ l.length ∧ v = .int .i64 i ∧ Hid (wr.heap = W1.heap) ∧ Hid (Below w.heap.size w wr) ∧ Hid (q = (l.drop i).any fun z => decide (x = z))) (fun v _ => l.length - (intOf v).toNat)
  case atStart => exact ⟨0, Nat.zero_le _, rfl, rfl, HB1, HN⟩
  case round =>
    obtain ⟨i, hi, rfl, HW, HB, HI⟩ := hrel
    have d0 := lm_same c0 HW.out
    have d1 := lm_same c1 HW.out
    have HLR := hid (HL.out.same HW.out)
    by_cases hlt : i < l.length
    · have i1 : (i : Int) < (l.length : Int) := by omega
      have i0 : (0 : Int) ≤ (i : Int) := by omega
      obtain ⟨y, hy⟩ : ∃ y, l[i]? = some y := ⟨_, List.getElem?_eq_getElem hlt⟩
      have HS := hid (con_step (x := x) hy)
      obtain ⟨b, o, rfl, _, _, e0, e1⟩ := adr_get HLR.out hy
      have eq1 : ∀ w : World, (binOp .eql 23 (.agg #[.string (S y.1), .string (S y.2)]) (.agg #[.string (S x.1), .string (S x.2)])).run Try.prog w = .ok (.bool (decide (y = x))) w := HEQ.out y
      clear hy
      by_cases hp : x = y
      · have HE := hid (show q = true by rw [HI.out, HS.out]; simp [hp])
        have ed : decide (y = x) = true := by simp [hp]
        rw [ed] at eq1
        clear hp ed
        go_wp2
        go_quiet (fail)
        go_wp2
        go_ret
        exact ⟨ret_bool HE.out.symm, wdrew HB.out _⟩
      · have HE := hid (show q = (l.drop (i + 1)).any fun z => decide (x = z) by rw [HI.out, HS.out]; simp [hp])
        have ed : decide (y = x) = false := by simp; exact fun e => hp e.symm
        rw [ed] at eq1
        clear hp ed
        go_wp2
        go_quiet (fail)
        go_wp2
        go_roundw
        case rel => first | exact ⟨i + 1, by omega, by go_num, HW, wdrew HB.out _, HE⟩ | ((repeat apply Exists.intro); exact ⟨⟨i + 1, by omega, by go_num, HW, wdrew HB.out _, HE⟩, rfl⟩) | (refine ⟨trivial, ?_⟩; (repeat apply Exists.intro); exact ⟨⟨i + 1, by omega, by go_num, HW, wdrew HB.out _, HE⟩, rfl⟩)
        case measure => simp [intOf]; omega
    · have i1 : ¬ (i : Int) < (l.length : Int) := by omega
      have HE := hid (show q = false by rw [HI.out, List.drop_eq_nil_of_le (by omega)]; rfl)
      go_wp2
      go_ret
      exact ⟨ret_bool HE.out.symm, HB.out⟩
theorem may_bad1 {s : Ses} (h : 5 < s.to.length ∨ 2000 < s.text.length) : mayS s = false := by
  cases hm : mayS s with
  | false => rfl
  | true =>
    obtain ⟨_, _, _, hg, ht⟩ := mayS_parts.1 hm
    rcases h with h | h
    · unfold goalsS at hg
      split at hg
      · have : s.to = [] := by simpa using hg
        rw [this] at h; simp at h
      · simp only [Bool.and_eq_true, decide_eq_true_eq] at hg
        omega
    · unfold textS at ht
      split at ht
      · simp at ht; omega
      · simp only [Bool.and_eq_true] at ht
        have : s.text = [] := by simpa using ht.1
        rw [this] at h; simp at h
end Go.Proofs.Ytkdmccgfehmoaaa
