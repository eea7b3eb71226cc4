/-
  What who.Check does: the walk.
-/
import Derived.Test.YtkdngmhcfkfppaaGreatDoorWhoCheck
namespace Go.Proofs.YtkdngmhcfkfppaaGreatDoor
open Go.RowKit

theorem drew_below (w : World) (n : Nat) : Below w.heap.size w (w.drewN n) := wdrew (Below.refl _ _) n

set_option maxHeartbeats 2000000 in
theorem check_any (l d : ByteArray) (w : World) (hl : l.size ≤ 140737488355328) (hd : d.size ≤ 140737488355328) :
    Calls Tryz.prog 29 #[.agg #[.string l, .string d]] w fun e w' => e = .returned (.int .i64 (checkA l.data.toList d.data.toList)) ∧ Below w.heap.size w w' := by
  have H1 : Hid (l.size ≤ maxLen) := by unfold Hid maxLen; omega
  have H2 : Hid (d.size ≤ maxLen) := by unfold Hid maxLen; omega
  have HC : Hid (checkA l.data.toList d.data.toList = if (dottedB l.data.toList && dottedB d.data.toList) = false then 3 else if 100 < l.size + 1 + d.size then 1 else 0) := by
    unfold Hid checkA; rw [size_list, size_list]
  have hN : Below w.heap.size w (w.alloc (.cells #[.string l, .string d] 31)) := (Below.refl _ _).alloc (Nat.le_refl _) _
  have HN : Hid _ := hN
  clear hN
  cases h1 : dottedB l.data.toList with
  | false =>
    rw [h1] at HC
    have HE : Hid _ := h1
    clear h1
    go_enter Tryz.func29, Tryz.ntmps29
    go_wp2_with fail
    refine (isDotted_any l _ H1.out).mono ?_
    rintro e u ⟨rfl, n, hu⟩
    have hu' := hu.symm
    subst hu'
    rw [HE.out]
    go_wp2
    go_ret
    exact ⟨ret_int (by rw [HC.out]; rfl), wdrew HN.out _⟩
  | true =>
    rw [h1] at HC
    have HE : Hid _ := h1
    clear h1
    have hc : ∀ n, ((w.alloc (.cells #[.string l, .string d] 31)).drewN n).cell? ⟨w.heap.size, 1, none⟩ = some (.string d) := fun n => by
      show (w.alloc _).cell? _ = _; simp
    cases h2 : dottedB d.data.toList with
    | false =>
      rw [h2] at HC
      have HF : Hid _ := h2
      clear h2
      go_enter Tryz.func29, Tryz.ntmps29
      go_wp2_with fail
      refine (isDotted_any l _ H1.out).mono ?_
      rintro e u ⟨rfl, n, hu⟩
      have hu' := hu.symm
      subst hu'
      rw [HE.out]
      have hc1 := hc n
      go_wp2_with fail
      refine (isDotted_any d _ H2.out).mono ?_
      rintro e u2 ⟨rfl, n2, hu2⟩
      have hu2' := hu2.symm
      subst hu2'
      rw [HF.out]
      go_wp2
      go_ret
      exact ⟨ret_int (by rw [HC.out]; rfl), by first | exact wdrew (wdrew HN.out _) _ | exact wdrew HN.out _⟩
    | true =>
      rw [h2] at HC
      have HF : Hid _ := h2
      clear h2
      have hc0 : ∀ n m, (((w.alloc (.cells #[.string l, .string d] 31)).drewN n).drewN m).cell? ⟨w.heap.size, 0, none⟩ = some (.string l) := fun n m => by
        show (w.alloc _).cell? _ = _; simp
      have hc2 : ∀ n m, (((w.alloc (.cells #[.string l, .string d] 31)).drewN n).drewN m).cell? ⟨w.heap.size, 1, none⟩ = some (.string d) := fun n m => by
        show (w.alloc _).cell? _ = _; simp
      go_enter Tryz.func29, Tryz.ntmps29
      go_wp2_with fail
      refine (isDotted_any l _ H1.out).mono ?_
      rintro e u ⟨rfl, n, hu⟩
      have hu' := hu.symm
      subst hu'
      rw [HE.out]
      have hc1 := hc n
      go_wp2_with fail
      refine (isDotted_any d _ H2.out).mono ?_
      rintro e u2 ⟨rfl, n2, hu2⟩
      have hu2' := hu2.symm
      subst hu2'
      rw [HF.out]
      have d0 := hc0 n n2
      have d1 := hc2 n n2
      clear hc0 hc2 hc
      by_cases hz : 100 < l.size + 1 + d.size
      · have hz' : (100 : Int) < (l.size : Int) + 1 + (d.size : Int) := by omega
        rw [if_pos hz] at HC
        clear hz
        go_wp2
        go_ret
        exact ⟨ret_int (by rw [HC.out]; rfl), by first | exact wdrew (wdrew HN.out _) _ | exact wdrew HN.out _⟩
      · have hz' : ¬ (100 : Int) < (l.size : Int) + 1 + (d.size : Int) := by omega
        rw [if_neg hz] at HC
        clear hz
        go_wp2
        go_ret
        exact ⟨ret_int (by rw [HC.out]; rfl), by first | exact wdrew (wdrew HN.out _) _ | exact wdrew HN.out _⟩

/-- P3.3. -/
def partM (k : Int) (l d : List UInt8) : List UInt8 × Int :=
  if checkA l d ≠ 0 then ([], checkA l d) else if k = 1 then (l ++ 64 :: d, 0) else if k = 2 then (l, 0) else if k = 3 then (d, 0) else ([], 2)
theorem at_text (l d : ByteArray) : l ++ ⟨#[64]⟩ ++ d = S (l.data.toList ++ 64 :: d.data.toList) := by
  rw [← S_list (l ++ ⟨#[64]⟩ ++ d)]
  simp

theorem checkA_len {l d : List UInt8} (h : checkA l d = 0) : l.length + 1 + d.length ≤ 100 := by
  unfold checkA at h
  split at h
  · cases h
  · split at h
    · cases h
    · omega
end Go.Proofs.YtkdngmhcfkfppaaGreatDoor
