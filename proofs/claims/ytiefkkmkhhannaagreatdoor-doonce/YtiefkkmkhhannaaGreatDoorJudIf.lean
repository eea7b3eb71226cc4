/-
  What judge.Do says of an If: the walk. And what is done twice.
-/
import Derived.Test.YtiefkkmkhhannaaGreatDoorJudFace
namespace Go.Proofs.YtiefkkmkhhannaaGreatDoor
open Go.RowKit Go.Proofs

set_option maxHeartbeats 4000000 in
set_option maxRecDepth 100000 in
theorem Do_if (c : Crs) (a : Option Addr) (k : Nat) (tk : Int) (w : World) (hl : c.acts.length ≤ 6) (hf0 : 0 ≤ c.flags) (hf1 : c.flags ≤ 31) :
    Calls Tryz.prog 11 #[.agg #[.slice a c.acts.length k, .int .i64 c.flags, .bool c.asked, .int .i64 c.fault], .agg #[.int .i64 2, .slice none 0 0, .int .i64 tk, .int .i64 0, .int .i64 0, .slice none 0 0, .slice none 0 0, .bool false, .int .i64 0, .slice none 0 0, .slice none 0 0, .slice none 0 0]] w fun e w' => e = .returned (.tuple #[.agg #[.slice none 0 0, .int .i64 0, .bool false, .int .i64 0], .bool false, .int .i64 2]) ∧ Below w.heap.size w w' := by
  obtain ⟨W0, hW0⟩ : ∃ W0, W0 = ((w.alloc (.cells #[.slice a c.acts.length k, .int .i64 c.flags, .bool c.asked, .int .i64 c.fault] 49)).alloc (.cells #[.int .i64 2, .slice none 0 0, .int .i64 tk, .int .i64 0, .int .i64 0, .slice none 0 0, .slice none 0 0, .bool false, .int .i64 0, .slice none 0 0, .slice none 0 0, .slice none 0 0] 55)).alloc (.cells #[.slice none 0 0, .int .i64 0, .bool false, .int .i64 0] 49) := ⟨_, rfl⟩
  have HWE := hid hW0
  have HB0 := hid (show Below w.heap.size w W0 by rw [hW0]; exact (((Below.refl _ _).alloc (Nat.le_refl _) _).alloc (by simp) _).alloc (by simp; omega) _)
  have hs0 : W0.heap.size = w.heap.size + 3 := by rw [hW0]; simp
  have HX0 := hid (show W0.heap[w.heap.size + 1]? = some (.cells #[.int .i64 2, .slice none 0 0, .int .i64 tk, .int .i64 0, .int .i64 0, .slice none 0 0, .slice none 0 0, .bool false, .int .i64 0, .slice none 0 0, .slice none 0 0, .slice none 0 0] 55) by rw [hW0]; exact heap_old _ (heap_at _ (by simp)))
  have HR0 := hid (show W0.heap[w.heap.size + 1 + 1]? = some (.cells #[.slice none 0 0, .int .i64 0, .bool false, .int .i64 0] 49) by rw [hW0]; exact heap_at _ (by simp))
  have HQ := hid (show (decide (c.acts.length ≤ 6) && (decide (0 ≤ c.flags) && decide (c.flags ≤ 31))) = true by simp [hl, hf0, hf1])
  clear hW0
  go_enter Tryz.func11, Tryz.ntmps11
  go_wp2_with fail
  rw [← HWE.out]
  refine (mayBe_any c a k W0).mono ?_
  rw [HQ.out]
  rintro e w1 ⟨rfl, hb1⟩
  simp only
  have HB1 := hid (HB0.out.trans (hb1.mono HB0.out.size))
  have hX := jlow hb1 HX0.out
  have hR := jlow hb1 HR0.out
  have g0 : w1.cell? ⟨w.heap.size + 1, 0, none⟩ = some (.int .i64 2) := by simp [World.cell?, hX]
  have z0 : w1.cell? ⟨w.heap.size + 1 + 1, 0, none⟩ = some (.slice none 0 0) := by simp [World.cell?, hR]
  have z1 : w1.cell? ⟨w.heap.size + 1 + 1, 1, none⟩ = some (.int .i64 0) := by simp [World.cell?, hR]
  have z2 : w1.cell? ⟨w.heap.size + 1 + 1, 2, none⟩ = some (.bool false) := by simp [World.cell?, hR]
  have z3 : w1.cell? ⟨w.heap.size + 1 + 1, 3, none⟩ = some (.int .i64 0) := by simp [World.cell?, hR]
  have zf : ∀ j, w1.frozen? ⟨w.heap.size + 1 + 1, j, none⟩ = false := by intro j; simp [World.frozen?, hR]
  clear HWE hX hR
  go_wp2
  refine bodyPost_ret (v := .tuple #[.agg #[.slice none 0 0, .int .i64 0, .bool false, .int .i64 0], .bool false, .int .i64 2]) (by simp [results, Tryz.results11, go_sem, *]) rfl ?_
  exact ⟨rfl, (((HB1.out.setCell (by simp; omega) _).setCell (by simp; omega) _).setCell (by simp; omega) _).setCell (by simp; omega) _⟩

/- What is asked for twice. -/
theorem ask_twice (c : Crs) (a : Atn) (hk : a.kind = 3 ∨ a.kind = 4 ∨ a.kind = 5 ∨ a.kind = 6) (hf : (askP c a).1.fault = 0) : askP (askP c a).1 a = askP c a := by
  have hc : clashP a.kind a.kind = false := by rcases hk with e | e | e | e <;> rw [e] <;> rfl
  have hs : sameP a a = true := by simp [sameP]
  by_cases h1 : c.acts.any (fun b => clashP a.kind b.kind) = true
  · have e : askP c a = (⟨c.acts, c.flags, true, 9⟩, true) := by unfold askP; rw [if_pos h1]
    rw [e] at hf
    cases hf
  by_cases h2 : c.acts.any (fun b => sameP a b) = true
  · have e : askP c a = (⟨c.acts, c.flags, true, c.fault⟩, false) := by unfold askP; rw [if_neg h1, if_pos h2]
    rw [e]
    show askP ⟨c.acts, c.flags, true, c.fault⟩ a = _
    unfold askP
    rw [if_neg h1, if_pos h2]
  by_cases h3 : 6 ≤ c.acts.length
  · have e : askP c a = (⟨c.acts, c.flags, true, 5⟩, true) := by unfold askP; rw [if_neg h1, if_neg h2, if_pos h3]
    rw [e] at hf
    cases hf
  · have e : askP c a = (⟨c.acts ++ [a], c.flags, true, c.fault⟩, false) := by unfold askP; rw [if_neg h1, if_neg h2, if_neg h3]
    rw [e]
    show askP ⟨c.acts ++ [a], c.flags, true, c.fault⟩ a = _
    unfold askP
    rw [if_neg (by simp only [List.any_append, List.any_cons, List.any_nil, Bool.or_false, hc]; exact h1), if_pos (by simp only [List.any_append, List.any_cons, List.any_nil, Bool.or_false, hs, Bool.or_true])]
theorem ask_over (c : Crs) (a : Atn) (h0 : c.fault = 0) (hf : (askP c a).1.fault ≠ 0) : (askP c a).2 = true := by
  unfold askP at hf ⊢
  split
  · rfl
  · rename_i h1
    rw [if_neg h1] at hf
    split
    · rename_i h2
      rw [if_pos h2] at hf
      exact absurd h0 hf
    · rename_i h2
      rw [if_neg h2] at hf
      split
      · rfl
      · rename_i h3
        rw [if_neg h3] at hf
        exact absurd h0 hf
theorem ask_flags (c : Crs) (a : Atn) : (askP c a).1.flags = c.flags := by
  unfold askP
  split
  · rfl
  · split
    · rfl
    · split <;> rfl
/-- P7.4: the same asked for twice is asked for once. -/
theorem goes_twice (c : Crs) (x : Cmd) (hk : x.kind = 3 ∨ x.kind = 4 ∨ x.kind = 5 ∨ x.kind = 6 ∨ x.kind = 8 ∨ x.kind = 9 ∨ x.kind = 10) : goesP (goesP c x).1 x = goesP c x := by
  by_cases h0 : c.fault = 0
  · have e0 : goesP c x = doP c x := by unfold goesP; rw [if_neg (by simpa using h0)]
    rw [e0]
    have hask : x.kind = 3 ∨ x.kind = 4 ∨ x.kind = 5 ∨ x.kind = 6 → goesP (doP c x).1 x = doP c x := by
      intro h
      have e1 : ∀ d : Crs, doP d x = askP d (actP d.flags x) := by
        intro d
        unfold doP
        rw [if_neg (by omega), if_neg (by omega), if_neg (by omega), if_neg (by omega)]
      rw [e1 c]
      by_cases hf : (askP c (actP c.flags x)).1.fault = 0
      · unfold goesP
        rw [if_neg (by simpa using hf), e1, ask_flags]
        exact ask_twice c _ h hf
      · unfold goesP
        rw [if_pos hf]
        have := ask_over c _ h0 hf
        rw [← this]
    rcases hk with h | h | h | h | h | h | h
    · exact hask (by omega)
    · exact hask (by omega)
    · exact hask (by omega)
    · exact hask (by omega)
    · have e1 : ∀ d : Crs, doP d x = (⟨d.acts, (flagsZ x.texts : Nat), d.asked, d.fault⟩, false) := by
        intro d
        unfold doP
        rw [if_neg (by omega), if_neg (by omega), if_pos h]
      rw [e1 c]
      unfold goesP
      rw [if_neg (by simpa using h0), e1]
    · have e1 : ∀ d : Crs, doP d x = (⟨d.acts, ((d.flags.toNat ||| flagsZ x.texts : Nat) : Int), d.asked, d.fault⟩, false) := by
        intro d
        unfold doP
        rw [if_neg (by omega), if_neg (by omega), if_neg (by omega), if_pos h]
      rw [e1 c]
      unfold goesP
      rw [if_neg (by simpa using h0), e1]
      simp only [Int.toNat_natCast, Nat.or_assoc, Nat.or_self]
    · have e1 : ∀ d : Crs, doP d x = (d, true) := by
        intro d
        unfold doP
        rw [if_neg (by omega), if_pos h]
      rw [e1 c]
      unfold goesP
      rw [if_neg (by simpa using h0), e1]
  · have e0 : goesP c x = (c, true) := by unfold goesP; rw [if_pos h0]
    rw [e0]
    exact e0
/-- P7.4: but Reject goes with nothing, not with itself. -/
theorem goes_reject (c : Crs) (x : Cmd) (hk : x.kind = 7) : (goesP c x).2 = false ∧ (goesP (goesP c x).1 x).2 = true ∧ (goesP (goesP c x).1 x).1.fault = 9 ∨ (goesP c x).2 = true ∧ goesP (goesP c x).1 x = goesP c x := by
  by_cases h0 : c.fault = 0
  · have e0 : goesP c x = doP c x := by unfold goesP; rw [if_neg (by simpa using h0)]
    have e1 : ∀ d : Crs, doP d x = askP d (actP d.flags x) := by
      intro d
      unfold doP
      rw [if_neg (by omega), if_neg (by omega), if_neg (by omega), if_neg (by omega)]
    rw [e0, e1 c]
    have hk' : (actP c.flags x).kind = 7 := hk
    obtain ⟨a, ha⟩ : ∃ a, a = actP c.flags x := ⟨_, rfl⟩
    rw [← ha] at hk' ⊢
    by_cases h1 : c.acts.any (fun b => clashP a.kind b.kind) = true
    · have e : askP c a = (⟨c.acts, c.flags, true, 9⟩, true) := by unfold askP; rw [if_pos h1]
      rw [e]
      exact Or.inr ⟨rfl, by unfold goesP; rw [if_pos (by show (9 : Int) ≠ 0; decide)]⟩
    by_cases h2 : c.acts.any (fun b => sameP a b) = true
    · exfalso
      apply h1
      rw [List.any_eq_true] at h2 ⊢
      obtain ⟨b, hb, hs⟩ := h2
      refine ⟨b, hb, ?_⟩
      simp only [sameP, Bool.and_eq_true, decide_eq_true_eq] at hs
      rw [← hs.1, hk']
      rfl
    by_cases h3 : 6 ≤ c.acts.length
    · have e : askP c a = (⟨c.acts, c.flags, true, 5⟩, true) := by unfold askP; rw [if_neg h1, if_neg h2, if_pos h3]
      rw [e]
      exact Or.inr ⟨rfl, by unfold goesP; rw [if_pos (by show (5 : Int) ≠ 0; decide)]⟩
    · have e : askP c a = (⟨c.acts ++ [a], c.flags, true, c.fault⟩, false) := by unfold askP; rw [if_neg h1, if_neg h2, if_neg h3]
      rw [e]
      have e2 : goesP ⟨c.acts ++ [a], c.flags, true, c.fault⟩ x = (⟨c.acts ++ [a], c.flags, true, 9⟩, true) := by
        unfold goesP
        rw [if_neg (by simpa using h0), e1]
        show askP ⟨c.acts ++ [a], c.flags, true, c.fault⟩ (actP c.flags x) = _
        rw [← ha]
        unfold askP
        rw [if_pos]
        simp [hk', clashP]
      exact Or.inl ⟨rfl, by rw [e2], by rw [e2]⟩
  · have e0 : goesP c x = (c, true) := by unfold goesP; rw [if_pos h0]
    rw [e0]
    exact Or.inr ⟨rfl, e0⟩
end Go.Proofs.YtiefkkmkhhannaaGreatDoor
