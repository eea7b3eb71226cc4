/-
  The reference's ActFault: the walk.
-/
import Derived.Test.YtmdlfokmcikilaaPoChk
namespace Go.Proofs.Ytmdlfokmcikilaa
open Go.RowKit Go.Proofs

set_option maxHeartbeats 1000000 in
theorem pin_any (n lo hi : Int) (b : Bool) (hb : b = decide (lo ≤ n ∧ n ≤ hi)) (w : World) : Calls Try.prog 8 #[.int .i64 n, .int .i64 lo, .int .i64 hi] w fun e w' => e = .returned (.bool b) ∧ w' = w := by
  by_cases h1 : lo ≤ n
  · by_cases h2 : n ≤ hi
    · obtain rfl : b = true := by rw [hb]; simp [h1, h2]
      clear hb
      go_enter Try.func8, Try.ntmps8
      go_wp2
      go_ret
      exact ⟨rfl, rfl⟩
    · obtain rfl : b = false := by rw [hb]; simp [h2]
      clear hb
      go_enter Try.func8, Try.ntmps8
      go_wp2
      go_ret
      exact ⟨rfl, rfl⟩
  · obtain rfl : b = false := by rw [hb]; simp [h1]
    clear hb
    go_enter Try.func8, Try.ntmps8
    go_wp2
    go_ret
    exact ⟨rfl, rfl⟩

/-- An entry held against the empty one. -/
def entQ (b : Bool) (ek eu ef : Int) (eb eg et : List UInt8) : Prop := ∀ v : World, (binOp .neq 23 (.agg #[.int .i64 ek, .string (S eb), .int .i64 eu, .int .i64 ef, .string (S eg), .string (S et)]) (.agg #[.int .i64 0, .string ⟨#[]⟩, .int .i64 0, .int .i64 0, .string ⟨#[]⟩, .string ⟨#[]⟩])).run Try.prog v = .ok (.bool b) v
theorem S_some' {l : List UInt8} (h : ¬ l = []) : ¬ (S l : ByteArray).toList = [] := by rw [Lib.toList_data, list_S]; exact h
set_option maxHeartbeats 1000000 in
set_option maxRecDepth 100000 in
theorem ent_zero (ek eu ef : Int) (eb eg et : List UInt8) (h : entZ ek eu ef eb eg et) : entQ false ek eu ef eb eg et := by
  obtain ⟨rfl, rfl, rfl, rfl, rfl, rfl⟩ := h
  intro v
  have e1 := pbytes_eq (S [])
  have e2 := pbytes_eq ⟨#[]⟩
  have e3 : (S [] : ByteArray) = ⟨#[]⟩ := rfl
  rw [e3]
  simp [go_sem, *]
set_option maxHeartbeats 2000000 in
set_option maxRecDepth 100000 in
theorem ent_some (ek eu ef : Int) (eb eg et : List UInt8) (h : ¬ entZ ek eu ef eb eg et) : entQ true ek eu ef eb eg et := by
  intro v
  have e0 := pbytes_eq ⟨#[]⟩
  by_cases h1 : ek = 0
  · subst h1
    by_cases h2 : eb = []
    · subst h2
      have e3 : (S [] : ByteArray) = ⟨#[]⟩ := rfl
      rw [e3]
      by_cases h3 : eu = 0
      · subst h3
        by_cases h4 : ef = 0
        · subst h4
          by_cases h5 : eg = []
          · subst h5
            rw [e3]
            have e6 := S_some' (fun h6 : et = [] => h ⟨rfl, rfl, rfl, rfl, rfl, h6⟩)
            clear h
            simp [go_sem, *]
          · have e5 := S_some' h5
            clear h h5
            simp [go_sem, *]
        · have e4 : (ef == 0) = false := by rw [beq_eq_false_iff_ne]; exact h4
          clear h h4
          simp [go_sem, *]
      · have e4 : (eu == 0) = false := by rw [beq_eq_false_iff_ne]; exact h3
        clear h h3
        simp [go_sem, *]
    · have e5 := S_some' h2
      clear h h2
      simp [go_sem, *]
  · have e4 : (ek == 0) = false := by rw [beq_eq_false_iff_ne]; exact h1
    clear h h1
    simp [go_sem, *]
-- KINDS
set_option maxHeartbeats 2000000 in
set_option maxRecDepth 100000 in
theorem rfault_1 (c u p ek eu ef : Int) (d eb eg et : List UInt8) (hd : d.length ≤ 9223372036854775807) (w : World) : Calls Try.prog 5 #[.agg #[.int .i64 1, .int .i64 c, .int .i64 u, .int .i64 p, .string (S d), .int .i64 ek, .string (S eb), .int .i64 eu, .int .i64 ef, .string (S eg), .string (S et)]] w fun e w' => ChP 1 c u p d (entZ ek eu ef eb eg et) e ∧ Below w.heap.size w w' := by
  have HB1 := hidp (show ∀ o, Below w.heap.size w (w.alloc o) from fun o => (Below.refl _ _).alloc (Nat.le_refl _) _)
  have HSZ := hidp (size_S d)
  have HD := hidp hd
  clear hd
  have HQ := hidp (show decide ((1 : Int) ≤ 1 ∧ (1 : Int) ≤ 5) = true by decide)
  go_enter Try.func5, Try.ntmps5
  go_wp2_with fail
  refine (pin_any _ _ _ true HQ.out.symm _).mono ?_
  rintro e w' ⟨rfl, rfl⟩
  obtain ⟨q, hq⟩ : ∃ q, q = decide ((0 : Int) ≤ c ∧ c ≤ 2) := ⟨_, rfl⟩
  have HQ1 := hidp hq
  clear hq
  go_wp2_with fail
  refine (pin_any _ _ _ q HQ1.out _).mono ?_
  rintro e w' ⟨rfl, rfl⟩
  have hq := HQ1.out
  clear HQ1
  cases q
  · have HNR := hidp (show ¬ actR 1 c u p from fun h => of_decide_eq_false hq.symm (h.1 rfl))
    clear hq
    go_wp2
    go_ret
    exact ⟨⟨6, rfl, Or.inr ⟨by decide, Or.inl ⟨HNR.out, rfl⟩⟩⟩, HB1.out _⟩
  have HR := hidp (show actR 1 c u p from ⟨fun _ => of_decide_eq_true hq.symm, fun h => absurd h (by decide), fun h => absurd h (by decide)⟩)
  clear hq
  by_cases hl : 3000 < d.length
  · have hl' : (3000 : Int) < ((S d).size : Int) := by rw [HSZ.out]; omega
    have HL := hidp hl
    clear hl
    go_wp2
    go_ret
    exact ⟨⟨1, rfl, Or.inr ⟨by decide, Or.inr ⟨HR.out, Or.inl ⟨rfl, HL.out, rfl⟩⟩⟩⟩, HB1.out _⟩
  have hl' : ¬ (3000 : Int) < ((S d).size : Int) := by rw [HSZ.out]; omega
  have HL := hidp hl
  clear hl
  go_upto_region 10 with fail
  by_cases hp : p = 0
  rotate_left
  · have HP := hidp hp
    have ep : (p == 0) = false := by rw [beq_eq_false_iff_ne]; exact hp
    go_wp2
    go_ret
    exact ⟨⟨3, rfl, Or.inr ⟨by decide, Or.inr ⟨HR.out, Or.inr ⟨fun h => HL.out h.2, Or.inl ⟨fun h => HP.out (h.2.1.resolve_left (by decide)), rfl⟩⟩⟩⟩⟩, HB1.out _⟩
  subst hp
  by_cases hu : u = 0
  rotate_left
  · have HU := hidp hu
    have eu : (u == 0) = false := by rw [beq_eq_false_iff_ne]; exact hu
    go_wp2
    go_ret
    exact ⟨⟨3, rfl, Or.inr ⟨by decide, Or.inr ⟨HR.out, Or.inr ⟨fun h => HL.out h.2, Or.inl ⟨fun h => HU.out (h.2.2.resolve_left (by decide)).1, rfl⟩⟩⟩⟩⟩, HB1.out _⟩
  subst hu
  by_cases hz : entZ ek eu ef eb eg et
  rotate_left
  · have hne := ent_some ek eu ef eb eg et hz
    unfold entQ at hne
    have HZ := hidp hz
    clear hz
    go_wp2
    go_ret
    exact ⟨⟨3, rfl, Or.inr ⟨by decide, Or.inr ⟨HR.out, Or.inr ⟨fun h => HL.out h.2, Or.inl ⟨fun h => HZ.out (h.2.2.resolve_left (by decide)).2, rfl⟩⟩⟩⟩⟩, HB1.out _⟩
  have hne := ent_zero ek eu ef eb eg et hz
  unfold entQ at hne
  have HZ := hidp hz
  clear hz
  go_wp2
  go_ret
  exact ⟨⟨0, rfl, Or.inr ⟨by decide, Or.inr ⟨HR.out, Or.inr ⟨fun h => HL.out h.2, Or.inr ⟨⟨Or.inl rfl, Or.inr rfl, Or.inr ⟨rfl, HZ.out⟩⟩, rfl⟩⟩⟩⟩⟩, HB1.out _⟩
set_option maxHeartbeats 2000000 in
set_option maxRecDepth 100000 in
theorem rfault_2 (c u p ek eu ef : Int) (d eb eg et : List UInt8) (hd : d.length ≤ 9223372036854775807) (w : World) : Calls Try.prog 5 #[.agg #[.int .i64 2, .int .i64 c, .int .i64 u, .int .i64 p, .string (S d), .int .i64 ek, .string (S eb), .int .i64 eu, .int .i64 ef, .string (S eg), .string (S et)]] w fun e w' => ChP 2 c u p d (entZ ek eu ef eb eg et) e ∧ Below w.heap.size w w' := by
  have HB1 := hidp (show ∀ o, Below w.heap.size w (w.alloc o) from fun o => (Below.refl _ _).alloc (Nat.le_refl _) _)
  have HSZ := hidp (size_S d)
  have HD := hidp hd
  clear hd
  have HQ := hidp (show decide ((1 : Int) ≤ 2 ∧ (2 : Int) ≤ 5) = true by decide)
  go_enter Try.func5, Try.ntmps5
  go_wp2_with fail
  refine (pin_any _ _ _ true HQ.out.symm _).mono ?_
  rintro e w' ⟨rfl, rfl⟩
  have HR := hidp (show actR 2 c u p from ⟨fun h => absurd h (by decide), fun h => absurd h (by decide), fun h => absurd h (by decide)⟩)
  go_upto_region 10 with fail
  by_cases hc : c = 0
  rotate_left
  · have HC := hidp hc
    have ec : (c == 0) = false := by rw [beq_eq_false_iff_ne]; exact hc
    go_wp2
    go_ret
    exact ⟨⟨3, rfl, Or.inr ⟨by decide, Or.inr ⟨HR.out, Or.inr ⟨fun h => absurd h.1 (by decide), Or.inl ⟨fun h => HC.out (h.1.resolve_left (by decide)).1, rfl⟩⟩⟩⟩⟩, HB1.out _⟩
  subst hc
  obtain rfl | ⟨x, y, rfl⟩ : d = [] ∨ ∃ x y, d = x :: y := by cases d; exact Or.inl rfl; exact Or.inr ⟨_, _, rfl⟩
  rotate_left
  · have ed := S_some x y
    go_wp2
    go_ret
    exact ⟨⟨3, rfl, Or.inr ⟨by decide, Or.inr ⟨HR.out, Or.inr ⟨fun h => absurd h.1 (by decide), Or.inl ⟨fun h => absurd (h.1.resolve_left (by decide)).2 (by simp), rfl⟩⟩⟩⟩⟩, HB1.out _⟩
  have ed := S_none
  by_cases hp : p = 0
  rotate_left
  · have HP := hidp hp
    have ep : (p == 0) = false := by rw [beq_eq_false_iff_ne]; exact hp
    go_wp2
    go_ret
    exact ⟨⟨3, rfl, Or.inr ⟨by decide, Or.inr ⟨HR.out, Or.inr ⟨fun h => absurd h.1 (by decide), Or.inl ⟨fun h => HP.out (h.2.1.resolve_left (by decide)), rfl⟩⟩⟩⟩⟩, HB1.out _⟩
  subst hp
  by_cases hu : u = 0
  rotate_left
  · have HU := hidp hu
    have eu : (u == 0) = false := by rw [beq_eq_false_iff_ne]; exact hu
    go_wp2
    go_ret
    exact ⟨⟨3, rfl, Or.inr ⟨by decide, Or.inr ⟨HR.out, Or.inr ⟨fun h => absurd h.1 (by decide), Or.inl ⟨fun h => HU.out (h.2.2.resolve_left (by decide)).1, rfl⟩⟩⟩⟩⟩, HB1.out _⟩
  subst hu
  by_cases hz : entZ ek eu ef eb eg et
  rotate_left
  · have hne := ent_some ek eu ef eb eg et hz
    unfold entQ at hne
    have HZ := hidp hz
    clear hz
    go_wp2
    go_ret
    exact ⟨⟨3, rfl, Or.inr ⟨by decide, Or.inr ⟨HR.out, Or.inr ⟨fun h => absurd h.1 (by decide), Or.inl ⟨fun h => HZ.out (h.2.2.resolve_left (by decide)).2, rfl⟩⟩⟩⟩⟩, HB1.out _⟩
  have hne := ent_zero ek eu ef eb eg et hz
  unfold entQ at hne
  have HZ := hidp hz
  clear hz
  go_wp2
  go_ret
  exact ⟨⟨0, rfl, Or.inr ⟨by decide, Or.inr ⟨HR.out, Or.inr ⟨fun h => absurd h.1 (by decide), Or.inr ⟨⟨Or.inr ⟨rfl, rfl⟩, Or.inr rfl, Or.inr ⟨rfl, HZ.out⟩⟩, rfl⟩⟩⟩⟩⟩, HB1.out _⟩
set_option maxHeartbeats 2000000 in
set_option maxRecDepth 100000 in
theorem rfault_3 (c u p ek eu ef : Int) (d eb eg et : List UInt8) (hd : d.length ≤ 9223372036854775807) (w : World) : Calls Try.prog 5 #[.agg #[.int .i64 3, .int .i64 c, .int .i64 u, .int .i64 p, .string (S d), .int .i64 ek, .string (S eb), .int .i64 eu, .int .i64 ef, .string (S eg), .string (S et)]] w fun e w' => ChP 3 c u p d (entZ ek eu ef eb eg et) e ∧ Below w.heap.size w w' := by
  have HB1 := hidp (show ∀ o, Below w.heap.size w (w.alloc o) from fun o => (Below.refl _ _).alloc (Nat.le_refl _) _)
  have HSZ := hidp (size_S d)
  have HD := hidp hd
  clear hd
  have HQ := hidp (show decide ((1 : Int) ≤ 3 ∧ (3 : Int) ≤ 5) = true by decide)
  go_enter Try.func5, Try.ntmps5
  go_wp2_with fail
  refine (pin_any _ _ _ true HQ.out.symm _).mono ?_
  rintro e w' ⟨rfl, rfl⟩
  obtain ⟨q, hq⟩ : ∃ q, q = decide ((0 : Int) ≤ p ∧ p ≤ 100000) := ⟨_, rfl⟩
  have HQ1 := hidp hq
  clear hq
  go_wp2_with fail
  refine (pin_any _ _ _ q HQ1.out _).mono ?_
  rintro e w' ⟨rfl, rfl⟩
  have hq := HQ1.out
  clear HQ1
  cases q
  · have HNR := hidp (show ¬ actR 3 c u p from fun h => of_decide_eq_false hq.symm (h.2.1 rfl))
    clear hq
    go_wp2
    go_ret
    exact ⟨⟨6, rfl, Or.inr ⟨by decide, Or.inl ⟨HNR.out, rfl⟩⟩⟩, HB1.out _⟩
  have HR := hidp (show actR 3 c u p from ⟨fun h => absurd h (by decide), fun _ => of_decide_eq_true hq.symm, fun h => absurd h (by decide)⟩)
  clear hq
  go_upto_region 10 with fail
  by_cases hc : c = 0
  rotate_left
  · have HC := hidp hc
    have ec : (c == 0) = false := by rw [beq_eq_false_iff_ne]; exact hc
    go_wp2
    go_ret
    exact ⟨⟨3, rfl, Or.inr ⟨by decide, Or.inr ⟨HR.out, Or.inr ⟨fun h => absurd h.1 (by decide), Or.inl ⟨fun h => HC.out (h.1.resolve_left (by decide)).1, rfl⟩⟩⟩⟩⟩, HB1.out _⟩
  subst hc
  obtain rfl | ⟨x, y, rfl⟩ : d = [] ∨ ∃ x y, d = x :: y := by cases d; exact Or.inl rfl; exact Or.inr ⟨_, _, rfl⟩
  rotate_left
  · have ed := S_some x y
    go_wp2
    go_ret
    exact ⟨⟨3, rfl, Or.inr ⟨by decide, Or.inr ⟨HR.out, Or.inr ⟨fun h => absurd h.1 (by decide), Or.inl ⟨fun h => absurd (h.1.resolve_left (by decide)).2 (by simp), rfl⟩⟩⟩⟩⟩, HB1.out _⟩
  have ed := S_none
  by_cases hu : u = 0
  rotate_left
  · have HU := hidp hu
    have eu : (u == 0) = false := by rw [beq_eq_false_iff_ne]; exact hu
    go_wp2
    go_ret
    exact ⟨⟨3, rfl, Or.inr ⟨by decide, Or.inr ⟨HR.out, Or.inr ⟨fun h => absurd h.1 (by decide), Or.inl ⟨fun h => HU.out (h.2.2.resolve_left (by decide)).1, rfl⟩⟩⟩⟩⟩, HB1.out _⟩
  subst hu
  by_cases hz : entZ ek eu ef eb eg et
  rotate_left
  · have hne := ent_some ek eu ef eb eg et hz
    unfold entQ at hne
    have HZ := hidp hz
    clear hz
    go_wp2
    go_ret
    exact ⟨⟨3, rfl, Or.inr ⟨by decide, Or.inr ⟨HR.out, Or.inr ⟨fun h => absurd h.1 (by decide), Or.inl ⟨fun h => HZ.out (h.2.2.resolve_left (by decide)).2, rfl⟩⟩⟩⟩⟩, HB1.out _⟩
  have hne := ent_zero ek eu ef eb eg et hz
  unfold entQ at hne
  have HZ := hidp hz
  clear hz
  go_wp2
  go_ret
  exact ⟨⟨0, rfl, Or.inr ⟨by decide, Or.inr ⟨HR.out, Or.inr ⟨fun h => absurd h.1 (by decide), Or.inr ⟨⟨Or.inr ⟨rfl, rfl⟩, Or.inl rfl, Or.inr ⟨rfl, HZ.out⟩⟩, rfl⟩⟩⟩⟩⟩, HB1.out _⟩
set_option maxHeartbeats 2000000 in
set_option maxRecDepth 100000 in
theorem rfault_4 (c u p ek eu ef : Int) (d eb eg et : List UInt8) (hd : d.length ≤ 9223372036854775807) (w : World) : Calls Try.prog 5 #[.agg #[.int .i64 4, .int .i64 c, .int .i64 u, .int .i64 p, .string (S d), .int .i64 ek, .string (S eb), .int .i64 eu, .int .i64 ef, .string (S eg), .string (S et)]] w fun e w' => ChP 4 c u p d (entZ ek eu ef eb eg et) e ∧ Below w.heap.size w w' := by
  have HB1 := hidp (show ∀ o, Below w.heap.size w (w.alloc o) from fun o => (Below.refl _ _).alloc (Nat.le_refl _) _)
  have HSZ := hidp (size_S d)
  have HD := hidp hd
  clear hd
  have HQ := hidp (show decide ((1 : Int) ≤ 4 ∧ (4 : Int) ≤ 5) = true by decide)
  go_enter Try.func5, Try.ntmps5
  go_wp2_with fail
  refine (pin_any _ _ _ true HQ.out.symm _).mono ?_
  rintro e w' ⟨rfl, rfl⟩
  have HR := hidp (show actR 4 c u p from ⟨fun h => absurd h (by decide), fun h => absurd h (by decide), fun h => absurd h (by decide)⟩)
  go_upto_region 10 with fail
  by_cases hc : c = 0
  rotate_left
  · have HC := hidp hc
    have ec : (c == 0) = false := by rw [beq_eq_false_iff_ne]; exact hc
    go_wp2
    go_ret
    exact ⟨⟨3, rfl, Or.inr ⟨by decide, Or.inr ⟨HR.out, Or.inr ⟨fun h => absurd h.1 (by decide), Or.inl ⟨fun h => HC.out (h.1.resolve_left (by decide)).1, rfl⟩⟩⟩⟩⟩, HB1.out _⟩
  subst hc
  obtain rfl | ⟨x, y, rfl⟩ : d = [] ∨ ∃ x y, d = x :: y := by cases d; exact Or.inl rfl; exact Or.inr ⟨_, _, rfl⟩
  rotate_left
  · have ed := S_some x y
    go_wp2
    go_ret
    exact ⟨⟨3, rfl, Or.inr ⟨by decide, Or.inr ⟨HR.out, Or.inr ⟨fun h => absurd h.1 (by decide), Or.inl ⟨fun h => absurd (h.1.resolve_left (by decide)).2 (by simp), rfl⟩⟩⟩⟩⟩, HB1.out _⟩
  have ed := S_none
  by_cases hp : p = 0
  rotate_left
  · have HP := hidp hp
    have ep : (p == 0) = false := by rw [beq_eq_false_iff_ne]; exact hp
    go_wp2
    go_ret
    exact ⟨⟨3, rfl, Or.inr ⟨by decide, Or.inr ⟨HR.out, Or.inr ⟨fun h => absurd h.1 (by decide), Or.inl ⟨fun h => HP.out (h.2.1.resolve_left (by decide)), rfl⟩⟩⟩⟩⟩, HB1.out _⟩
  subst hp
  by_cases hu : u = 0
  rotate_left
  · have HU := hidp hu
    have eu : (u == 0) = false := by rw [beq_eq_false_iff_ne]; exact hu
    go_wp2
    go_ret
    exact ⟨⟨3, rfl, Or.inr ⟨by decide, Or.inr ⟨HR.out, Or.inr ⟨fun h => absurd h.1 (by decide), Or.inl ⟨fun h => HU.out (h.2.2.resolve_left (by decide)).1, rfl⟩⟩⟩⟩⟩, HB1.out _⟩
  subst hu
  by_cases hz : entZ ek eu ef eb eg et
  rotate_left
  · have hne := ent_some ek eu ef eb eg et hz
    unfold entQ at hne
    have HZ := hidp hz
    clear hz
    go_wp2
    go_ret
    exact ⟨⟨3, rfl, Or.inr ⟨by decide, Or.inr ⟨HR.out, Or.inr ⟨fun h => absurd h.1 (by decide), Or.inl ⟨fun h => HZ.out (h.2.2.resolve_left (by decide)).2, rfl⟩⟩⟩⟩⟩, HB1.out _⟩
  have hne := ent_zero ek eu ef eb eg et hz
  unfold entQ at hne
  have HZ := hidp hz
  clear hz
  go_wp2
  go_ret
  exact ⟨⟨0, rfl, Or.inr ⟨by decide, Or.inr ⟨HR.out, Or.inr ⟨fun h => absurd h.1 (by decide), Or.inr ⟨⟨Or.inr ⟨rfl, rfl⟩, Or.inr rfl, Or.inr ⟨rfl, HZ.out⟩⟩, rfl⟩⟩⟩⟩⟩, HB1.out _⟩
set_option maxHeartbeats 2000000 in
set_option maxRecDepth 100000 in
theorem rfault_5 (c u p ek eu ef : Int) (d eb eg et : List UInt8) (hd : d.length ≤ 9223372036854775807) (w : World) : Calls Try.prog 5 #[.agg #[.int .i64 5, .int .i64 c, .int .i64 u, .int .i64 p, .string (S d), .int .i64 ek, .string (S eb), .int .i64 eu, .int .i64 ef, .string (S eg), .string (S et)]] w fun e w' => ChP 5 c u p d (entZ ek eu ef eb eg et) e ∧ Below w.heap.size w w' := by
  have HB1 := hidp (show ∀ o, Below w.heap.size w (w.alloc o) from fun o => (Below.refl _ _).alloc (Nat.le_refl _) _)
  have HSZ := hidp (size_S d)
  have HD := hidp hd
  clear hd
  have HQ := hidp (show decide ((1 : Int) ≤ 5 ∧ (5 : Int) ≤ 5) = true by decide)
  go_enter Try.func5, Try.ntmps5
  go_wp2_with fail
  refine (pin_any _ _ _ true HQ.out.symm _).mono ?_
  rintro e w' ⟨rfl, rfl⟩
  obtain ⟨q, hq⟩ : ∃ q, q = decide ((0 : Int) ≤ u ∧ u ≤ 2) := ⟨_, rfl⟩
  have HQ1 := hidp hq
  clear hq
  go_wp2_with fail
  refine (pin_any _ _ _ q HQ1.out _).mono ?_
  rintro e w' ⟨rfl, rfl⟩
  have hq := HQ1.out
  clear HQ1
  cases q
  · have HNR := hidp (show ¬ actR 5 c u p from fun h => of_decide_eq_false hq.symm (h.2.2 rfl))
    clear hq
    go_wp2
    go_ret
    exact ⟨⟨6, rfl, Or.inr ⟨by decide, Or.inl ⟨HNR.out, rfl⟩⟩⟩, HB1.out _⟩
  have HR := hidp (show actR 5 c u p from ⟨fun h => absurd h (by decide), fun h => absurd h (by decide), fun _ => of_decide_eq_true hq.symm⟩)
  clear hq
  go_upto_region 10 with fail
  by_cases hc : c = 0
  rotate_left
  · have HC := hidp hc
    have ec : (c == 0) = false := by rw [beq_eq_false_iff_ne]; exact hc
    go_wp2
    go_ret
    exact ⟨⟨3, rfl, Or.inr ⟨by decide, Or.inr ⟨HR.out, Or.inr ⟨fun h => absurd h.1 (by decide), Or.inl ⟨fun h => HC.out (h.1.resolve_left (by decide)).1, rfl⟩⟩⟩⟩⟩, HB1.out _⟩
  subst hc
  obtain rfl | ⟨x, y, rfl⟩ : d = [] ∨ ∃ x y, d = x :: y := by cases d; exact Or.inl rfl; exact Or.inr ⟨_, _, rfl⟩
  rotate_left
  · have ed := S_some x y
    go_wp2
    go_ret
    exact ⟨⟨3, rfl, Or.inr ⟨by decide, Or.inr ⟨HR.out, Or.inr ⟨fun h => absurd h.1 (by decide), Or.inl ⟨fun h => absurd (h.1.resolve_left (by decide)).2 (by simp), rfl⟩⟩⟩⟩⟩, HB1.out _⟩
  have ed := S_none
  by_cases hp : p = 0
  rotate_left
  · have HP := hidp hp
    have ep : (p == 0) = false := by rw [beq_eq_false_iff_ne]; exact hp
    go_wp2
    go_ret
    exact ⟨⟨3, rfl, Or.inr ⟨by decide, Or.inr ⟨HR.out, Or.inr ⟨fun h => absurd h.1 (by decide), Or.inl ⟨fun h => HP.out (h.2.1.resolve_left (by decide)), rfl⟩⟩⟩⟩⟩, HB1.out _⟩
  subst hp
  go_wp2
  go_ret
  exact ⟨⟨0, rfl, Or.inr ⟨by decide, Or.inr ⟨HR.out, Or.inr ⟨fun h => absurd h.1 (by decide), Or.inr ⟨⟨Or.inr ⟨rfl, rfl⟩, Or.inr rfl, Or.inl rfl⟩, rfl⟩⟩⟩⟩⟩, HB1.out _⟩
set_option maxHeartbeats 2000000 in
set_option maxRecDepth 100000 in
theorem rfault_any (k c u p ek eu ef : Int) (d eb eg et : List UInt8) (hd : d.length ≤ 9223372036854775807) (w : World) : Calls Try.prog 5 #[.agg #[.int .i64 k, .int .i64 c, .int .i64 u, .int .i64 p, .string (S d), .int .i64 ek, .string (S eb), .int .i64 eu, .int .i64 ef, .string (S eg), .string (S et)]] w fun e w' => ChP k c u p d (entZ ek eu ef eb eg et) e ∧ Below w.heap.size w w' := by
  by_cases hk : 1 ≤ k ∧ k ≤ 5
  · obtain rfl | rfl | rfl | rfl | rfl : k = 1 ∨ k = 2 ∨ k = 3 ∨ k = 4 ∨ k = 5 := by omega
    · exact rfault_1 c u p ek eu ef d eb eg et hd w
    · exact rfault_2 c u p ek eu ef d eb eg et hd w
    · exact rfault_3 c u p ek eu ef d eb eg et hd w
    · exact rfault_4 c u p ek eu ef d eb eg et hd w
    · exact rfault_5 c u p ek eu ef d eb eg et hd w
  · have HK := hidp hk
    have HQ := hidp (show decide (1 ≤ k ∧ k ≤ 5) = false by simp only [hk, decide_false])
    have HB1 := hidp (show ∀ o, Below w.heap.size w (w.alloc o) from fun o => (Below.refl _ _).alloc (Nat.le_refl _) _)
    clear hk hd
    go_enter Try.func5, Try.ntmps5
    go_wp2_with fail
    refine (pin_any _ _ _ false HQ.out.symm _).mono ?_
    rintro e w' ⟨rfl, rfl⟩
    go_wp2
    go_ret
    exact ⟨⟨2, rfl, Or.inl ⟨HK.out, rfl⟩⟩, HB1.out _⟩
end Go.Proofs.Ytmdlfokmcikilaa
