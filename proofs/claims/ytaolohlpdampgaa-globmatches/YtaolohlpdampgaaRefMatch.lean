/-
  What postroomref.inside, matched and MatchOf do: the walks.
-/
import Derived.Test.YtaolohlpdampgaaRows
import Derived.Test.YtaolohlpdampgaaFits
import Derived.Test.YtaolohlpdampgaaMatch
import Derived.Lib.Strings
namespace Go.Proofs.Ytaolohlpdampgaa
open Go.RowKit

/-- At place k of the text stands the other one. -/
def occB (s p : ByteArray) (k : Nat) : Bool := (s.extract k (k + p.size)).toList == p.toList
theorem occ_iff (s p : ByteArray) (k : Nat) : occB s p k = true ↔ (s.data.toList.drop k).take p.size = p.data.toList := by
  unfold occB
  rw [Lib.extract_toList, Lib.toList_data, beq_iff_eq, Nat.add_sub_cancel_left]
theorem inside_yes {s p : ByteArray} {k : Nat} (h : occB s p k = true) : Lib.contains s.data.toList p.data.toList = true := by
  rw [contains_iff]
  rw [occ_iff] at h
  exact ⟨s.data.toList.take k, (s.data.toList.drop k).drop p.size, by rw [List.append_assoc, ← h, List.take_append_drop, List.take_append_drop]⟩
theorem inside_no {s p : ByteArray} (h : ∀ j, j + p.size ≤ s.size → occB s p j = false) : Lib.contains s.data.toList p.data.toList = false := by
  rw [Bool.eq_false_iff]
  intro hc
  obtain ⟨a, b, e⟩ := (contains_iff _ _).1 hc
  have hl : a.length + p.size ≤ s.size := by
    rw [← size_list s, ← size_list p, e]
    simp
  have h1 := h a.length hl
  rw [Bool.eq_false_iff] at h1
  apply h1
  rw [occ_iff, e, List.append_assoc, List.drop_left, ← size_list p, List.take_left]

set_option maxHeartbeats 400000 in
theorem inside_any (s p : ByteArray) (w : World) (hs : s.size ≤ 1048576) (hp : p.size ≤ 1048576) :
    Calls Try.prog 24 #[.string s, .string p] w fun e w' => e = .returned (.bool (Lib.contains s.data.toList p.data.toList)) ∧ w' = w := by
  go_enter Try.func24, Try.ntmps24
  go_wp2
  go_loop [5] (fun i => ∃ k : Nat, k ≤ s.size + 1 ∧ i = .int .i64 (k : Int) ∧ Hid (∀ j, j < k → j + p.size ≤ s.size → occB s p j = false)) (fun i => s.size + 1 - (intOf i).toNat)
  case atStart => exact ⟨0, by omega, rfl, fun j hj => by omega⟩
  case round =>
    obtain ⟨k, hk, rfl, HN⟩ := hrel
    by_cases hle : k + p.size ≤ s.size
    · have hle' : (k : Int) + (p.size : Int) ≤ (s.size : Int) := by omega
      by_cases ho : ((s.extract k (k + p.size)).toList == p.toList) = true
      · have HY : Hid _ := inside_yes (s := s) (p := p) (k := k) ho
        go_wp2
        go_ret
        exact ⟨by rw [HY.out]; rfl, rfl⟩
      · replace ho : ((s.extract k (k + p.size)).toList == p.toList) = false := by simpa using ho
        have HN2 : Hid (∀ j, j < k + 1 → j + p.size ≤ s.size → occB s p j = false) := fun j hj hjl => by
          by_cases e : j = k
          · subst e; exact ho
          · exact HN.out j (by omega) hjl
        go_wp2
        go_round
        case rel => exact ⟨k + 1, by omega, by go_num, HN2⟩
        case measure => simp [intOf]; omega
    · have hle' : ¬ (k : Int) + (p.size : Int) ≤ (s.size : Int) := by omega
      have HY : Hid _ := inside_no (s := s) (p := p) (fun j hj => HN.out j (by omega) hj)
      go_wp2
      go_ret
      exact ⟨by rw [HY.out]; rfl, rfl⟩

set_option maxHeartbeats 400000 in
theorem matched_any (kind : Int) (s p : ByteArray) (w : World) (hk : kind = 1 ∨ kind = 2 ∨ kind = 3) (hs : s.size ≤ 2000) (hp : p.size ≤ 100) :
    Calls Try.prog 20 #[.int .i64 kind, .string s, .string p] w fun e w' => e = .returned (.bool (matchB kind s p)) ∧ Below w.heap.size w w' := by
  have HL1 : Hid _ := low_size s
  have HL2 : Hid _ := low_size p
  have HA : Hid _ := fun u => lower_any s u (by omega)
  have HB : Hid _ := fun u => lower_any p u (by omega)
  rcases hk with rfl | rfl | rfl
  · go_enter Try.func20, Try.ntmps20
    go_wp2_with fail
    refine (HA.out _).mono ?_
    rintro e u1 ⟨rfl, k1⟩
    go_wp2_with fail
    refine (HB.out _).mono ?_
    rintro e u2 ⟨rfl, k2⟩
    go_wp2
    go_ret
    exact ⟨rfl, Below.next k1 k2 (Nat.le_refl _)⟩
  · have HC : Hid _ := fun u => inside_any (low s) (low p) u (by rw [HL1.out]; omega) (by rw [HL2.out]; omega)
    go_enter Try.func20, Try.ntmps20
    go_wp2_with fail
    refine (HA.out _).mono ?_
    rintro e u1 ⟨rfl, k1⟩
    go_wp2_with fail
    refine (HB.out _).mono ?_
    rintro e u2 ⟨rfl, k2⟩
    go_wp2_with fail
    refine (HC.out _).mono ?_
    rintro e u3 ⟨rfl, rfl⟩
    go_wp2
    go_ret
    exact ⟨rfl, Below.next k1 k2 (Nat.le_refl _)⟩
  · have HC : Hid _ := fun u => fits_any (low s) (low p) u (by rw [HL1.out]; omega) (by rw [HL2.out]; omega)
    go_enter Try.func20, Try.ntmps20
    go_wp2_with fail
    refine (HA.out _).mono ?_
    rintro e u1 ⟨rfl, k1⟩
    go_wp2_with fail
    refine (HB.out _).mono ?_
    rintro e u2 ⟨rfl, k2⟩
    go_wp2_with fail
    refine (HC.out _).mono ?_
    rintro e u3 ⟨rfl, k3⟩
    go_wp2
    go_ret
    exact ⟨rfl, Below.next (Below.next k1 k2 (Nat.le_refl _)) k3 (Nat.le_refl _)⟩

set_option maxHeartbeats 400000 in
/-- postroomref.MatchOf answers what glob.Match answers. -/
theorem matchOf_any (kind : Int) (s p : ByteArray) (w : World) :
    Calls Try.prog 12 #[.int .i64 kind, .string s, .string p] w fun e w' => e = .returned (matchV kind s p) ∧ Below w.heap.size w w' := by
  have HI : Hid _ := fun u => in_any kind 1 3 u
  by_cases hk : kind < 1 ∨ 3 < kind
  · have hd : decide (1 ≤ kind ∧ kind ≤ 3) = false := decide_eq_false (by omega)
    rw [hd] at HI
    rw [matchV, if_pos hk]
    go_enter Try.func12, Try.ntmps12
    go_wp2_with fail
    refine (HI.out _).mono ?_
    rintro e u1 ⟨rfl, rfl⟩
    go_wp2
    go_ret2
    exact ⟨rfl, Below.refl _ _⟩
  · have hd : decide (1 ≤ kind ∧ kind ≤ 3) = true := decide_eq_true (by omega)
    rw [hd] at HI
    by_cases hz : 2000 < s.size ∨ 100 < p.size
    · rw [matchV, if_neg hk, if_pos hz]
      by_cases hs : 2000 < s.size
      · go_enter Try.func12, Try.ntmps12
        go_wp2_with fail
        refine (HI.out _).mono ?_
        rintro e u1 ⟨rfl, rfl⟩
        go_wp2_with fail
        go_ret2
        exact ⟨rfl, Below.refl _ _⟩
      · have hp : 100 < p.size := by omega
        go_enter Try.func12, Try.ntmps12
        go_wp2_with fail
        refine (HI.out _).mono ?_
        rintro e u1 ⟨rfl, rfl⟩
        go_wp2_with fail
        go_ret2
        exact ⟨rfl, Below.refl _ _⟩
    · rw [matchV, if_neg hk, if_neg hz]
      have hs : s.size ≤ 2000 := by omega
      have hp : p.size ≤ 100 := by omega
      have HM : Hid _ := fun u => matched_any kind s p u (by omega) hs hp
      generalize matchB kind s p = bb at *
      go_enter Try.func12, Try.ntmps12
      go_wp2_with fail
      refine (HI.out _).mono ?_
      rintro e u1 ⟨rfl, rfl⟩
      go_wp2_with fail
      refine (HM.out _).mono ?_
      rintro e u2 ⟨rfl, k2⟩
      go_wp2
      go_ret2
      exact ⟨rfl, k2⟩
end Go.Proofs.Ytaolohlpdampgaa
