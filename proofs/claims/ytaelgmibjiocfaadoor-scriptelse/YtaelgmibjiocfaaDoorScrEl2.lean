/-
  An If alone in an Else is an elsif: such scripts may be, plainly.
-/
import Derived.Test.YtaelgmibjiocfaaDoorScrEls
namespace Go.Proofs.YtaelgmibjiocfaaDoor
open Go.RowKit Go.Proofs

theorem len_list {l : List (List UInt8)} (h : l.length ≤ 2) : (listT l).length ≤ 5 := by
  match l, h with
  | [], _ => simp [listT, sepT]
  | [x], _ => simp [listT]
  | [x, y], _ => simp [listT, sepT]
  | _ :: _ :: _ :: _, h => simp at h
theorem fitH_parts {t : Tst} (h : fitH t = true) : (1 ≤ t.kind ∧ t.kind ≤ 10) ∧ fitsT t = true ∧ t.names.length ≤ 2 ∧ t.keys.length ≤ 2 := by
  simp only [fitH, Bool.and_eq_true, decide_eq_true_eq] at h
  exact ⟨h.1.1.1.1, h.1.1.1.2, h.1.1.2, h.1.2⟩
theorem len_test {t : Tst} (h : fitH t = true) (ht : t.tests = []) (n : Nat) : (testT n t).length ≤ 14 := by
  obtain ⟨_, _, h1, h2⟩ := fitH_parts h
  have l1 := len_list h1
  have l2 := len_list h2
  cases n with
  | zero => simp [testT]
  | succ n =>
    unfold testT
    rw [ht]
    repeat' split
    all_goals simp [sepT]
    all_goals omega
theorem leaf_ok {t : Tst} (h : fitH t = true) (ht : t.tests = []) (n d : Nat) (hd : d ≤ 6) : faultTst n d t = 0 := by
  obtain ⟨⟨k1, k2⟩, hf, _⟩ := fitH_parts h
  cases n with
  | zero => rfl
  | succ n =>
    unfold faultTst
    rw [isNum_tst, hf, ht]
    have : oneP (decide (1 ≤ t.kind) && decide (t.kind ≤ 10)) d true = 0 := by simp [oneP, k1, k2]; omega
    rw [this]; rfl
theorem els_may {t u : Tst} (h : fitH t = true) (ht : t.tests = []) (h' : fitH u = true) (ht' : u.tests = []) : checkM 3 [elsC t u] = 0 ∧ (cmdsT 3 [elsC t u]).length ≤ 400 := by
  have hl : (cmdsT 3 [elsC t u]).length ≤ 400 := by
    rw [els_one 1]
    have := len_test h ht 2
    have := len_test h' ht' 1
    simp
    omega
  refine ⟨?_, hl⟩
  unfold checkM
  have : faultCmds 3 0 [elsC t u] = 0 := by
    simp [faultCmds, firstP, faultCmd, elsC, elsifP, leaf_ok h ht, leaf_ok h' ht', fitsC, oneP, show isNumP 0 2 = true from rfl]
  rw [this, if_neg (by simp), if_neg (by omega)]
theorem els_may2 {t u : Tst} (h : fitH t = true) (ht : t.tests = []) (h' : fitH u = true) (ht' : u.tests = []) : checkM 3 [elsD t u] = 0 ∧ (cmdsT 3 [elsD t u]).length ≤ 400 := by
  have hl : (cmdsT 3 [elsD t u]).length ≤ 400 := by
    rw [els_two 1]
    have := len_test h ht 2
    have := len_test h' ht' 1
    simp
    omega
  refine ⟨?_, hl⟩
  unfold checkM
  have : faultCmds 3 0 [elsD t u] = 0 := by
    simp [faultCmds, firstP, faultCmd, elsD, elsifP, leaf_ok h ht, leaf_ok h' ht', fitsC, oneP, show isNumP 0 2 = true from rfl, show isNumP 0 3 = true from rfl, noTst, noneT]
  rw [this, if_neg (by simp), if_neg (by omega)]
/-- Counting on by one token. -/
theorem cntW_step {s : List UInt8} {l : List Tok} {k : Nat} {t : Tok} (h : l[k]? = some t) : cntW s (l.take (k + 1)) = cntW s (l.take k) + (if isWd s t then 1 else 0) := by
  rw [List.take_add_one, h]
  simp only [Option.toList, cntW_app, cntW_cons, cntW_nil, Nat.add_zero]
theorem cntW_none {s : List UInt8} {l : List Tok} (h : cntW s l = 0) {k : Nat} {t : Tok} (hk : l[k]? = some t) : isWd s t = false := by
  cases hb : isWd s t with
  | false => rfl
  | true =>
    have : t ∈ l.filter (isWd s) := List.mem_filter.2 ⟨List.mem_of_getElem? hk, hb⟩
    rw [List.length_eq_zero_iff.1 h] at this
    cases this
theorem cntW_le (s : List UInt8) (l : List Tok) : cntW s l ≤ l.length := List.length_filter_le _ _
end Go.Proofs.YtaelgmibjiocfaaDoor
