/-
  An If alone in an Else is an elsif: how often these words stand in a script, plainly.
-/
import Derived.Test.YtaelgmibjiocfaaDoorRulPur
namespace Go.Proofs.YtaelgmibjiocfaaDoor
open Go.RowKit Go.Proofs

/-- That word. -/
def isWd (s : List UInt8) (t : Tok) : Bool := decide (t.kind = 1) && decide (t.text = s)
def cntW (s : List UInt8) (l : List Tok) : Nat := (l.filter (isWd s)).length
theorem cntW_app (s : List UInt8) (a b : List Tok) : cntW s (a ++ b) = cntW s a + cntW s b := by unfold cntW; rw [List.filter_append, List.length_append]
theorem cntW_cons (s : List UInt8) (t : Tok) (l : List Tok) : cntW s (t :: l) = (if isWd s t then 1 else 0) + cntW s l := by
  unfold cntW
  cases h : isWd s t with
  | true => rw [List.filter_cons_of_pos h]; simp; omega
  | false => rw [List.filter_cons_of_neg (by simp [h])]; simp
theorem cntW_nil (s : List UInt8) : cntW s [] = 0 := rfl
theorem wd_str (s x : List UInt8) : isWd s (strT x) = false := rfl
theorem wd_tag (s x : List UInt8) : isWd s (tagT x) = false := rfl
theorem wd_mark (s : List UInt8) (c : UInt8) : isWd s (markT c) = false := rfl
theorem cntW_list (s : List UInt8) (l : List (List UInt8)) : cntW s (listT l) = 0 := by
  have hs : ∀ r : List (List UInt8), cntW s (sepT (fun x => [strT x]) r) = 0 := by
    intro r
    cases r with
    | nil => rfl
    | cons x r =>
      show cntW s ([strT x] ++ r.flatMap fun y => markT 44 :: [strT y]) = 0
      rw [cntW_app, cntW_cons, wd_str, cntW_nil]
      induction r with
      | nil => rfl
      | cons y r ih =>
        rw [List.flatMap_cons, cntW_app, cntW_cons, wd_mark, cntW_cons, wd_str, cntW_nil]
        simpa using ih
  unfold listT
  split
  · rw [cntW_cons, wd_str, cntW_nil]; rfl
  · rw [cntW_cons, wd_mark, cntW_app, hs, cntW_cons, wd_mark, cntW_nil]; rfl
theorem wd_test {k : Nat} (hk : k < 11) : wordOf 1 k ≠ elsifW ∧ wordOf 1 k ≠ elseW := by
  match k, hk with
  | 0, _ | 1, _ | 2, _ | 3, _ | 4, _ | 5, _ | 6, _ | 7, _ | 8, _ | 9, _ | 10, _ => decide
/-- A test that asks for no other ones has neither word. -/
theorem cnt_test {t : Tst} (h1 : 1 ≤ t.kind) (h2 : t.kind ≤ 10) (ht : t.tests = []) (n : Nat) : cntW elsifW (testT n t) = 0 ∧ cntW elseW (testT n t) = 0 := by
  cases n with
  | zero => exact ⟨rfl, rfl⟩
  | succ n =>
    have hw := wd_test (k := t.kind.toNat) (by omega)
    have key : ∀ s, wordOf 1 t.kind.toNat ≠ s → cntW s (testT (n + 1) t) = 0 := by
      intro s hs
      unfold testT
      have hwd : isWd s (wordT (wordOf 1 t.kind.toNat)) = false := by unfold isWd wordT; simp [hs]
      rw [cntW_cons, hwd, ht]
      simp only [Bool.false_eq_true, if_false, Nat.zero_add]
      split
      · rfl
      · split
        · rw [cntW_cons, wd_mark]; rfl
        · split
          · rw [cntW_cons, wd_tag, cntW_app, cntW_list, cntW_list]; rfl
          · split
            · rw [cntW_cons, wd_tag, cntW_cons, wd_tag, cntW_app, cntW_list, cntW_list]; rfl
            · split
              · exact cntW_list _ _
              · split
                · rw [cntW_cons, wd_tag]; rfl
                · rfl
    exact ⟨key _ hw.1, key _ hw.2⟩
/-- The law's script, and the same with a Keep ahead in its Else. -/
def elsC (t u : Tst) : Cmd := ⟨2, [], t, [], [⟨2, [], u, [], []⟩]⟩
def elsD (t u : Tst) : Cmd := ⟨2, [], t, [], [⟨3, [], noneT, [], []⟩, ⟨2, [], u, [], []⟩]⟩
theorem els_one (n : Nat) (t u : Tst) : cmdsT (n + 2) [elsC t u] = wordT (wordOf 0 2) :: (testT (n + 1) t ++ [markT 123, markT 125] ++ (wordT elsifW :: (testT n u ++ [markT 123, markT 125]))) := by
  unfold cmdsT
  rw [List.flatMap_cons, List.flatMap_nil, List.append_nil]
  unfold cmdT elsC
  simp [restT, elsifP]
theorem els_two (n : Nat) (t u : Tst) : cmdsT (n + 2) [elsD t u] = wordT (wordOf 0 2) :: (testT (n + 1) t ++ [markT 123, markT 125] ++ (wordT elseW :: markT 123 :: (wordT (wordOf 0 3) :: markT 59 :: wordT (wordOf 0 2) :: (testT n u ++ [markT 123, markT 125])) ++ [markT 125])) := by
  unfold cmdsT
  rw [List.flatMap_cons, List.flatMap_nil, List.append_nil]
  unfold cmdT elsD
  simp [restT, elsifP]
theorem cnt_one {t u : Tst} (n : Nat) (h : cntW elsifW (testT (n + 1) t) = 0 ∧ cntW elseW (testT (n + 1) t) = 0) (h' : cntW elsifW (testT n u) = 0 ∧ cntW elseW (testT n u) = 0) : cntW elsifW (cmdsT (n + 2) [elsC t u]) = 1 ∧ cntW elseW (cmdsT (n + 2) [elsC t u]) = 0 := by
  rw [els_one]
  refine ⟨?_, ?_⟩
  · simp only [cntW_cons, cntW_app, h.1, h'.1]; rfl
  · simp only [cntW_cons, cntW_app, h.2, h'.2]; rfl
theorem cnt_two {t u : Tst} (n : Nat) (h : cntW elseW (testT (n + 1) t) = 0) (h' : cntW elseW (testT n u) = 0) : cntW elseW (cmdsT (n + 2) [elsD t u]) = 1 := by
  rw [els_two]
  simp only [cntW_cons, cntW_app, h, h']
  rfl
end Go.Proofs.YtaelgmibjiocfaaDoor
