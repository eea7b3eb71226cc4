/-
  Plain facts on torn texts: without its empty line a message is too short, wherever it is cut ahead of that. No program is named here.
-/
import Derived.Test.YtdmjdhnncilaiaaDoorLetLaws
namespace Go.Proofs.YtdmjdhnncilaiaaDoor
open Go.RowKit

theorem hasEnd_take {s : List UInt8} (h : hasEnd s = false) (k : Nat) : hasEnd (s.take k) = false := by
  have : hasEnd ([] ++ s.take k ++ s.drop k) = false := by simpa using h
  exact hasEnd_mid this
theorem hasEnd_cut {a rest : List UInt8} (h : hasEnd a = false) {k : Nat} (hk : k < a.length + 2) : hasEnd ((a ++ [13, 10] ++ rest).take k) = false := by
  have e : (a ++ [13, 10] ++ rest).take k = (a ++ [13]).take k := by
    have e2 : a ++ [13, 10] ++ rest = (a ++ [13]) ++ (10 :: rest) := by simp
    rw [e2, List.take_append_of_le_length (by simp; omega)]
  rw [e]
  exact hasEnd_take (hasEnd_app h (by decide) (by decide)) k
theorem parse_torn : ∀ (fs : List F) (p : Int) (raw : List F) (k : Nat), (∀ f ∈ fs, mayF f = true) → raw.length + fs.length ≤ 30 → k < (textM fs []).length →
    ∃ i, parseR p raw ((textM fs []).take k) = ([], [], i, 4) ∧ i ≤ p + fs.length := by
  intro fs
  induction fs with
  | nil =>
    intro p raw k _ _ hk
    have e : textM [] [] = [] ++ [13, 10] ++ [] := rfl
    rw [e] at hk ⊢
    rw [parse_short (hasEnd_cut hasEnd_nil (by simpa using hk))]
    exact ⟨p, rfl, by simp⟩
  | cons f fs ih =>
    intro p raw k hf hl hk
    have hm := hf f (by simp)
    have hr := may_raw hm
    have ha := lineC_end hr
    have e : textM (f :: fs) [] = lineC (inF f) ++ [13, 10] ++ textM fs [] := by
      simp [textM, lines_eq, linesC]
    rw [e] at hk ⊢
    by_cases hc : k < (lineC (inF f)).length + 2
    · rw [parse_short (hasEnd_cut ha hc)]
      exact ⟨p, rfl, by simp; omega⟩
    · have e3 : (lineC (inF f) ++ [13, 10] ++ textM fs []).take k = lineC (inF f) ++ [13, 10] ++ (textM fs []).take (k - ((lineC (inF f)).length + 2)) := by
        rw [List.take_append, List.take_of_length_le (by simp; omega)]
        simp
      have hn : nameB (inF f).1 = true := by simp [rawB] at hr; exact hr.1
      simp only [List.length_cons] at hl
      have ht := takeF_field (raw := raw) (f := inF f) hn (by omega)
      rw [e3, parse_go ha (lineC_ne _) (by rw [ht]), ht]
      obtain ⟨i, h1, h2⟩ := ih (p + 1) (raw ++ [inF f]) (k - ((lineC (inF f)).length + 2)) (fun g hg => hf g (by simp [hg])) (by simp; omega) (by simp at hk ⊢; omega)
      exact ⟨i, h1, by simp only [List.length_cons, Int.natCast_add, Int.natCast_one]; omega⟩
end Go.Proofs.YtdmjdhnncilaiaaDoor
