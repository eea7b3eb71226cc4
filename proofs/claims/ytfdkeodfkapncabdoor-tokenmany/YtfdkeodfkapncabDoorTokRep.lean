/-
  Plain facts on tokens, as the program writes them: digits by the library's Itoa, quotes by two replacements. No program is named here.
-/
import Derived.Lib.Replace
import Derived.Lib.ItoaNum
import Derived.Lib.IndexBytes
import Derived.Test.YtfdkeodfkapncabDoorTokGap
namespace Go.Proofs.YtfdkeodfkapncabDoor
open Go.RowKit

/- Decimal digits. -/
theorem decL_lib (n : Nat) : Lib.decDigits n = decL n := rfl

/- Quotes, by two replacements. -/
def repL (c : UInt8) (l : List UInt8) : List UInt8 := l.flatMap fun x => if x = c then [92, c] else [x]
theorem repL_not {c : UInt8} {a : List UInt8} (h : c ∉ a) : repL c a = a := by
  induction a with
  | nil => rfl
  | cons x a ih =>
    simp only [List.mem_cons, not_or] at h
    have : repL c (x :: a) = (if x = c then [92, c] else [x]) ++ repL c a := by simp [repL]
    rw [this, ih h.2, if_neg (fun e => h.1 e.symm)]; rfl
theorem index_one_split {c : UInt8} {s : List UInt8} {i : Nat} (h : Lib.index s [c] = i) : s = s.take i ++ c :: s.drop (i + 1) ∧ c ∉ s.take i := by
  rw [Lib.index_one] at h
  obtain ⟨h1, h2⟩ := Lib.indexByte_some h
  obtain ⟨hi, hc⟩ := List.getElem?_eq_some_iff.1 h1
  refine ⟨?_, ?_⟩
  · conv => lhs; rw [← List.take_append_drop i s, List.drop_eq_getElem_cons hi, hc]
  · intro hm
    obtain ⟨k, hk, e⟩ := List.mem_iff_getElem.1 hm
    rw [List.length_take] at hk
    refine h2 k (by omega) ?_
    rw [List.getElem_take] at e
    rw [List.getElem?_eq_getElem (by omega), e]
theorem replaceK_one (c : UInt8) : ∀ (k : Nat) (s : List UInt8), s.count c ≤ k → Lib.replaceK [c] [92, c] k s = repL c s := by
  intro k
  induction k with
  | zero =>
    intro s h
    rw [Lib.replaceK, repL_not]
    intro hm
    have := List.count_pos_iff.2 hm
    omega
  | succ k ih =>
    intro s h
    have hge := Lib.index_ge s [c]
    by_cases hm : Lib.index s [c] = -1
    · rw [Lib.replaceK, if_pos (by simpa using hm), repL_not]
      rw [Lib.index_one] at hm
      intro hc
      obtain ⟨j, hj, e⟩ := List.mem_iff_getElem.1 hc
      exact Lib.indexByte_none hm j (by rw [List.getElem?_eq_getElem hj, e])
    · obtain ⟨i, hi⟩ : ∃ i : Nat, Lib.index s [c] = i := ⟨(Lib.index s [c]).toNat, by omega⟩
      obtain ⟨hs, hn⟩ := index_one_split hi
      rw [Lib.replaceK_hit _ _ _ _ _ hi]
      have hc : (s.drop (i + 1)).count c ≤ k := by
        have e := congrArg (List.count c) hs
        rw [List.count_append, List.count_cons_self] at e
        omega
      show s.take i ++ [92, c] ++ Lib.replaceK [c] [92, c] k (s.drop (i + 1)) = repL c s
      rw [ih _ hc]
      conv => rhs; rw [hs]
      have e : repL c (s.take i ++ c :: s.drop (i + 1)) = repL c (s.take i) ++ ([92, c] ++ repL c (s.drop (i + 1))) := by simp [repL]
      rw [e, repL_not hn, List.append_assoc]
theorem quote_two (l : List UInt8) : repL 34 (repL 92 l) = quoteL l := by
  induction l with
  | nil => rfl
  | cons x l ih =>
    have e1 : repL 92 (x :: l) = (if x = 92 then [92, 92] else [x]) ++ repL 92 l := by simp [repL]
    have e2 : quoteL (x :: l) = (if x = 34 ∨ x = 92 then [92, x] else [x]) ++ quoteL l := by simp [quoteL]
    have e3 : ∀ a b, repL 34 (a ++ b) = repL 34 a ++ repL 34 b := fun a b => by simp [repL]
    rw [e1, e2, e3, ih]
    congr 1
    by_cases h1 : x = 92
    · subst h1; decide
    · rw [if_neg h1]
      by_cases h2 : x = 34
      · subst h2; decide
      · rw [if_neg (fun h => h.elim h2 h1)]
        simp [repL, h2]
end Go.Proofs.YtfdkeodfkapncabDoor
