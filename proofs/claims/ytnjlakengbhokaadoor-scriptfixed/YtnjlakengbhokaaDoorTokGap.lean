/-
  Plain facts on tokens, as the program reads them: gaps by the library's Cut, kinds of what begins. No program is named here.
-/
import Derived.Lib.IndexLaws
import Derived.Test.YtnjlakengbhokaaDoorScrMem
import Derived.Test.YtnjlakengbhokaaDoorScrMemX
namespace Go.Proofs.YtnjlakengbhokaaDoor
open Go.RowKit

theorem silM_spaces (s : List UInt8) : silM (s.dropWhile spaceC) = silM s := by
  induction s with
  | nil => rfl
  | cons c t ih =>
    rw [List.dropWhile_cons]
    cases h : spaceC c with
    | true => rw [if_pos rfl, ih, silM_space t h]
    | false => simp
theorem comEnd_index (u : List UInt8) : comEnd u = if 0 ≤ Lib.index u [42, 47] then some (u.drop ((Lib.index u [42, 47]).toNat + 2)) else none := by
  induction u with
  | nil => rfl
  | cons a t ih =>
    cases t with
    | nil =>
      have e : Lib.index [a] [42, 47] = -1 := by
        unfold Lib.index
        rw [if_neg (by simp [List.isPrefixOf])]
        rfl
      rw [e]; rfl
    | cons b t =>
      by_cases h : a = 42 ∧ b = 47
      · obtain ⟨rfl, rfl⟩ := h
        have e : Lib.index (42 :: 47 :: t) [42, 47] = 0 := by
          unfold Lib.index; rw [if_pos (by simp [List.isPrefixOf])]
        rw [e, comEnd]; rfl
      · have hp : ¬ ([42, 47] : List UInt8).isPrefixOf (a :: b :: t) = true := by
          intro hp
          simp only [List.isPrefixOf, Bool.and_true, Bool.and_eq_true, beq_iff_eq] at hp
          exact h ⟨hp.1.symm, hp.2.symm⟩
        have hge := Lib.index_ge (b :: t) [42, 47]
        rw [comEnd, if_neg h, ih]
        have e : Lib.index (a :: b :: t) [42, 47] = if Lib.index (b :: t) [42, 47] == -1 then -1 else Lib.index (b :: t) [42, 47] + 1 := by
          rw [Lib.index, if_neg hp]
        rw [e]
        by_cases hm : Lib.index (b :: t) [42, 47] = -1
        · rw [hm]; rfl
        · have hm' : ¬ (Lib.index (b :: t) [42, 47] == -1) = true := by simpa using hm
          rw [if_neg hm', if_pos (by omega), if_pos (by omega)]
          have e2 : (Lib.index (b :: t) [42, 47] + 1).toNat + 2 = ((Lib.index (b :: t) [42, 47]).toNat + 2) + 1 := by omega
          rw [e2]
          rfl
theorem cut_open {u : List UInt8} (h : comEnd u = none) : Lib.cut u [42, 47] = (u, [], false) := by
  rw [comEnd_index] at h
  unfold Lib.cut
  split at h
  · cases h
  · rename_i hn; rw [if_neg hn]
theorem cut_com {u r : List UInt8} (h : comEnd u = some r) : ∃ a, Lib.cut u [42, 47] = (a, r, true) ∧ u.length = a.length + 2 + r.length ∧ r = u.drop (a.length + 2) := by
  rw [comEnd_index] at h
  split at h
  · rename_i hn
    have hr := Lib.index_room u [42, 47] hn
    simp only [List.length_cons, List.length_nil] at hr
    simp only [Option.some.injEq] at h
    refine ⟨u.take (Lib.index u [42, 47]).toNat, ?_, ?_, ?_⟩
    · unfold Lib.cut; rw [if_pos hn, ← h]; rfl
    · rw [← h]; simp; omega
    · rw [← h, List.length_take, Nat.min_eq_left (by omega)]
  · cases h

/- Which token begins. -/
def kindM (s : List UInt8) : Int :=
  match s with
  | [] => 0
  | c :: t => if letterC c then 1 else if c = 58 ∧ (t.head?.map letterC).getD false = true then 2 else if digitC c then 3 else if c = 34 then 4 else if markC c then 5 else 0
theorem kindM_beg (s : List UInt8) : (kindM s = 0) ↔ begM s = false := by
  cases s with
  | nil => simp [kindM, begM]
  | cons c t =>
    simp only [kindM, begM]
    cases h1 : letterC c with
    | true => simp
    | false =>
      by_cases h2 : c = 58 ∧ (t.head?.map letterC).getD false = true
      · simp only [Bool.false_eq_true, if_false, h2.1, h2.2]; simp
      · simp only [Bool.false_eq_true, if_false, if_neg h2]
        have h2' : (c == 58 && (t.head?.map letterC).getD false) = false := by
          cases e : (c == 58 && (t.head?.map letterC).getD false) with
          | false => rfl
          | true => exact absurd (by simpa using e) h2
        rw [h2']
        cases h3 : digitC c with
        | true => simp
        | false =>
          by_cases h4 : c = 34
          · simp [h4]
          · cases h5 : markC c <;> simp [h4]

/- Words. -/
def wlen (s : List UInt8) : Nat := match s with | [] => 0 | c :: t => if digitC c then 0 else ((c :: t).takeWhile wordyC).length
theorem letter_not_digit {c : UInt8} (h : letterC c = true) : digitC c = false := by
  cases e : digitC c with
  | false => rfl
  | true =>
    unfold digitC at e
    unfold letterC at h
    simp only [Bool.and_eq_true, decide_eq_true_eq, Bool.or_eq_true, beq_iff_eq] at e h
    rcases h with (h | h) | h
    · omega
    · omega
    · subst h; simp at e
theorem wlen_letter {c : UInt8} (t : List UInt8) (h : letterC c = true) : wlen (c :: t) = 1 + (t.takeWhile wordyC).length := by
  show (if digitC c then 0 else ((c :: t).takeWhile wordyC).length) = _
  rw [letter_not_digit h, if_neg (by simp), List.takeWhile_cons, if_pos (by unfold wordyC; rw [h]; rfl)]
  simp; omega
theorem wlen_not {c : UInt8} (t : List UInt8) (h : letterC c = false) : wlen (c :: t) = 0 := by
  show (if digitC c then 0 else ((c :: t).takeWhile wordyC).length) = _
  cases e : digitC c with
  | true => rfl
  | false => rw [if_neg (by simp), List.takeWhile_cons, if_neg (by unfold wordyC; rw [h, e]; simp)]; rfl
theorem wlen_pos (s : List UInt8) : 0 < wlen s ↔ (s.head?.map letterC).getD false = true := by
  cases s with
  | nil => simp [wlen]
  | cons c t =>
    cases e : letterC c with
    | true => rw [wlen_letter t e]; simp [e]; omega
    | false => rw [wlen_not t e]; simp [e]
theorem wlen_all (s : List UInt8) : (s ≠ [] ∧ wlen s = s.length) ↔ wordB s = true := by
  cases s with
  | nil => simp [wordB]
  | cons c t =>
    cases e : letterC c with
    | false => rw [wlen_not t e]; simp [wordB, e]
    | true =>
      rw [wlen_letter t e]
      have hc : wordyC c = true := by unfold wordyC; rw [e]; rfl
      simp only [wordB, List.head?_cons, Option.map_some, Option.getD_some, e, Bool.true_and, List.all_cons, hc, ne_eq, reduceCtorEq, not_false_eq_true, true_and, List.length_cons]
      rw [List.all_eq_true]
      constructor
      · intro h x hx
        have h2 : t.takeWhile wordyC = t := by
          have hs := List.takeWhile_prefix (l := t) wordyC
          exact hs.eq_of_length (by omega)
        rw [← h2] at hx
        exact List.all_eq_true.1 (List.all_takeWhile (p := wordyC) (l := t)) x hx
      · intro h
        have h2 : t.takeWhile wordyC = t := by
          have := List.takeWhile_append_of_pos (p := wordyC) (l₁ := t) (l₂ := []) h
          simpa using this
        rw [h2]; omega

end Go.Proofs.YtnjlakengbhokaaDoor
