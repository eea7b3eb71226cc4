/-
  Plain laws on matching: a masked text, stars, pieces one behind the other; no program is named here.
-/
import Derived.Test.YtkciflocpelhiaaGreatDoorMatch
import Derived.Lib.IndexMore
namespace Go.Proofs.YtkciflocpelhiaaGreatDoor
open Go.RowKit

/-- A text with a backslash ahead of each byte. -/
def mask : List UInt8 → List UInt8
  | [] => []
  | c :: r => 92 :: c :: mask r
theorem mask_append (a b : List UInt8) : mask (a ++ b) = mask a ++ mask b := by
  induction a with
  | nil => rfl
  | cons c r ih => simp [mask, ih]
theorem mask_length (a : List UInt8) : (mask a).length = 2 * a.length := by
  induction a with
  | nil => rfl
  | cons c r ih => simp [mask, ih]; omega
theorem low_mask (l : List UInt8) : lowL (mask l) = mask (lowL l) := by
  induction l with
  | nil => rfl
  | cons c r ih =>
    have h92 : low1 92 = 92 := by decide
    simp only [mask, lowL, List.map_cons, h92] at ih ⊢
    rw [ih]
theorem lowL_append (a b : List UInt8) : lowL (a ++ b) = lowL a ++ lowL b := by simp [lowL]

def litP (c : UInt8) : Piece := (0, c)
theorem pieces_mask (l r : List UInt8) : piecesL (mask l ++ r) = l.map litP ++ piecesL r := by
  induction l with
  | nil => rfl
  | cons c l ih =>
    show piecesL (92 :: c :: (mask l ++ r)) = _
    rw [pl_esc, ih]
    rfl
theorem pieces_mask' (l : List UInt8) : piecesL (mask l) = l.map litP := by
  have := pieces_mask l []
  simpa [piecesL] using this

theorem gm_one (p : Piece) (ps : List Piece) (s : List UInt8) (h : p.1 ≠ 2) : gm (p :: ps) s = oneB p.1 p.2 (gm ps) s := by rw [gm, if_neg h]
theorem gm_star (ps : List Piece) (s : List UInt8) : gm ((2, 0) :: ps) s = starB (gm ps) s := by rw [gm, if_pos rfl]

theorem gm_lits (l : List UInt8) (ps : List Piece) (t : List UInt8) : gm (l.map litP ++ ps) (l ++ t) = gm ps t := by
  induction l with
  | nil => rfl
  | cons c l ih =>
    show gm (litP c :: (l.map litP ++ ps)) (c :: (l ++ t)) = _
    rw [gm_one _ _ _ (by simp [litP])]
    simp [oneB, litP] at ih ⊢
    exact ih
/-- What pieces of single bytes match begins with these bytes. -/
theorem gm_lits_iff (l : List UInt8) (ps : List Piece) (s : List UInt8) : gm (l.map litP ++ ps) s = true ↔ ∃ t, s = l ++ t ∧ gm ps t = true := by
  constructor
  · induction l generalizing s with
    | nil => intro h; exact ⟨s, rfl, h⟩
    | cons c l ih =>
      intro h
      change gm (litP c :: (l.map litP ++ ps)) s = true at h
      rw [gm_one _ _ _ (by simp [litP])] at h
      cases s with
      | nil => simp [oneB] at h
      | cons d r =>
        simp only [oneB, litP, Bool.and_eq_true, Bool.or_eq_true] at h
        obtain ⟨h1, h2⟩ := h
        have hd : d = c := by rcases h1 with h1 | h1 <;> simp_all
        obtain ⟨t, rfl, ht⟩ := ih r h2
        exact ⟨t, by rw [hd]; rfl, ht⟩
  · rintro ⟨t, rfl, h⟩
    rw [gm_lits]
    exact h

theorem glob_mask (l : List UInt8) : globB l (mask l) = true := by
  have := gm_lits l [] []
  rw [globB, pieces_mask']
  simpa [gm] using this
theorem glob_mask_more (l : List UInt8) (c : UInt8) : globB (l ++ [c]) (mask l) = false := by
  have := gm_lits l [] [c]
  rw [globB, pieces_mask']
  simpa [gm] using this
theorem glob_star (s : List UInt8) : globB s [42] = true := by
  have h : piecesL [42] = [(2, 0)] := by simp [piecesL]
  rw [globB, h, gm_star, starB_iff]
  exact ⟨s.length, Nat.le_refl _, by simp [gm]⟩
theorem gm_star_last (s : List UInt8) : gm [(2, 0)] s = true := by
  rw [gm_star, starB_iff]
  exact ⟨s.length, Nat.le_refl _, by simp [gm]⟩
theorem starB_at (f : List UInt8 → Bool) (a b : List UInt8) (h : f b = true) : starB f (a ++ b) = true := by
  rw [starB_iff]
  exact ⟨a.length, by simp, by simpa using h⟩
theorem glob_mask_star (a b : List UInt8) : globB (a ++ b) (mask a ++ [42]) = true := by
  rw [globB, pieces_mask, gm_lits, show piecesL [42] = [(2, 0)] from by simp [piecesL]]
  exact gm_star_last b
theorem glob_star_mask (a b : List UInt8) : globB (a ++ b) ([42] ++ mask b) = true := by
  rw [globB, List.singleton_append, pl_star, gm_star, pieces_mask']
  refine starB_at _ a b ?_
  have := gm_lits b [] []
  simpa [gm] using this
theorem glob_mask_star_mask (a b c : List UInt8) : globB (a ++ b ++ c) (mask a ++ [42] ++ mask c) = true := by
  rw [List.append_assoc, List.append_assoc, globB, pieces_mask, gm_lits, List.singleton_append, pl_star, gm_star, pieces_mask']
  refine starB_at _ b c ?_
  have := gm_lits c [] []
  simpa [gm] using this
theorem glob_none_one : globB [] [63] = false := by decide
theorem glob_mask_one (t : List UInt8) (c : UInt8) : globB (t ++ [c]) (mask t ++ [63]) = true := by
  rw [globB, pieces_mask, gm_lits, show piecesL [63] = [(1, 0)] from by simp [piecesL]]
  simp [gm, oneB]
theorem glob_mask_one_no (t : List UInt8) : globB t (mask t ++ [63]) = false := by
  have := gm_lits t (piecesL [63]) []
  rw [globB, pieces_mask]
  rw [List.append_nil] at this
  rw [this]
  simp [piecesL, gm, oneB]

/-- Two stars are one. -/
theorem starB_star (f : List UInt8 → Bool) (s : List UInt8) : starB (starB f) s = starB f s := by
  rw [Bool.eq_iff_iff, starB_iff]
  constructor
  · rintro ⟨j, hj, h⟩
    rw [starB_iff] at h ⊢
    obtain ⟨i, hi, h⟩ := h
    refine ⟨j + i, by simp at hi; omega, ?_⟩
    rw [List.drop_drop] at h
    exact h
  · intro h
    exact ⟨0, Nat.zero_le _, by simpa using h⟩
theorem gm_congr_lits (l : List UInt8) (ps qs : List Piece) (h : ∀ t, gm ps t = gm qs t) (s : List UInt8) : gm (l.map litP ++ ps) s = gm (l.map litP ++ qs) s := by
  rw [Bool.eq_iff_iff, gm_lits_iff, gm_lits_iff]
  constructor
  · rintro ⟨t, e, ht⟩; exact ⟨t, e, by rw [← h]; exact ht⟩
  · rintro ⟨t, e, ht⟩; exact ⟨t, e, by rw [h]; exact ht⟩
theorem glob_stars (s a b : List UInt8) : globB s (mask a ++ [42] ++ mask b) = globB s (mask a ++ [42, 42] ++ mask b) := by
  rw [List.append_assoc, List.append_assoc, globB, globB, pieces_mask, pieces_mask]
  refine gm_congr_lits a _ _ (fun t => ?_) s
  show gm (piecesL (42 :: mask b)) t = gm (piecesL (42 :: 42 :: mask b)) t
  rw [pl_star, pl_star, pl_star, gm_star, gm_star]
  have h : gm ((2, 0) :: piecesL (mask b)) = starB (gm (piecesL (mask b))) := by funext u; exact gm_star _ u
  rw [h, starB_star]

/-- Two matches, one behind the other, are one. -/
theorem gm_append : ∀ (ps qs : List Piece) (a b : List UInt8), gm ps a = true → gm qs b = true → gm (ps ++ qs) (a ++ b) = true
  | [], qs, a, b, h1, h2 => by
    have : a = [] := by simpa [gm] using h1
    subst this
    exact h2
  | p :: ps, qs, a, b, h1, h2 => by
    show gm (p :: (ps ++ qs)) (a ++ b) = true
    by_cases hp : p.1 = 2
    · rw [gm, if_pos hp] at h1 ⊢
      rw [starB_iff] at h1 ⊢
      obtain ⟨j, hj, h⟩ := h1
      refine ⟨j, by simp; omega, ?_⟩
      rw [List.drop_append_of_le_length hj]
      exact gm_append ps qs _ b h h2
    · rw [gm_one _ _ _ hp] at h1 ⊢
      cases a with
      | nil => simp [oneB] at h1
      | cons c r =>
        simp only [oneB, List.cons_append, Bool.and_eq_true] at h1 ⊢
        exact ⟨h1.1, gm_append ps qs r b h1.2 h2⟩

/-- Pieces of two patterns, where the first does not end with a backslash. -/
theorem pieces_append : ∀ (x y : List UInt8), x.getLast? ≠ some 92 → piecesL (x ++ y) = piecesL x ++ piecesL y
  | [], _, _ => rfl
  | [c], y, h => by
    have hc : c ≠ 92 := by simpa using h
    show piecesL (c :: y) = piecesL [c] ++ piecesL y
    by_cases h1 : c = 42
    · subst h1; rw [pl_star]; simp [piecesL]
    · by_cases h2 : c = 63
      · subst h2; rw [pl_any]; simp [piecesL]
      · rw [pl_byte h1 h2 (.inl hc)]; simp [piecesL, h1, h2]
  | c :: d :: r, y, h => by
    have h' : (d :: r).getLast? ≠ some 92 := by rw [List.getLast?_cons_cons] at h; exact h
    have ih := pieces_append (d :: r) y h'
    show piecesL (c :: (d :: (r ++ y))) = _
    change piecesL (d :: (r ++ y)) = _ at ih
    by_cases h1 : c = 42
    · subst h1; rw [pl_star, pl_star, ih]; rfl
    · by_cases h2 : c = 63
      · subst h2; rw [pl_any, pl_any, ih]; rfl
      · by_cases h3 : c = 92
        · subst h3
          rw [pl_esc, pl_esc]
          have hr : r.getLast? ≠ some 92 ∨ r = [] := by
            cases r with
            | nil => exact .inr rfl
            | cons e r => rw [List.getLast?_cons_cons] at h'; exact .inl h'
          rcases hr with hr | hr
          · rw [pieces_append r y hr]; rfl
          · subst hr; rfl
        · rw [pl_byte h1 h2 (.inl h3), pl_byte h1 h2 (.inl h3), ih]; rfl
theorem glob_parts (a b x y : List UInt8) (hx : x.getLast? ≠ some 92) (h1 : globB a x = true) (h2 : globB b y = true) : globB (a ++ b) (x ++ y) = true := by
  rw [globB, pieces_append x y hx]
  exact gm_append _ _ _ _ h1 h2

/-- Contains is a match with stars around. -/
theorem contains_iff (t q : List UInt8) : Lib.contains t q = true ↔ ∃ a b, t = a ++ q ++ b := by
  unfold Lib.contains
  rw [decide_eq_true_eq]
  constructor
  · intro h
    rcases Lib.index_spec t q with ⟨h1, _⟩ | ⟨i, h1, hi, ho, _⟩
    · omega
    · simp only [Lib.occAt] at ho
      have ho' : q <+: t.drop i := by simpa using ho
      obtain ⟨b, hb⟩ := ho'
      exact ⟨t.take i, b, by rw [List.append_assoc, hb, List.take_append_drop]⟩
  · rintro ⟨a, b, rfl⟩
    rcases Lib.index_spec (a ++ q ++ b) q with ⟨_, h⟩ | ⟨i, h1, _⟩
    · have := h a.length (by simp)
      simp [Lib.occAt] at this
      have h2 : q.isPrefixOf (q ++ b) = true := List.isPrefixOf_iff_prefix.2 ⟨b, rfl⟩
      rw [h2] at this
      cases this
    · omega
theorem glob_inside (t q : List UInt8) : Lib.contains t q = globB t ([42] ++ mask q ++ [42]) := by
  rw [Bool.eq_iff_iff, contains_iff, List.append_assoc, globB, List.singleton_append, pl_star, gm_star, starB_iff, pieces_mask, show piecesL [42] = [(2, 0)] from by simp [piecesL]]
  constructor
  · rintro ⟨a, b, rfl⟩
    refine ⟨a.length, by simp, ?_⟩
    rw [List.append_assoc, List.drop_left, gm_lits]
    exact gm_star_last b
  · rintro ⟨j, hj, h⟩
    obtain ⟨b, hb, _⟩ := (gm_lits_iff _ _ _).1 h
    exact ⟨t.take j, b, by rw [List.append_assoc, ← hb, List.take_append_drop]⟩
theorem contains_last (t q : List UInt8) : Lib.contains (t ++ q) q = true := (contains_iff _ _).2 ⟨t, [], by simp⟩
end Go.Proofs.YtkciflocpelhiaaGreatDoor
