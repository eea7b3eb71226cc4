/-
  Plain facts on the document's table of places: row by row it says which places are reached; no program is named here.
-/
import Derived.Test.YtaolohlpdampgaaGlobLaws
namespace Go.Proofs.Ytaolohlpdampgaa
open Go.RowKit

def orUp (f : Nat → Bool) : Nat → Bool
  | 0 => f 0
  | i + 1 => f (i + 1) || orUp f i
def oneUp (S : List UInt8) (x : Piece) (f : Nat → Bool) : Nat → Bool
  | 0 => false
  | i + 1 => f i && (x.1 == 1 || S[i]? == some x.2)
def stepF (S : List UInt8) (x : Piece) (f : Nat → Bool) : Nat → Bool := if x.1 = 2 then orUp f else oneUp S x f
def startF (i : Nat) : Bool := i == 0
def fitF (S : List UInt8) (ps : List Piece) : Nat → Bool := ps.foldl (fun f x => stepF S x f) startF
theorem fitF_snoc (S : List UInt8) (ps : List Piece) (x : Piece) : fitF S (ps ++ [x]) = stepF S x (fitF S ps) := by simp [fitF]

theorem orUp_iff (f : Nat → Bool) (i : Nat) : orUp f i = true ↔ ∃ j, j ≤ i ∧ f j = true := by
  induction i with
  | zero =>
    simp only [orUp]
    constructor
    · intro h; exact ⟨0, Nat.le_refl _, h⟩
    · rintro ⟨j, hj, h⟩; obtain rfl : j = 0 := by omega
      exact h
  | succ i ih =>
    simp only [orUp, Bool.or_eq_true, ih]
    constructor
    · rintro (h | ⟨j, hj, h⟩)
      · exact ⟨_, Nat.le_refl _, h⟩
      · exact ⟨j, by omega, h⟩
    · rintro ⟨j, hj, h⟩
      by_cases e : j = i + 1
      · subst e; exact .inl h
      · exact .inr ⟨j, by omega, h⟩

theorem fit_step (S : List UInt8) (x : Piece) (zs : List Nat) (f : Nat → Bool) (hz : Rising S.length zs) (h : ∀ i, i ≤ S.length → (i ∈ zs ↔ f i = true)) (i : Nat) (hi : i ≤ S.length) :
    i ∈ reachL S x zs ↔ stepF S x f i = true := by
  unfold stepF reachL
  by_cases hx : x.1 = 2
  · rw [if_pos hx, if_pos hx, orUp_iff]
    cases zs with
    | nil =>
      simp only [List.not_mem_nil, false_iff]
      rintro ⟨j, hj, hf⟩
      have := (h j (by omega)).2 hf
      simp at this
    | cons a r =>
      rw [mem_upL]
      constructor
      · rintro ⟨h1, _⟩
        exact ⟨a, h1, (h a (by omega)).1 (by simp)⟩
      · rintro ⟨j, hj, hf⟩
        refine ⟨?_, hi⟩
        rcases List.mem_cons.1 ((h j (by omega)).2 hf) with rfl | hm
        · exact hj
        · have := (List.pairwise_cons.1 hz.1).1 j hm
          omega
  · rw [if_neg hx, if_neg hx, List.mem_filterMap]
    cases i with
    | zero =>
      simp only [oneUp, Bool.false_eq_true, iff_false]
      rintro ⟨a, _, ha⟩
      have := (stepL_some ha).1
      omega
    | succ i =>
      simp only [oneUp, Bool.and_eq_true]
      constructor
      · rintro ⟨a, ha, hs⟩
        obtain ⟨e, hlt⟩ := stepL_some hs
        obtain rfl : a = i := by omega
        refine ⟨(h a (by omega)).1 ha, ?_⟩
        unfold stepL at hs
        split at hs
        · rename_i hc
          simp only [Bool.or_eq_true, Bool.and_eq_true, decide_eq_true_eq] at hc ⊢
          rcases hc with hc | hc
          · exact .inl hc.1
          · exact .inr hc
        · cases hs
      · rintro ⟨hf, hc⟩
        refine ⟨i, (h i (by omega)).2 hf, ?_⟩
        unfold stepL
        rw [if_pos]
        simp only [Bool.or_eq_true, Bool.and_eq_true, decide_eq_true_eq] at hc ⊢
        rcases hc with hc | hc
        · exact .inl ⟨hc, by omega⟩
        · exact .inr hc

theorem fit_fold (S : List UInt8) : ∀ (ps : List Piece) (zs : List Nat) (f : Nat → Bool), Rising S.length zs → (∀ i, i ≤ S.length → (i ∈ zs ↔ f i = true)) → ∀ i, i ≤ S.length →
    (i ∈ ps.foldl (fun zs p => reachL S p zs) zs ↔ ps.foldl (fun f x => stepF S x f) f i = true)
  | [], _, _, _, h => h
  | x :: ps, zs, f, hz, h => fun i hi => by
    simp only [List.foldl_cons]
    exact fit_fold S ps _ _ (rising_reachL hz) (fit_step S x zs f hz h) i hi

/-- The table's last place says whether the text matches. -/
theorem fitF_last (S : List UInt8) (ps : List Piece) : fitF S ps S.length = gm ps S := by
  have h := fit_fold S ps [0] startF (rising_start _) (fun i _ => by simp [startF]) S.length (Nat.le_refl _)
  rw [gm_runL, Bool.eq_iff_iff]
  show (fitF S ps S.length = true) ↔ _
  rw [fitF, ← h]
  simp only [List.any_eq_true, decide_eq_true_eq]
  constructor
  · intro hm; exact ⟨_, hm, Nat.le_refl _⟩
  · rintro ⟨i, hi, hle⟩
    have := (rising_runL S ps).2 i hi
    obtain rfl : i = S.length := by omega
    exact hi

/-- A row that is filled up to i. -/
def partF (F : Nat → Bool) (i j : Nat) : Bool := decide (j < i) && F j
def setF (f : Nat → Bool) (i : Nat) (b : Bool) (j : Nat) : Bool := if j = i then b else f j
theorem partF_set (F : Nat → Bool) (i : Nat) (b : Bool) (h : F i = b) (j : Nat) : setF (partF F i) i b j = partF F (i + 1) j := by
  unfold setF partF
  by_cases e : j = i
  · subst e; simp [h]
  · rw [if_neg e]
    by_cases hlt : j < i
    · have : j < i + 1 := by omega
      simp [hlt, this]
    · have : ¬ j < i + 1 := by omega
      simp [hlt, this]
theorem partF_skip (F : Nat → Bool) (h : F 0 = false) (j : Nat) : partF F 0 j = partF F 1 j := by
  unfold partF
  by_cases e : j = 0
  · subst e; simp [h]
  · have : ¬ j < 1 := by omega
    simp [this]
theorem partF_full (F : Nat → Bool) (i j : Nat) (h : j < i) : partF F i j = F j := by simp [partF, h]
end Go.Proofs.Ytaolohlpdampgaa
