/-
  Plain facts on patterns: their pieces, what a text matches, and the places that are reached piece by piece; no program is named here.
-/
import Derived.Test.YtaolohlpdampgabPure
namespace Go.Proofs.Ytaolohlpdampgab
open Go.RowKit

/-- A piece: its kind (0: the byte, 1: any byte, 2: any bytes) and its byte. -/
abbrev Piece := Nat × UInt8

def piecesL : List UInt8 → List Piece
  | [] => []
  | [c] => if c = 42 then [(2, 0)] else if c = 63 then [(1, 0)] else [(0, c)]
  | c :: d :: r => if c = 42 then (2, 0) :: piecesL (d :: r) else if c = 63 then (1, 0) :: piecesL (d :: r) else if c = 92 then (0, d) :: piecesL r else (0, c) :: piecesL (d :: r)

def starB (f : List UInt8 → Bool) : List UInt8 → Bool
  | [] => f []
  | c :: r => f (c :: r) || starB f r

def oneB (k : Nat) (b : UInt8) (f : List UInt8 → Bool) : List UInt8 → Bool
  | [] => false
  | c :: r => (k == 1 || c == b) && f r

def gm : List Piece → List UInt8 → Bool
  | [], s => s.isEmpty
  | p :: ps, s => if p.1 = 2 then starB (gm ps) s else oneB p.1 p.2 (gm ps) s

/-- A text matches a pattern. -/
def globB (s p : List UInt8) : Bool := gm (piecesL p) s

theorem pl_star (r : List UInt8) : piecesL (42 :: r) = (2, 0) :: piecesL r := by cases r <;> simp [piecesL]
theorem pl_any (r : List UInt8) : piecesL (63 :: r) = (1, 0) :: piecesL r := by cases r <;> simp [piecesL]
theorem pl_esc (d : UInt8) (r : List UInt8) : piecesL (92 :: d :: r) = (0, d) :: piecesL r := by simp [piecesL]
theorem pl_byte {c : UInt8} {r : List UInt8} (h1 : c ≠ 42) (h2 : c ≠ 63) (h3 : c ≠ 92 ∨ r = []) : piecesL (c :: r) = (0, c) :: piecesL r := by
  cases r with
  | nil => simp [piecesL, h1, h2]
  | cons d r =>
    have h4 : c ≠ 92 := by rcases h3 with h | h <;> simp_all
    simp [piecesL, h1, h2, h4]
theorem drop_at (p : ByteArray) (k : Nat) (h : k < p.size) : p.data.toList.drop k = p[k] :: p.data.toList.drop (k + 1) := by
  rw [List.drop_eq_getElem_cons (by rw [size_list]; exact h)]; rfl
theorem byte_ne {c : UInt8} {d : Nat} (hd : d < 256) (h : ((c.toNat : Int) == (d : Int)) = false) : c ≠ UInt8.ofNat d := by
  intro e
  rw [beq_eq_false_iff_ne] at h
  apply h
  rw [e]
  simp [Nat.mod_eq_of_lt hd]
theorem byte_eq {c : UInt8} {d : Nat} (hd : d < 256) (h : ((c.toNat : Int) == (d : Int)) = true) : c = UInt8.ofNat d := by
  have h' : (c.toNat : Int) = d := by simpa using h
  apply UInt8.toNat_inj.1
  have e : (UInt8.ofNat d).toNat = d := by simp [Nat.mod_eq_of_lt hd]
  omega

/-! The places that are reached. -/
def stepL (s : List UInt8) (p : Piece) (i : Nat) : Option Nat := if (p.1 == 1 && decide (i < s.length)) || s[i]? == some p.2 then some (i + 1) else none
def upL (n i : Nat) : List Nat := (List.range (n + 1 - i)).map (i + ·)
def reachL (s : List UInt8) (p : Piece) (zs : List Nat) : List Nat := if p.1 = 2 then (match zs with | [] => [] | i :: _ => upL s.length i) else zs.filterMap (stepL s p)
def runL (s : List UInt8) (ps : List Piece) : List Nat := ps.foldl (fun zs p => reachL s p zs) [0]

def Rising (n : Nat) (zs : List Nat) : Prop := zs.Pairwise (· < ·) ∧ ∀ i ∈ zs, i ≤ n

theorem mem_upL {n i j : Nat} : j ∈ upL n i ↔ i ≤ j ∧ j ≤ n := by
  unfold upL
  simp only [List.mem_map, List.mem_range]
  constructor
  · rintro ⟨a, h, rfl⟩; omega
  · intro h; exact ⟨j - i, by omega, by omega⟩

theorem rising_upL (n i : Nat) : Rising n (upL n i) := by
  refine ⟨?_, fun j hj => (mem_upL.1 hj).2⟩
  unfold upL
  rw [List.pairwise_map]
  simp only [Nat.add_lt_add_iff_left]
  exact List.pairwise_lt_range

theorem stepL_some {s : List UInt8} {p : Piece} {i j : Nat} (h : stepL s p i = some j) : j = i + 1 ∧ i < s.length := by
  unfold stepL at h
  split at h
  · rename_i hc
    simp at h
    refine ⟨h.symm, ?_⟩
    simp only [Bool.or_eq_true, Bool.and_eq_true, decide_eq_true_eq] at hc
    rcases hc with hc | hc
    · exact hc.2
    · have : s[i]? = some p.2 := by simpa using hc
      exact (List.getElem?_eq_some_iff.1 this).1
  · cases h

theorem rising_filter {s : List UInt8} {p : Piece} : ∀ {zs : List Nat}, Rising s.length zs → Rising s.length (zs.filterMap (stepL s p))
  | [], h => by simpa using h
  | i :: zs, ⟨h1, h2⟩ => by
    have h1' := List.pairwise_cons.1 h1
    have ih := rising_filter (s := s) (p := p) (zs := zs) ⟨h1'.2, fun j hj => h2 j (List.mem_cons_of_mem _ hj)⟩
    rw [List.filterMap_cons]
    cases hs : stepL s p i with
    | none => exact ih
    | some j =>
      obtain ⟨rfl, hlt⟩ := stepL_some hs
      refine ⟨List.pairwise_cons.2 ⟨fun a ha => ?_, ih.1⟩, fun a ha => ?_⟩
      · obtain ⟨b, hb, hb'⟩ := List.mem_filterMap.1 ha
        obtain ⟨rfl, _⟩ := stepL_some hb'
        have := h1'.1 b hb
        omega
      · rcases List.mem_cons.1 ha with rfl | ha
        · omega
        · exact ih.2 a ha

theorem rising_reachL {s : List UInt8} {p : Piece} {zs : List Nat} (h : Rising s.length zs) : Rising s.length (reachL s p zs) := by
  unfold reachL
  split
  · cases zs with
    | nil => exact ⟨List.Pairwise.nil, by simp⟩
    | cons i r => exact rising_upL _ _
  · exact rising_filter h

theorem starB_iff (f : List UInt8 → Bool) (s : List UInt8) : starB f s = true ↔ ∃ j, j ≤ s.length ∧ f (s.drop j) = true := by
  induction s with
  | nil => simp [starB]
  | cons c r ih =>
    simp only [starB, Bool.or_eq_true, ih]
    constructor
    · rintro (h | ⟨j, hj, h⟩)
      · exact ⟨0, by simp, by simpa using h⟩
      · exact ⟨j + 1, by simp; omega, by simpa using h⟩
    · rintro ⟨j, hj, h⟩
      cases j with
      | zero => exact .inl (by simpa using h)
      | succ j => exact .inr ⟨j, by simp at hj; omega, by simpa using h⟩

theorem oneB_step (s : List UInt8) (p : Piece) (f : List UInt8 → Bool) (i : Nat) : oneB p.1 p.2 f (s.drop i) = true ↔ ∃ j, stepL s p i = some j ∧ f (s.drop j) = true := by
  by_cases h : i < s.length
  · rw [List.drop_eq_getElem_cons h]
    simp only [oneB, stepL, List.getElem?_eq_getElem h, h, decide_true, Bool.and_true]
    have e : (some s[i] == some p.2) = (s[i] == p.2) := by rfl
    rw [e]
    by_cases hc : (p.1 == 1 || s[i] == p.2) = true
    · rw [hc]; simp
    · simp only [Bool.not_eq_true] at hc
      rw [hc]; simp
  · rw [List.drop_eq_nil_of_le (by omega)]
    simp only [oneB]
    constructor
    · intro h'; cases h'
    · rintro ⟨j, hj, _⟩
      exact absurd (stepL_some hj).2 h

/-- One piece: what is matched from one of the places is matched behind the piece from one of the places that it reaches. -/
theorem any_reachL (s : List UInt8) (p : Piece) (rest : List Piece) (zs : List Nat) (hz : Rising s.length zs) :
    (reachL s p zs).any (fun i => gm rest (s.drop i)) = zs.any (fun i => gm (p :: rest) (s.drop i)) := by
  rw [Bool.eq_iff_iff]
  simp only [List.any_eq_true]
  unfold reachL
  by_cases hp : p.1 = 2
  · simp only [gm, hp, if_true]
    cases zs with
    | nil => simp
    | cons i r =>
      simp only [mem_upL, starB_iff, List.length_drop, List.drop_drop]
      constructor
      · rintro ⟨j, ⟨h1, h2⟩, h⟩
        exact ⟨i, by simp, j - i, by omega, by rw [show i + (j - i) = j from by omega]; exact h⟩
      · rintro ⟨a, ha, j, hj, h⟩
        have hai : i ≤ a := by
          rcases List.mem_cons.1 ha with rfl | ha
          · exact Nat.le_refl _
          · exact Nat.le_of_lt ((List.pairwise_cons.1 hz.1).1 a ha)
        have han := hz.2 a ha
        exact ⟨a + j, ⟨by omega, by omega⟩, h⟩
  · simp only [gm, hp, if_false, List.mem_filterMap]
    constructor
    · rintro ⟨j, ⟨i, hi, hij⟩, h⟩
      exact ⟨i, hi, (oneB_step s p _ i).2 ⟨j, hij, h⟩⟩
    · rintro ⟨i, hi, h⟩
      obtain ⟨j, hj, h'⟩ := (oneB_step s p _ i).1 h
      exact ⟨j, ⟨i, hi, hj⟩, h'⟩

theorem any_foldl (s : List UInt8) (rest : List Piece) : ∀ (ps : List Piece) (zs : List Nat), Rising s.length zs →
    (ps.foldl (fun zs p => reachL s p zs) zs).any (fun i => gm rest (s.drop i)) = zs.any (fun i => gm (ps ++ rest) (s.drop i))
  | [], _, _ => rfl
  | p :: ps, zs, h => by
    rw [List.foldl_cons, any_foldl s rest ps _ (rising_reachL h), List.cons_append, any_reachL _ _ _ _ h]

theorem rising_foldl (s : List UInt8) : ∀ (ps : List Piece) (zs : List Nat), Rising s.length zs → Rising s.length (ps.foldl (fun zs p => reachL s p zs) zs)
  | [], _, h => h
  | _ :: ps, _, h => rising_foldl s ps _ (rising_reachL h)

theorem rising_start (n : Nat) : Rising n [0] := ⟨List.pairwise_singleton _ _, by simp⟩
theorem rising_runL (s : List UInt8) (ps : List Piece) : Rising s.length (runL s ps) := rising_foldl s ps _ (rising_start _)
theorem runL_snoc (s : List UInt8) (ps : List Piece) (p : Piece) : runL s (ps ++ [p]) = reachL s p (runL s ps) := by simp [runL]

theorem reachL_nil (s : List UInt8) (p : Piece) : reachL s p [] = [] := by unfold reachL; split <;> simp
theorem foldl_nil (s : List UInt8) (ps : List Piece) : ps.foldl (fun zs p => reachL s p zs) [] = [] := by
  induction ps with
  | nil => rfl
  | cons p ps ih => rw [List.foldl_cons, reachL_nil]; exact ih

theorem gm_runL (s : List UInt8) (ps : List Piece) : gm ps s = (runL s ps).any (fun i => decide (s.length ≤ i)) := by
  have h := any_foldl s [] ps [0] (rising_start _)
  simp only [List.append_nil, List.any_cons, List.drop_zero, List.any_nil, Bool.or_false] at h
  rw [← h, runL]
  congr 1
  funext i
  simp only [gm]
  rw [Bool.eq_iff_iff]
  simp

/-- Nothing is reached behind some of the pieces: no match. -/
theorem gm_stop {s : List UInt8} {pre ps : List Piece} (h : pre <+: ps) (h0 : runL s pre = []) : gm ps s = false := by
  obtain ⟨r, rfl⟩ := h
  rw [gm_runL, runL, List.foldl_append]
  have : pre.foldl (fun zs p => reachL s p zs) [0] = [] := h0
  rw [this, foldl_nil]
  rfl

/-- Something is reached behind all of them: the last place tells. -/
theorem gm_last {s : List UInt8} {ps : List Piece} {a : Nat} (h : (runL s ps).getLast? = some a) : gm ps s = decide (a = s.length) := by
  rw [gm_runL, Bool.eq_iff_iff]
  simp only [List.any_eq_true, decide_eq_true_eq]
  have hr := rising_runL s ps
  have hmem : a ∈ runL s ps := List.mem_of_getLast? h
  constructor
  · rintro ⟨i, hi, hle⟩
    have hia : i ≤ a := by
      obtain ⟨l, hl⟩ := List.getLast?_eq_some_iff.1 h
      rw [hl] at hi hr
      rcases List.mem_append.1 hi with hi | hi
      · exact Nat.le_of_lt ((List.pairwise_append.1 hr.1).2.2 i hi a (by simp))
      · simp at hi; omega
    have := hr.2 a hmem
    omega
  · rintro rfl
    exact ⟨_, hmem, Nat.le_refl _⟩

end Go.Proofs.Ytaolohlpdampgab
