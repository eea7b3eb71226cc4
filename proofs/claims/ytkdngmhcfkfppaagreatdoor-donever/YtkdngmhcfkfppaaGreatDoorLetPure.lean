/-
  Plain facts on messages as lists of bytes: names, values, lines; what is shown, what is parsed. No program is named here.
-/
import Derived.WalkKit
import Derived.Lib.SlTrimSet
import Derived.Lib.IndexMore
import Derived.Lib.IndexLaws
namespace Go.Proofs.YtkdngmhcfkfppaaGreatDoor
open Go.RowKit

/-- A text of a list of bytes. -/
def S (l : List UInt8) : ByteArray := ⟨l.toArray⟩
theorem S_list (s : ByteArray) : S s.data.toList = s := by cases s; simp [S]
theorem list_S (l : List UInt8) : (S l).data.toList = l := by simp [S]
theorem size_S (l : List UInt8) : (S l).size = l.length := by simp [S, ByteArray.size]
theorem S_inj {a b : List UInt8} (h : S a = S b) : a = b := by
  have := congrArg (fun s => s.data.toList) h
  simpa [list_S] using this

def blankB (c : UInt8) : Bool := c == 32 || c == 9
def nameC (c : UInt8) : Bool := decide (33 ≤ c.toNat) && decide (c.toNat ≤ 126) && c != 58
def nameB (l : List UInt8) : Bool := !l.isEmpty && l.all nameC
def trimW (l : List UInt8) : List UInt8 := Lib.trimS l [32, 9]
def hasEnd (l : List UInt8) : Bool := Lib.contains l [13, 10]
def valueB (l : List UInt8) : Bool := !hasEnd l && trimW l == l

abbrev F := List UInt8 × List UInt8
def mayF (f : F) : Bool := nameB f.1 && valueB f.2
def sizeF (f : F) : Nat := f.1.length + f.2.length + 4
def sumF (fs : List F) : Nat := (fs.map sizeF).sum
def textF (f : F) : List UInt8 := f.1 ++ [58, 32] ++ f.2 ++ [13, 10]
def linesF (fs : List F) : List UInt8 := (fs.map textF).flatten
def textM (fs : List F) (body : List UInt8) : List UInt8 := linesF fs ++ [13, 10] ++ body
def faultM (fs : List F) (body : List UInt8) : Int :=
  if 30 < fs.length then 5 else if fs.all mayF = false then 3 else if 2000 < 2 + body.length + sumF fs then 1 else 0

theorem length_textF (f : F) : (textF f).length = sizeF f := by simp [textF, sizeF]; omega
theorem length_linesF (fs : List F) : (linesF fs).length = sumF fs := by
  induction fs with
  | nil => rfl
  | cons f fs ih => simp [linesF, sumF] at ih ⊢; rw [length_textF, ih]
theorem length_textM (fs : List F) (body : List UInt8) : (textM fs body).length = 2 + body.length + sumF fs := by
  simp [textM, length_linesF]; omega
theorem sumF_snoc (fs : List F) (f : F) : sumF (fs ++ [f]) = sumF fs + sizeF f := by simp [sumF]
theorem take_some {α : Type} {l : List α} {k : Nat} {x : α} (h : l[k]? = some x) : l.take (k + 1) = l.take k ++ [x] := by
  obtain ⟨hk, rfl⟩ := List.getElem?_eq_some_iff.1 h
  exact List.take_succ_eq_append_getElem hk
theorem sumF_take {fs : List F} {k : Nat} {f : F} (h : fs[k]? = some f) : sumF (fs.take (k + 1)) = sumF (fs.take k) + sizeF f := by
  rw [take_some h, sumF_snoc]
theorem sumF_le (fs : List F) (k : Nat) : sumF (fs.take k) ≤ sumF fs := by
  have e : sumF fs = sumF (fs.take k) + sumF (fs.drop k) := by
    conv => lhs; rw [← List.take_append_drop k fs]
    unfold sumF
    rw [List.map_append, List.sum_append]
  omega
theorem linesF_snoc (fs : List F) (f : F) : linesF (fs ++ [f]) = linesF fs ++ textF f := by simp [linesF]

/- Lines. -/
def lineAt (s : List UInt8) (j : Nat) : Prop := s[j]? = some 13 ∧ s[j + 1]? = some 10
theorem occ_line (s : List UInt8) (j : Nat) : Lib.occAt s [13, 10] j = true ↔ lineAt s j := by
  unfold Lib.occAt lineAt
  rw [← List.head?_drop]
  have e : s[j + 1]? = (s.drop j).tail.head? := by rw [← List.drop_one, List.drop_drop, List.head?_drop]
  rw [e]
  cases h : s.drop j with
  | nil => simp
  | cons a t =>
    cases t with
    | nil => simp [List.isPrefixOf]
    | cons b t => simp [List.isPrefixOf]; constructor <;> rintro ⟨rfl, rfl⟩ <;> simp
theorem occ_no {s : List UInt8} {j : Nat} (h : ¬ lineAt s j) : Lib.occAt s [13, 10] j = false := by
  cases e : Lib.occAt s [13, 10] j with
  | false => rfl
  | true => exact absurd ((occ_line s j).1 e) h
theorem hasEnd_no {l : List UInt8} : hasEnd l = false ↔ ∀ j, ¬ lineAt l j := by
  constructor
  · intro h j hj
    have hl : j ≤ l.length := by
      have := hj.1
      rcases Nat.lt_or_ge j l.length with h' | h'
      · omega
      · rw [List.getElem?_eq_none h'] at this; cases this
    have := Lib.index_ge l [13, 10]
    have hne : Lib.index l [13, 10] = -1 := by
      simp [hasEnd, Lib.contains] at h; omega
    have hall : ∀ k, k ≤ j → ∀ i, i < k → Lib.occAt l [13, 10] i = false := by
      intro k
      induction k with
      | zero => intro _ i hi; omega
      | succ k ih =>
        intro hk i hi
        rcases Nat.lt_or_ge i k with h' | h'
        · exact ih (by omega) i h'
        · obtain rfl : i = k := by omega
          cases e : Lib.occAt l [13, 10] i with
          | false => rfl
          | true =>
            have := Lib.index_first (s := l) (sub := [13, 10]) (i := i) (by omega) e (ih (by omega))
            omega
    have := Lib.index_first (s := l) (sub := [13, 10]) (i := j) hl ((occ_line l j).2 hj) (hall j (Nat.le_refl _))
    omega
  · intro h
    have : Lib.index l [13, 10] = -1 := Lib.index_none fun j _ => occ_no (h j)
    simp [hasEnd, Lib.contains, this]

theorem index_line {a b : List UInt8} (h : hasEnd a = false) : Lib.index (a ++ [13, 10] ++ b) [13, 10] = a.length := by
  refine Lib.index_first (by simp) ((occ_line _ _).2 ⟨by simp, by simp⟩) fun j hj => occ_no fun hl => ?_
  rcases Nat.lt_or_ge (j + 1) a.length with h' | h'
  · refine (hasEnd_no.1 h) j ⟨?_, ?_⟩
    · have := hl.1; rw [List.append_assoc, List.getElem?_append_left hj] at this; exact this
    · have := hl.2; rw [List.append_assoc, List.getElem?_append_left h'] at this; exact this
  · have e : j + 1 = a.length := by omega
    have := hl.2
    rw [e] at this
    simp at this
theorem cut_line {a b : List UInt8} (h : hasEnd a = false) : Lib.cut (a ++ [13, 10] ++ b) [13, 10] = (a, b, true) := by
  unfold Lib.cut
  rw [index_line h]
  simp
theorem cut_none {s : List UInt8} (h : hasEnd s = false) : Lib.cut s [13, 10] = (s, [], false) := by
  unfold Lib.cut
  have : ¬ (0 ≤ Lib.index s [13, 10]) := by simpa [hasEnd, Lib.contains] using h
  rw [if_neg this]
/-- Where there is a line's end, the text is the line, its end, and what is behind. -/
theorem cut_some {s : List UInt8} (h : hasEnd s = true) : ∃ a b, s = a ++ [13, 10] ++ b ∧ hasEnd a = false := by
  have h0 : 0 ≤ Lib.index s [13, 10] := by simpa [hasEnd, Lib.contains] using h
  have : ¬ ∀ j, ¬ lineAt s j := fun hn => by rw [hasEnd_no.2 hn] at h; cases h
  have hex : ∃ j, lineAt s j := Classical.byContradiction fun hn => this fun j hj => hn ⟨j, hj⟩
  have key : ∀ n, ∀ s : List UInt8, s.length ≤ n → (∃ j, lineAt s j) → ∃ a b, s = a ++ [13, 10] ++ b ∧ hasEnd a = false := by
    intro n
    induction n with
    | zero => intro s hs ⟨j, hj⟩; have := hj.1; cases s <;> simp at hs this
    | succ n ih =>
      intro s hs ⟨j, hj⟩
      cases s with
      | nil => have := hj.1; simp at this
      | cons c t =>
        by_cases h0 : lineAt (c :: t) 0
        · obtain ⟨h1, h2⟩ := h0
          cases t with
          | nil => simp at h2
          | cons d t => simp at h1 h2; subst h1 h2; exact ⟨[], t, rfl, by decide⟩
        · have hj0 : j ≠ 0 := fun e => h0 (e ▸ hj)
          obtain ⟨k, rfl⟩ := Nat.exists_eq_succ_of_ne_zero hj0
          obtain ⟨a, b, e, ha⟩ := ih t (by simp at hs; omega) ⟨k, by simpa [lineAt] using hj⟩
          refine ⟨c :: a, b, by rw [e]; simp, hasEnd_no.2 fun i hi => ?_⟩
          cases i with
          | zero =>
            refine h0 ?_
            obtain ⟨h1, h2⟩ := hi
            refine ⟨by simpa using h1, ?_⟩
            cases a with
            | nil => simp at h2
            | cons d a => rw [e]; simpa using h2
          | succ i => exact hasEnd_no.1 ha i (by simpa [lineAt] using hi)
  exact key s.length s (Nat.le_refl _) hex

/- Colons. -/
theorem index_one (l : List UInt8) (c : UInt8) : Lib.index l [c] = Lib.indexByte l c := by
  induction l with
  | nil => rfl
  | cons b l ih =>
    unfold Lib.index Lib.indexByte
    rw [ih]
    by_cases h : b = c
    · subst h; simp
    · have : (c == b) = false := by simp; exact fun e => h e.symm
      simp [List.isPrefixOf, h, this]
theorem indexByte_hit {a b : List UInt8} {c : UInt8} (h : c ∉ a) : Lib.indexByte (a ++ c :: b) c = a.length := by
  induction a with
  | nil => simp [Lib.indexByte]
  | cons x a ih =>
    have hx : (x == c) = false := by simp; rintro rfl; exact h (by simp)
    have := ih (fun hm => h (by simp [hm]))
    have e : ((a.length : Int) == -1) = false := by simp
    simp [Lib.indexByte, hx, this, e]
theorem indexByte_miss {a : List UInt8} {c : UInt8} (h : c ∉ a) : Lib.indexByte a c = -1 := by
  induction a with
  | nil => rfl
  | cons x a ih =>
    have hx : (x == c) = false := by simp; rintro rfl; exact h (by simp)
    simp [Lib.indexByte, hx, ih (fun hm => h (by simp [hm]))]
theorem cut_colon {a b : List UInt8} {c : UInt8} (h : c ∉ a) : Lib.cut (a ++ c :: b) [c] = (a, b, true) := by
  unfold Lib.cut
  rw [index_one, indexByte_hit h]
  simp
theorem cut_nocolon {a : List UInt8} {c : UInt8} (h : c ∉ a) : Lib.cut a [c] = (a, [], false) := by
  unfold Lib.cut
  rw [index_one, indexByte_miss h]
  simp
theorem split_colon {s : List UInt8} {c : UInt8} (h : c ∈ s) : ∃ a b, s = a ++ c :: b ∧ c ∉ a := by
  induction s with
  | nil => cases h
  | cons x s ih =>
    by_cases e : x = c
    · exact ⟨[], s, by simp [e], by simp⟩
    · obtain ⟨a, b, rfl, hn⟩ := ih (by rcases List.mem_cons.1 h with h | h; exact absurd h.symm e; exact h)
      exact ⟨x :: a, b, rfl, by simp; exact ⟨fun h => e h.symm, hn⟩⟩

/- Blanks at the ends. -/
theorem contains_blank (c : UInt8) : ([32, 9] : List UInt8).contains c = blankB c := by
  cases h1 : (c == 32) <;> cases h2 : (c == 9) <;> simp [blankB, List.contains, List.elem, h1, h2]
theorem trimW_eq (l : List UInt8) : trimW l = ((l.reverse.dropWhile blankB).reverse).dropWhile blankB := by
  unfold trimW Lib.trimS Lib.trimLeftS Lib.trimRightS
  have : (fun x => ([32, 9] : List UInt8).contains x) = blankB := by funext c; exact contains_blank c
  simp only [this]

end Go.Proofs.YtkdngmhcfkfppaaGreatDoor
