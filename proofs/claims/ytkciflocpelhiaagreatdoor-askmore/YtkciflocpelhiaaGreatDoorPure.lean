/-
  Plain facts on bytes and lists: small letters in place of great ones; no program is named here.
  Plain facts on messages as lists of bytes: names, values, lines; what is shown, what is parsed. No program is named here.
  Plain facts on messages: what is parsed of a text, line by line; what is shown is parsed as it was. No program is named here.
  Plain facts on messages: what is parsed may be; a torn text; lines that are none. No program is named here.
-/
import Derived.WalkKit
import Derived.Lib.SlTrimSet
import Derived.Lib.IndexMore
import Derived.Lib.IndexLaws
namespace Go.Proofs.YtkciflocpelhiaaGreatDoor
open Go.RowKit

/-- One byte with a small letter in place of a great one. -/
def low1 (c : UInt8) : UInt8 := if 65 ≤ (c.toNat : Int) ∧ (c.toNat : Int) ≤ 90 then UInt8.ofNat (c.toNat + 32) else c

/-- A text so, byte by byte. -/
def lowL (l : List UInt8) : List UInt8 := l.map low1
def low (s : ByteArray) : ByteArray := ⟨(lowL s.data.toList).toArray⟩

theorem low1_yes {c : UInt8} (h : 65 ≤ (c.toNat : Int) ∧ (c.toNat : Int) ≤ 90) : ((low1 c).toNat : Int) = c.toNat + 32 := by
  unfold low1
  rw [if_pos h]
  have : c.toNat + 32 < 256 := by omega
  simp [UInt8.toNat_ofNat, Nat.mod_eq_of_lt this]
theorem low1_no {c : UInt8} (h : ¬ (65 ≤ (c.toNat : Int) ∧ (c.toNat : Int) ≤ 90)) : low1 c = c := by
  unfold low1
  rw [if_neg h]

theorem size_list (s : ByteArray) : s.data.toList.length = s.size := by rw [Array.length_toList]; rfl
theorem low_size (s : ByteArray) : (low s).size = s.size := by
  show (lowL s.data.toList).toArray.size = _
  simp only [lowL, List.size_toArray, List.length_map]
  exact size_list s
theorem low_list (s : ByteArray) : (low s).data.toList = lowL s.data.toList := by simp [low]

theorem low1_low1 (c : UInt8) : low1 (low1 c) = low1 c := by
  by_cases h : 65 ≤ (c.toNat : Int) ∧ (c.toNat : Int) ≤ 90
  · have := low1_yes h
    exact low1_no (by omega)
  · rw [low1_no h]; exact low1_no h
theorem lowL_lowL (l : List UInt8) : lowL (lowL l) = lowL l := by
  simp [lowL, low1_low1]
theorem low_low (s : ByteArray) : low (low s) = low s := by
  simp [low, lowL_lowL]

theorem take_snoc (s : ByteArray) (k : Nat) (h : k < s.size) : s.data.toList.take (k + 1) = s.data.toList.take k ++ [s[k]] := by
  rw [List.take_succ_eq_append_getElem (by simpa using h)]; rfl
theorem get_list (s : ByteArray) (k : Nat) (h : k < s.size) : s.data.toList[k]? = some s[k] := by
  rw [List.getElem?_eq_getElem (by simpa using h)]; rfl

theorem ret_int {k : IntKind} {a b : Int} (h : a = b) : Ending.returned (.int k a) = .returned (.int k b) := by rw [h]
theorem ret_bool {a b : Bool} (h : a = b) : Ending.returned (.bool a) = .returned (.bool b) := by rw [h]

/-- A row that bears a mark behind its last cell: no cell of it is frozen. -/
theorem frozen_mark {w : World} {g j n : Nat} {cs : Array Value} {t : TypeId} (hg : w.heap[g]? = some (.cells cs t (n, n + 1))) (hj : j < n) : w.frozen? ⟨g, j, none⟩ = false := by
  simp [World.frozen?, hg]; omega
theorem setCell_mark {w : World} {g i : Nat} {cs : Array Value} {t : TypeId} {fr : Nat × Nat} (v : Value) (hg : w.heap[g]? = some (.cells cs t fr)) :
    (w.setCell ⟨g, i, none⟩ v).heap[g]? = some (.cells (cs.setIfInBounds i v) t fr) := by
  rw [setCell_eq_setRow w g i cs t fr v hg]
  exact setRow_heap w g cs _ t _ hg

end Go.Proofs.YtkciflocpelhiaaGreatDoor

namespace Go.Proofs.YtkciflocpelhiaaGreatDoor
open Go.RowKit

/-- A text of a list of bytes. -/
def S (l : List UInt8) : ByteArray := ⟨l.toArray⟩
theorem S_list (s : ByteArray) : S s.data.toList = s := by cases s; simp [S]
theorem list_S (l : List UInt8) : (S l).data.toList = l := by simp [S]
theorem size_S (l : List UInt8) : (S l).size = l.length := by simp [S, ByteArray.size]
theorem S_inj {a b : List UInt8} (h : S a = S b) : a = b := by
  have := congrArg (fun s => s.data.toList) h
  simpa [list_S] using this

def blankB (c : UInt8) : Bool := c == 32 || c == 9
def nameC (c : UInt8) : Bool := decide (33 ≤ c.toNat) && decide (c.toNat ≤ 126) && c != 58
def nameB (l : List UInt8) : Bool := !l.isEmpty && l.all nameC
def trimW (l : List UInt8) : List UInt8 := Lib.trimS l [32, 9]
def hasEnd (l : List UInt8) : Bool := Lib.contains l [13, 10]
def valueB (l : List UInt8) : Bool := !hasEnd l && trimW l == l

abbrev F := List UInt8 × List UInt8
def mayF (f : F) : Bool := nameB f.1 && valueB f.2
def sizeF (f : F) : Nat := f.1.length + f.2.length + 4
def sumF (fs : List F) : Nat := (fs.map sizeF).sum
def textF (f : F) : List UInt8 := f.1 ++ [58, 32] ++ f.2 ++ [13, 10]
def linesF (fs : List F) : List UInt8 := (fs.map textF).flatten
def textM (fs : List F) (body : List UInt8) : List UInt8 := linesF fs ++ [13, 10] ++ body
def faultM (fs : List F) (body : List UInt8) : Int :=
  if 30 < fs.length then 5 else if fs.all mayF = false then 3 else if 2000 < 2 + body.length + sumF fs then 1 else 0

theorem length_textF (f : F) : (textF f).length = sizeF f := by simp [textF, sizeF]; omega
theorem length_linesF (fs : List F) : (linesF fs).length = sumF fs := by
  induction fs with
  | nil => rfl
  | cons f fs ih => simp [linesF, sumF] at ih ⊢; rw [length_textF, ih]
theorem length_textM (fs : List F) (body : List UInt8) : (textM fs body).length = 2 + body.length + sumF fs := by
  simp [textM, length_linesF]; omega
theorem sumF_snoc (fs : List F) (f : F) : sumF (fs ++ [f]) = sumF fs + sizeF f := by simp [sumF]
theorem take_some {α : Type} {l : List α} {k : Nat} {x : α} (h : l[k]? = some x) : l.take (k + 1) = l.take k ++ [x] := by
  obtain ⟨hk, rfl⟩ := List.getElem?_eq_some_iff.1 h
  exact List.take_succ_eq_append_getElem hk
theorem sumF_take {fs : List F} {k : Nat} {f : F} (h : fs[k]? = some f) : sumF (fs.take (k + 1)) = sumF (fs.take k) + sizeF f := by
  rw [take_some h, sumF_snoc]
theorem sumF_le (fs : List F) (k : Nat) : sumF (fs.take k) ≤ sumF fs := by
  have e : sumF fs = sumF (fs.take k) + sumF (fs.drop k) := by
    conv => lhs; rw [← List.take_append_drop k fs]
    unfold sumF
    rw [List.map_append, List.sum_append]
  omega
theorem linesF_snoc (fs : List F) (f : F) : linesF (fs ++ [f]) = linesF fs ++ textF f := by simp [linesF]

/- Lines. -/
def lineAt (s : List UInt8) (j : Nat) : Prop := s[j]? = some 13 ∧ s[j + 1]? = some 10
theorem occ_line (s : List UInt8) (j : Nat) : Lib.occAt s [13, 10] j = true ↔ lineAt s j := by
  unfold Lib.occAt lineAt
  rw [← List.head?_drop]
  have e : s[j + 1]? = (s.drop j).tail.head? := by rw [← List.drop_one, List.drop_drop, List.head?_drop]
  rw [e]
  cases h : s.drop j with
  | nil => simp
  | cons a t =>
    cases t with
    | nil => simp [List.isPrefixOf]
    | cons b t => simp [List.isPrefixOf]; constructor <;> rintro ⟨rfl, rfl⟩ <;> simp
theorem occ_no {s : List UInt8} {j : Nat} (h : ¬ lineAt s j) : Lib.occAt s [13, 10] j = false := by
  cases e : Lib.occAt s [13, 10] j with
  | false => rfl
  | true => exact absurd ((occ_line s j).1 e) h
theorem hasEnd_no {l : List UInt8} : hasEnd l = false ↔ ∀ j, ¬ lineAt l j := by
  constructor
  · intro h j hj
    have hl : j ≤ l.length := by
      have := hj.1
      rcases Nat.lt_or_ge j l.length with h' | h'
      · omega
      · rw [List.getElem?_eq_none h'] at this; cases this
    have := Lib.index_ge l [13, 10]
    have hne : Lib.index l [13, 10] = -1 := by
      simp [hasEnd, Lib.contains] at h; omega
    have hall : ∀ k, k ≤ j → ∀ i, i < k → Lib.occAt l [13, 10] i = false := by
      intro k
      induction k with
      | zero => intro _ i hi; omega
      | succ k ih =>
        intro hk i hi
        rcases Nat.lt_or_ge i k with h' | h'
        · exact ih (by omega) i h'
        · obtain rfl : i = k := by omega
          cases e : Lib.occAt l [13, 10] i with
          | false => rfl
          | true =>
            have := Lib.index_first (s := l) (sub := [13, 10]) (i := i) (by omega) e (ih (by omega))
            omega
    have := Lib.index_first (s := l) (sub := [13, 10]) (i := j) hl ((occ_line l j).2 hj) (hall j (Nat.le_refl _))
    omega
  · intro h
    have : Lib.index l [13, 10] = -1 := Lib.index_none fun j _ => occ_no (h j)
    simp [hasEnd, Lib.contains, this]

theorem index_line {a b : List UInt8} (h : hasEnd a = false) : Lib.index (a ++ [13, 10] ++ b) [13, 10] = a.length := by
  refine Lib.index_first (by simp) ((occ_line _ _).2 ⟨by simp, by simp⟩) fun j hj => occ_no fun hl => ?_
  rcases Nat.lt_or_ge (j + 1) a.length with h' | h'
  · refine (hasEnd_no.1 h) j ⟨?_, ?_⟩
    · have := hl.1; rw [List.append_assoc, List.getElem?_append_left hj] at this; exact this
    · have := hl.2; rw [List.append_assoc, List.getElem?_append_left h'] at this; exact this
  · have e : j + 1 = a.length := by omega
    have := hl.2
    rw [e] at this
    simp at this
theorem cut_line {a b : List UInt8} (h : hasEnd a = false) : Lib.cut (a ++ [13, 10] ++ b) [13, 10] = (a, b, true) := by
  unfold Lib.cut
  rw [index_line h]
  simp
theorem cut_none {s : List UInt8} (h : hasEnd s = false) : Lib.cut s [13, 10] = (s, [], false) := by
  unfold Lib.cut
  have : ¬ (0 ≤ Lib.index s [13, 10]) := by simpa [hasEnd, Lib.contains] using h
  rw [if_neg this]
/-- Where there is a line's end, the text is the line, its end, and what is behind. -/
theorem cut_some {s : List UInt8} (h : hasEnd s = true) : ∃ a b, s = a ++ [13, 10] ++ b ∧ hasEnd a = false := by
  have h0 : 0 ≤ Lib.index s [13, 10] := by simpa [hasEnd, Lib.contains] using h
  have : ¬ ∀ j, ¬ lineAt s j := fun hn => by rw [hasEnd_no.2 hn] at h; cases h
  have hex : ∃ j, lineAt s j := Classical.byContradiction fun hn => this fun j hj => hn ⟨j, hj⟩
  have key : ∀ n, ∀ s : List UInt8, s.length ≤ n → (∃ j, lineAt s j) → ∃ a b, s = a ++ [13, 10] ++ b ∧ hasEnd a = false := by
    intro n
    induction n with
    | zero => intro s hs ⟨j, hj⟩; have := hj.1; cases s <;> simp at hs this
    | succ n ih =>
      intro s hs ⟨j, hj⟩
      cases s with
      | nil => have := hj.1; simp at this
      | cons c t =>
        by_cases h0 : lineAt (c :: t) 0
        · obtain ⟨h1, h2⟩ := h0
          cases t with
          | nil => simp at h2
          | cons d t => simp at h1 h2; subst h1 h2; exact ⟨[], t, rfl, by decide⟩
        · have hj0 : j ≠ 0 := fun e => h0 (e ▸ hj)
          obtain ⟨k, rfl⟩ := Nat.exists_eq_succ_of_ne_zero hj0
          obtain ⟨a, b, e, ha⟩ := ih t (by simp at hs; omega) ⟨k, by simpa [lineAt] using hj⟩
          refine ⟨c :: a, b, by rw [e]; simp, hasEnd_no.2 fun i hi => ?_⟩
          cases i with
          | zero =>
            refine h0 ?_
            obtain ⟨h1, h2⟩ := hi
            refine ⟨by simpa using h1, ?_⟩
            cases a with
            | nil => simp at h2
            | cons d a => rw [e]; simpa using h2
          | succ i => exact hasEnd_no.1 ha i (by simpa [lineAt] using hi)
  exact key s.length s (Nat.le_refl _) hex

/- Colons. -/
theorem index_one (l : List UInt8) (c : UInt8) : Lib.index l [c] = Lib.indexByte l c := by
  induction l with
  | nil => rfl
  | cons b l ih =>
    unfold Lib.index Lib.indexByte
    rw [ih]
    by_cases h : b = c
    · subst h; simp
    · have : (c == b) = false := by simp; exact fun e => h e.symm
      simp [List.isPrefixOf, h, this]
theorem indexByte_hit {a b : List UInt8} {c : UInt8} (h : c ∉ a) : Lib.indexByte (a ++ c :: b) c = a.length := by
  induction a with
  | nil => simp [Lib.indexByte]
  | cons x a ih =>
    have hx : (x == c) = false := by simp; rintro rfl; exact h (by simp)
    have := ih (fun hm => h (by simp [hm]))
    have e : ((a.length : Int) == -1) = false := by simp
    simp [Lib.indexByte, hx, this, e]
theorem indexByte_miss {a : List UInt8} {c : UInt8} (h : c ∉ a) : Lib.indexByte a c = -1 := by
  induction a with
  | nil => rfl
  | cons x a ih =>
    have hx : (x == c) = false := by simp; rintro rfl; exact h (by simp)
    simp [Lib.indexByte, hx, ih (fun hm => h (by simp [hm]))]
theorem cut_colon {a b : List UInt8} {c : UInt8} (h : c ∉ a) : Lib.cut (a ++ c :: b) [c] = (a, b, true) := by
  unfold Lib.cut
  rw [index_one, indexByte_hit h]
  simp
theorem cut_nocolon {a : List UInt8} {c : UInt8} (h : c ∉ a) : Lib.cut a [c] = (a, [], false) := by
  unfold Lib.cut
  rw [index_one, indexByte_miss h]
  simp
theorem split_colon {s : List UInt8} {c : UInt8} (h : c ∈ s) : ∃ a b, s = a ++ c :: b ∧ c ∉ a := by
  induction s with
  | nil => cases h
  | cons x s ih =>
    by_cases e : x = c
    · exact ⟨[], s, by simp [e], by simp⟩
    · obtain ⟨a, b, rfl, hn⟩ := ih (by rcases List.mem_cons.1 h with h | h; exact absurd h.symm e; exact h)
      exact ⟨x :: a, b, rfl, by simp; exact ⟨fun h => e h.symm, hn⟩⟩

/- Blanks at the ends. -/
theorem contains_blank (c : UInt8) : ([32, 9] : List UInt8).contains c = blankB c := by
  cases h1 : (c == 32) <;> cases h2 : (c == 9) <;> simp [blankB, List.contains, List.elem, h1, h2]
theorem trimW_eq (l : List UInt8) : trimW l = ((l.reverse.dropWhile blankB).reverse).dropWhile blankB := by
  unfold trimW Lib.trimS Lib.trimLeftS Lib.trimRightS
  have : (fun x => ([32, 9] : List UInt8).contains x) = blankB := by funext c; exact contains_blank c
  simp only [this]

end Go.Proofs.YtkciflocpelhiaaGreatDoor

namespace Go.Proofs.YtkciflocpelhiaaGreatDoor
open Go.RowKit

def goesOn (raw : List F) (line : List UInt8) : Bool := !raw.isEmpty && (line.head?.map blankB).getD false
def addLast (raw : List F) (line : List UInt8) : List F := raw.dropLast ++ [((raw.getLast?.getD ([], [])).1, (raw.getLast?.getD ([], [])).2 ++ line)]
def takeF (raw : List F) (line : List UInt8) : List F × Int :=
  if goesOn raw line = true then (addLast raw line, 0)
  else if (Lib.cut line [58]).2.2 = false ∨ nameB (Lib.cut line [58]).1 = false then ([], 3)
  else if raw.length = 30 then ([], 5)
  else (raw ++ [((Lib.cut line [58]).1, (Lib.cut line [58]).2.1)], 0)
def trimF (f : F) : F := (f.1, trimW f.2)
abbrev Res := List F × List UInt8 × Int × Int

theorem cut_lt {s : List UInt8} (h : hasEnd s = true) : (Lib.cut s [13, 10]).2.1.length < s.length := by
  obtain ⟨a, b, rfl, ha⟩ := cut_some h
  rw [cut_line ha]
  simp; omega

def parseF : Nat → Int → List F → List UInt8 → Res
  | 0, p, _, _ => ([], [], p, 4)
  | n + 1, p, raw, s =>
    if hasEnd s = true then
      if (Lib.cut s [13, 10]).1 = [] then (raw.map trimF, (Lib.cut s [13, 10]).2.1, 0, 0)
      else if (takeF raw (Lib.cut s [13, 10]).1).2 = 0 then parseF n (p + 1) (takeF raw (Lib.cut s [13, 10]).1).1 (Lib.cut s [13, 10]).2.1
      else ([], [], p, (takeF raw (Lib.cut s [13, 10]).1).2)
    else ([], [], p, 4)
theorem parseF_more : ∀ (n m : Nat) (p : Int) (raw : List F) (s : List UInt8), s.length < n → s.length < m → parseF n p raw s = parseF m p raw s := by
  intro n
  induction n with
  | zero => intro m p raw s h1; omega
  | succ n ih =>
    intro m p raw s h1 h2
    cases m with
    | zero => omega
    | succ m =>
      simp only [parseF]
      by_cases h : hasEnd s = true
      · have k := cut_lt h
        rw [ih m (p + 1) _ (Lib.cut s [13, 10]).2.1 (by omega) (by omega)]
      · rw [if_neg h, if_neg h]
def parseR (p : Int) (raw : List F) (s : List UInt8) : Res := parseF (s.length + 1) p raw s
theorem parseR_eq (p : Int) (raw : List F) (s : List UInt8) : parseR p raw s =
    if hasEnd s = true then
      if (Lib.cut s [13, 10]).1 = [] then (raw.map trimF, (Lib.cut s [13, 10]).2.1, 0, 0)
      else if (takeF raw (Lib.cut s [13, 10]).1).2 = 0 then parseR (p + 1) (takeF raw (Lib.cut s [13, 10]).1).1 (Lib.cut s [13, 10]).2.1
      else ([], [], p, (takeF raw (Lib.cut s [13, 10]).1).2)
    else ([], [], p, 4) := by
  show parseF (s.length + 1) p raw s = _
  simp only [parseF]
  by_cases h : hasEnd s = true
  · have k := cut_lt h
    rw [parseF_more s.length ((Lib.cut s [13, 10]).2.1.length + 1) (p + 1) _ (Lib.cut s [13, 10]).2.1 (by omega) (by omega)]
    rfl
  · rw [if_neg h, if_neg h]

def parseM (s : List UInt8) : Res := if 2000 < s.length then ([], [], 0, 1) else parseR 0 [] s

theorem parse_short {p : Int} {raw : List F} {s : List UInt8} (h : hasEnd s = false) : parseR p raw s = ([], [], p, 4) := by
  rw [parseR_eq, if_neg (by simp [h])]
theorem hasEnd_yes (a b : List UInt8) : hasEnd (a ++ [13, 10] ++ b) = true := by
  cases h : hasEnd (a ++ [13, 10] ++ b) with
  | true => rfl
  | false => exact absurd ⟨by simp, by simp⟩ (hasEnd_no.1 h a.length)
theorem parse_end (p : Int) (raw : List F) (b : List UInt8) : parseR p raw ([13, 10] ++ b) = (raw.map trimF, b, 0, 0) := by
  have h := hasEnd_yes [] b
  have c := cut_line (a := []) (b := b) (by decide)
  rw [List.nil_append] at h c
  rw [parseR_eq, if_pos h, c]
  simp
theorem parse_line {p : Int} {raw : List F} {a b : List UInt8} (ha : hasEnd a = false) (h0 : a ≠ []) :
    parseR p raw (a ++ [13, 10] ++ b) = if (takeF raw a).2 = 0 then parseR (p + 1) (takeF raw a).1 b else ([], [], p, (takeF raw a).2) := by
  rw [parseR_eq, if_pos (hasEnd_yes a b), cut_line ha, if_neg h0]
theorem parse_go {p : Int} {raw : List F} {a b : List UInt8} (ha : hasEnd a = false) (h0 : a ≠ []) (ht : (takeF raw a).2 = 0) :
    parseR p raw (a ++ [13, 10] ++ b) = parseR (p + 1) (takeF raw a).1 b := by
  rw [parse_line ha h0, if_pos ht]
theorem parse_bad {p : Int} {raw : List F} {a b : List UInt8} (ha : hasEnd a = false) (h0 : a ≠ []) (ht : (takeF raw a).2 ≠ 0) :
    parseR p raw (a ++ [13, 10] ++ b) = ([], [], p, (takeF raw a).2) := by
  rw [parse_line ha h0, if_neg ht]

/- Line's ends, in parts of a text. -/
theorem lineAt_app {a b : List UInt8} {j : Nat} (h : lineAt b j) : lineAt (a ++ b) (a.length + j) := by
  refine ⟨?_, ?_⟩
  · rw [List.getElem?_append_right (by omega)]; simpa using h.1
  · rw [List.getElem?_append_right (by omega)]; have := h.2; simpa [Nat.add_sub_cancel_left, Nat.add_assoc] using this
theorem lineAt_lt {a : List UInt8} {j : Nat} (h : lineAt a j) : j + 1 < a.length := by
  have := h.2
  rcases Nat.lt_or_ge (j + 1) a.length with h' | h'
  · exact h'
  · rw [List.getElem?_eq_none h'] at this; cases this
theorem lineAt_left {a b : List UInt8} {j : Nat} (h : lineAt a j) : lineAt (a ++ b) j := by
  have hl := lineAt_lt h
  exact ⟨by rw [List.getElem?_append_left (by omega)]; exact h.1, by rw [List.getElem?_append_left hl]; exact h.2⟩
theorem hasEnd_mid {a m b : List UInt8} (h : hasEnd (a ++ m ++ b) = false) : hasEnd m = false := by
  refine hasEnd_no.2 fun j hj => ?_
  rw [hasEnd_no] at h
  exact h _ (lineAt_left (lineAt_app hj))
theorem hasEnd_app {a b : List UInt8} (ha : hasEnd a = false) (hb : hasEnd b = false) (hj : b.head? ≠ some 10) : hasEnd (a ++ b) = false := by
  refine hasEnd_no.2 fun j hl => ?_
  rcases Nat.lt_or_ge (j + 1) a.length with h | h
  · exact hasEnd_no.1 ha j ⟨by have := hl.1; rwa [List.getElem?_append_left (by omega)] at this, by have := hl.2; rwa [List.getElem?_append_left h] at this⟩
  · rcases Nat.lt_or_ge j a.length with h' | h'
    · have e : j + 1 = a.length := by omega
      have := hl.2
      rw [List.getElem?_append_right h, e, Nat.sub_self] at this
      exact hj (by rw [List.head?_eq_getElem?]; exact this)
    · refine hasEnd_no.1 hb (j - a.length) ⟨by have := hl.1; rwa [List.getElem?_append_right h'] at this, ?_⟩
      have := hl.2
      rw [List.getElem?_append_right h] at this
      have e : j + 1 - a.length = j - a.length + 1 := by omega
      rwa [e] at this
theorem hasEnd_pre {a b : List UInt8} (ha : (13 : UInt8) ∉ a) (hb : hasEnd b = false) : hasEnd (a ++ b) = false := by
  refine hasEnd_no.2 fun j hl => ?_
  rcases Nat.lt_or_ge j a.length with h | h
  · have := hl.1
    rw [List.getElem?_append_left h] at this
    exact ha (List.mem_of_getElem? this)
  · refine hasEnd_no.1 hb (j - a.length) ⟨by have := hl.1; rwa [List.getElem?_append_right h] at this, ?_⟩
    have := hl.2
    rw [List.getElem?_append_right (by omega)] at this
    have e : j + 1 - a.length = j - a.length + 1 := by omega
    rwa [e] at this
theorem hasEnd_nil : hasEnd [] = false := by decide
theorem hasEnd_plain {a : List UInt8} (ha : (13 : UInt8) ∉ a) : hasEnd a = false := by
  have := hasEnd_pre ha hasEnd_nil; simpa using this

/- Names. -/
theorem nameC_le {c : UInt8} (h : nameC c = true) : 33 ≤ c.toNat ∧ c.toNat ≤ 126 ∧ c ≠ 58 := by
  simp [nameC] at h; exact ⟨h.1.1, h.1.2, h.2⟩
theorem name_mem {n : List UInt8} (h : nameB n = true) {c : UInt8} (hc : c ∈ n) : nameC c = true := by
  simp [nameB] at h; exact h.2 c hc
theorem name_not {n : List UInt8} (h : nameB n = true) {c : UInt8} (hc : nameC c = false) : c ∉ n := fun hm => by
  rw [name_mem h hm] at hc; cases hc
theorem name_ne {n : List UInt8} (h : nameB n = true) : n ≠ [] := by rintro rfl; simp [nameB] at h
theorem name_head {n : List UInt8} (h : nameB n = true) (t : List UInt8) : (((n ++ t).head?).map blankB).getD false = false := by
  cases n with
  | nil => simp [nameB] at h
  | cons c n =>
    have := nameC_le (name_mem h (c := c) (by simp))
    simp only [List.cons_append, List.head?_cons, Option.map_some, Option.getD_some, blankB, Bool.or_eq_false_iff, beq_eq_false_iff_ne]
    exact ⟨by rintro rfl; exact absurd this.1 (by decide), by rintro rfl; exact absurd this.1 (by decide)⟩

/- Fields, a line each. -/
def rawB (f : F) : Bool := nameB f.1 && !hasEnd f.2
def lineC (f : F) : List UInt8 := f.1 ++ 58 :: f.2
def linesC (fs : List F) : List UInt8 := (fs.map fun f => lineC f ++ [13, 10]).flatten
theorem takeF_field {raw : List F} {f : F} (h : nameB f.1 = true) (hr : raw.length < 30) : takeF raw (lineC f) = (raw ++ [f], 0) := by
  unfold takeF lineC
  have hg : goesOn raw (f.1 ++ 58 :: f.2) = false := by unfold goesOn; rw [name_head h]; simp
  rw [hg, cut_colon (name_not h (by decide)), if_neg (by simp), if_neg (by simp [h]), if_neg (by omega)]
theorem lineC_end {f : F} (h : rawB f = true) : hasEnd (lineC f) = false := by
  simp [rawB] at h
  have e : lineC f = (f.1 ++ [58]) ++ f.2 := by simp [lineC]
  rw [e]
  refine hasEnd_pre ?_ h.2
  have := name_not h.1 (c := 13) (by decide)
  simp [this]
theorem lineC_ne (f : F) : lineC f ≠ [] := by simp [lineC]
theorem parse_fields {p : Int} {raw : List F} {fs : List F} {rest : List UInt8} (h : ∀ f ∈ fs, rawB f = true) (hr : raw.length + fs.length ≤ 30) :
    parseR p raw (linesC fs ++ rest) = parseR (p + fs.length) (raw ++ fs) rest := by
  induction fs generalizing p raw with
  | nil => simp [linesC]
  | cons f fs ih =>
    have hf := h f (by simp)
    have e : linesC (f :: fs) ++ rest = lineC f ++ [13, 10] ++ (linesC fs ++ rest) := by simp [linesC]
    have hn : nameB f.1 = true := by simp [rawB] at hf; exact hf.1
    simp only [List.length_cons] at hr
    have ht := takeF_field (raw := raw) (f := f) hn (by omega)
    rw [e, parse_go (lineC_end hf) (lineC_ne f) (by rw [ht]), ht, ih (fun g hg => h g (by simp [hg])) (by simp; omega)]
    simp only [List.append_assoc, List.singleton_append, List.length_cons, Int.natCast_add, Int.natCast_one]
    congr 1
    omega

/- Blanks at the ends. -/
theorem dropWhile_all {p : UInt8 → Bool} {a b : List UInt8} (h : ∀ x ∈ a, p x = true) : (a ++ b).dropWhile p = b.dropWhile p := by
  induction a with
  | nil => rfl
  | cons x a ih => simp [h x (by simp)]; exact ih fun y hy => h y (by simp [hy])
theorem dropWhile_head {p : UInt8 → Bool} {a : List UInt8} (h : ∀ x, a.head? = some x → p x = false) : a.dropWhile p = a := by
  cases a with
  | nil => rfl
  | cons x a => simp [h x rfl]
theorem trim_core {a m b : List UInt8} (ha : ∀ x ∈ a, blankB x = true) (hb : ∀ x ∈ b, blankB x = true) (hh : ∀ x, m.head? = some x → blankB x = false) (hl : ∀ x, m.getLast? = some x → blankB x = false) :
    trimW (a ++ m ++ b) = m := by
  rw [trimW_eq]
  have e : (a ++ m ++ b).reverse = b.reverse ++ (m.reverse ++ a.reverse) := by simp
  rw [e, dropWhile_all (by simpa using hb)]
  cases hm : m with
  | nil =>
    have : (a.reverse).dropWhile blankB = [] := by
      have := dropWhile_all (p := blankB) (a := a.reverse) (b := []) (by simpa using ha)
      simpa using this
    simp [this]
  | cons x t =>
    rw [← hm]
    have h1 : (m.reverse ++ a.reverse).dropWhile blankB = m.reverse ++ a.reverse := dropWhile_head fun y hy => by
      have : (m.reverse).head? = some y := by
        cases hr : m.reverse with
        | nil => simp [hm] at hr
        | cons z u => rw [hr] at hy; simpa using hy
      exact hl y (by rw [List.head?_reverse] at this; exact this)
    rw [h1]
    simp only [List.reverse_append, List.reverse_reverse]
    rw [dropWhile_all ha]
    exact dropWhile_head hh
theorem trim_split (l : List UInt8) : ∃ a m b, l = a ++ m ++ b ∧ (∀ x ∈ a, blankB x = true) ∧ (∀ x ∈ b, blankB x = true) ∧ (∀ x, m.head? = some x → blankB x = false) ∧ (∀ x, m.getLast? = some x → blankB x = false) := by
  have tw : ∀ l : List UInt8, ∀ x ∈ l.takeWhile blankB, blankB x = true := by
    intro l
    induction l with
    | nil => simp
    | cons c l ih =>
      intro x hx
      rw [List.takeWhile_cons] at hx
      split at hx
      · rcases List.mem_cons.1 hx with rfl | h
        · assumption
        · exact ih x h
      · cases hx
  have dw : ∀ l : List UInt8, ∀ x, (l.dropWhile blankB).head? = some x → blankB x = false := by
    intro l
    induction l with
    | nil => simp
    | cons c l ih =>
      intro x hx
      rw [List.dropWhile_cons] at hx
      split at hx
      · exact ih x hx
      · rename_i hc; simp at hx; subst hx; exact Bool.eq_false_iff.2 hc
  refine ⟨l.takeWhile blankB, ((l.dropWhile blankB).reverse.dropWhile blankB).reverse, ((l.dropWhile blankB).reverse.takeWhile blankB).reverse, ?_, tw l, ?_, ?_, ?_⟩
  · rw [List.append_assoc, ← List.reverse_append, List.takeWhile_append_dropWhile, List.reverse_reverse, List.takeWhile_append_dropWhile]
  · intro x hx; exact tw _ x (by simpa using hx)
  · intro x hx
    cases hr : (l.dropWhile blankB).reverse.dropWhile blankB with
    | nil => rw [hr] at hx; simp at hx
    | cons y t =>
      refine dw l x ?_
      have e : l.dropWhile blankB = ((l.dropWhile blankB).reverse.dropWhile blankB).reverse ++ ((l.dropWhile blankB).reverse.takeWhile blankB).reverse := by
        rw [← List.reverse_append, List.takeWhile_append_dropWhile, List.reverse_reverse]
      rw [e]
      cases hz : ((l.dropWhile blankB).reverse.dropWhile blankB).reverse with
      | nil => rw [hr] at hz; simp at hz
      | cons z u => rw [hz] at hx; simpa using hx
  · intro x hx
    rw [List.getLast?_reverse] at hx
    exact dw _ x hx
theorem trim_idem (l : List UInt8) : trimW (trimW l) = trimW l := by
  obtain ⟨a, m, b, rfl, ha, hb, hh, hl⟩ := trim_split l
  rw [trim_core ha hb hh hl]
  have := trim_core (a := []) (m := m) (b := []) (by simp) (by simp) hh hl
  simpa using this
theorem trim_end {l : List UInt8} (h : hasEnd l = false) : hasEnd (trimW l) = false := by
  obtain ⟨a, m, b, rfl, ha, hb, hh, hl⟩ := trim_split l
  rw [trim_core ha hb hh hl]
  exact hasEnd_mid h
theorem trim_len (l : List UInt8) : (trimW l).length ≤ l.length := by
  obtain ⟨a, m, b, rfl, ha, hb, hh, hl⟩ := trim_split l
  rw [trim_core ha hb hh hl]
  simp; omega
theorem trim_blank {c : UInt8} (hc : blankB c = true) (l : List UInt8) : trimW (c :: l) = trimW l := by
  obtain ⟨a, m, b, rfl, ha, hb, hh, hl⟩ := trim_split l
  rw [trim_core ha hb hh hl]
  have := trim_core (a := c :: a) (m := m) (b := b) (fun x hx => by rcases List.mem_cons.1 hx with rfl | h; exact hc; exact ha x h) hb hh hl
  simpa using this
/-- The reference's way: the left end first. -/
theorem trim_left (l : List UInt8) : ((l.dropWhile blankB).reverse.dropWhile blankB).reverse = trimW l := by
  obtain ⟨a, m, b, rfl, ha, hb, hh, hl⟩ := trim_split l
  rw [trim_core ha hb hh hl, List.append_assoc, dropWhile_all ha]
  cases hm : m with
  | nil =>
    have : b.dropWhile blankB = [] := by have := dropWhile_all (p := blankB) (a := b) (b := []) hb; simpa using this
    simp [this]
  | cons x t =>
    rw [← hm]
    have h1 : (m ++ b).dropWhile blankB = m ++ b := dropWhile_head fun y hy => hh y (by rw [hm] at hy ⊢; simpa using hy)
    rw [h1, List.reverse_append, dropWhile_all (by simpa using hb)]
    rw [dropWhile_head (a := m.reverse) (fun y hy => hl y (by rw [List.head?_reverse] at hy; exact hy)), List.reverse_reverse]

/- What is shown is parsed as it was. -/
def inF (f : F) : F := (f.1, 32 :: f.2)
theorem may_raw {f : F} (h : mayF f = true) : rawB (inF f) = true := by
  simp [mayF, valueB] at h
  simp only [rawB, inF, Bool.and_eq_true, Bool.not_eq_true']
  refine ⟨h.1, ?_⟩
  have := hasEnd_pre (a := [32]) (b := f.2) (by decide) (by simpa using h.2.1)
  simpa using this
theorem lines_eq (fs : List F) : linesF fs = linesC (fs.map inF) := by
  induction fs with
  | nil => rfl
  | cons f fs ih =>
    simp only [linesF, linesC, List.map_cons, List.flatten_cons] at ih ⊢
    rw [ih]
    simp [textF, lineC, inF]
theorem trim_in {f : F} (h : mayF f = true) : trimF (inF f) = f := by
  simp [mayF, valueB] at h
  simp only [trimF, inF]
  rw [trim_blank (by decide), h.2.2]
theorem parse_text {p : Int} {fs : List F} {body : List UInt8} (h : ∀ f ∈ fs, mayF f = true) (hl : fs.length ≤ 30) : parseR p [] (textM fs body) = (fs, body, 0, 0) := by
  have e : textM fs body = linesC (fs.map inF) ++ ([13, 10] ++ body) := by simp [textM, lines_eq]
  rw [e, parse_fields (fun g hg => by obtain ⟨f, hf, rfl⟩ := List.mem_map.1 hg; exact may_raw (h f hf)) (by simpa using hl), parse_end]
  simp only [List.nil_append, List.map_map]
  congr 1
  rw [show fs.map (trimF ∘ inF) = fs.map id from List.map_congr_left fun f hf => trim_in (h f hf)]
  simp

end Go.Proofs.YtkciflocpelhiaaGreatDoor

namespace Go.Proofs.YtkciflocpelhiaaGreatDoor
open Go.RowKit

theorem cut_yes {a : List UInt8} (h : (Lib.cut a [58]).2.2 = true) : a = (Lib.cut a [58]).1 ++ 58 :: (Lib.cut a [58]).2.1 := by
  by_cases hm : (58 : UInt8) ∈ a
  · obtain ⟨n, v, rfl, hn⟩ := split_colon hm
    rw [cut_colon hn]
  · rw [cut_nocolon hm] at h; cases h
theorem last_split {raw : List F} (h0 : raw ≠ []) : raw = raw.dropLast ++ [raw.getLast?.getD ([], [])] := by
  rw [List.getLast?_eq_some_getLast h0]
  exact (List.dropLast_concat_getLast h0).symm
theorem takeF_all {raw : List F} {a : List UInt8} (P Q : F → Prop) (hr : ∀ f ∈ raw, P f) (hPQ : ∀ f, P f → Q f) (h1 : ∀ f, P f → (a.head?.map blankB).getD false = true → Q (f.1, f.2 ++ a))
    (h2 : (Lib.cut a [58]).2.2 = true → nameB (Lib.cut a [58]).1 = true → Q ((Lib.cut a [58]).1, (Lib.cut a [58]).2.1)) : ∀ f ∈ (takeF raw a).1, Q f := by
  unfold takeF
  split
  · rename_i hg
    have h0 : raw ≠ [] := by rintro rfl; simp [goesOn] at hg
    have hb : (a.head?.map blankB).getD false = true := by unfold goesOn at hg; simp only [Bool.and_eq_true] at hg; exact hg.2
    have hs := last_split h0
    intro f hf
    unfold addLast at hf
    rcases List.mem_append.1 hf with h | h
    · exact hPQ f (hr f ((List.dropLast_sublist raw).subset h))
    · simp only [List.mem_singleton] at h
      subst h
      exact h1 _ (hr _ (by rw [hs]; simp)) hb
  · split
    · simp
    · rename_i hc
      simp only [not_or, Bool.not_eq_false] at hc
      split
      · simp
      · intro f hf
        rcases List.mem_append.1 hf with h | h
        · exact hPQ f (hr f h)
        · simp only [List.mem_singleton] at h
          subst h
          exact h2 hc.1 hc.2
theorem takeF_len {raw : List F} {a : List UInt8} (hr : raw.length ≤ 30) : (takeF raw a).1.length ≤ 30 := by
  unfold takeF
  split
  · rename_i hg
    have h0 : raw ≠ [] := by rintro rfl; simp [goesOn] at hg
    have := List.length_pos_iff.2 h0
    simp [addLast]; omega
  · split
    · simp
    · split
      · simp
      · simp; omega
theorem takeF_raw {raw : List F} {a : List UInt8} (hr : ∀ f ∈ raw, rawB f = true) (ha : hasEnd a = false) : ∀ f ∈ (takeF raw a).1, rawB f = true := by
  refine takeF_all (fun f => rawB f = true) (fun f => rawB f = true) hr (fun _ h => h) ?_ ?_
  · intro f hf hb
    simp [rawB] at hf ⊢
    refine ⟨hf.1, hasEnd_app hf.2 ha ?_⟩
    intro h
    rw [h] at hb
    exact absurd hb (by decide)
  · intro h1 h2
    have e := cut_yes h1
    simp only [rawB, h2, Bool.true_and, Bool.not_eq_true']
    rw [e] at ha
    have : hasEnd (((Lib.cut a [58]).1 ++ [58]) ++ (Lib.cut a [58]).2.1 ++ []) = false := by simpa using ha
    exact hasEnd_mid this
/-- What is parsed may be; what is refused is empty. -/
theorem parse_inv : ∀ (n : Nat) (s : List UInt8), s.length ≤ n → ∀ (p : Int) (raw : List F), (∀ f ∈ raw, rawB f = true) → raw.length ≤ 30 →
    ((parseR p raw s).2.2.2 = 0 → (∀ f ∈ (parseR p raw s).1, mayF f = true) ∧ (parseR p raw s).1.length ≤ 30 ∧ (parseR p raw s).2.2.1 = 0) ∧
    ((parseR p raw s).2.2.2 ≠ 0 → (parseR p raw s).1 = [] ∧ (parseR p raw s).2.1 = [] ∧ p ≤ (parseR p raw s).2.2.1) := by
  intro n
  induction n with
  | zero =>
    intro s hs p raw _ _
    have : s = [] := List.length_eq_zero_iff.1 (by omega)
    subst this
    rw [parse_short hasEnd_nil]
    exact ⟨fun h => (by cases h), fun _ => ⟨rfl, rfl, Int.le_refl _⟩⟩
  | succ n ih =>
    intro s hs p raw hr hl
    cases hE : hasEnd s with
    | false =>
      rw [parse_short hE]
      exact ⟨fun h => (by cases h), fun _ => ⟨rfl, rfl, Int.le_refl _⟩⟩
    | true =>
      obtain ⟨a, b, rfl, ha⟩ := cut_some hE
      by_cases h0 : a = []
      · subst h0
        rw [List.nil_append, parse_end]
        refine ⟨fun _ => ⟨?_, by simpa using hl, rfl⟩, fun h => absurd rfl h⟩
        intro f hf
        obtain ⟨g, hg, rfl⟩ := List.mem_map.1 hf
        have := hr g hg
        simp only [rawB, Bool.and_eq_true, Bool.not_eq_true'] at this
        simp only [mayF, valueB, trimF, this.1, trim_end this.2, trim_idem, Bool.true_and, Bool.not_false, beq_self_eq_true]
      · by_cases ht : (takeF raw a).2 = 0
        · rw [parse_go ha h0 ht]
          have := ih b (by simp at hs; omega) (p + 1) (takeF raw a).1 (takeF_raw hr ha) (takeF_len hl)
          exact ⟨this.1, fun h => by obtain ⟨h1, h2, h3⟩ := this.2 h; exact ⟨h1, h2, by omega⟩⟩
        · rw [parse_bad ha h0 ht]
          exact ⟨fun h => absurd h ht, fun _ => ⟨rfl, rfl, Int.le_refl _⟩⟩
/-- How long what is parsed is. -/
theorem parse_size (N : Nat) : ∀ (n : Nat) (s : List UInt8), s.length ≤ n → ∀ (p : Int) (raw : List F), s.length ≤ N → (∀ f ∈ raw, f.1.length ≤ N ∧ f.2.length + s.length ≤ N) →
    (∀ f ∈ (parseR p raw s).1, f.1.length ≤ N ∧ f.2.length ≤ N) ∧ (parseR p raw s).2.1.length ≤ N := by
  intro n
  induction n with
  | zero =>
    intro s hs p raw _ _
    have : s = [] := List.length_eq_zero_iff.1 (by omega)
    subst this
    rw [parse_short hasEnd_nil]
    simp
  | succ n ih =>
    intro s hs p raw hN hr
    cases hE : hasEnd s with
    | false => rw [parse_short hE]; simp
    | true =>
      obtain ⟨a, b, rfl, ha⟩ := cut_some hE
      have hlen : (a ++ [13, 10] ++ b).length = a.length + 2 + b.length := by simp; omega
      by_cases h0 : a = []
      · subst h0
        rw [List.nil_append, parse_end]
        refine ⟨?_, by simp at hN ⊢; omega⟩
        intro f hf
        obtain ⟨g, hg, rfl⟩ := List.mem_map.1 hf
        have := hr g hg
        have ht := trim_len g.2
        exact ⟨this.1, by simp only [trimF]; omega⟩
      · by_cases ht : (takeF raw a).2 = 0
        · rw [parse_go ha h0 ht]
          refine ih b (by omega) (p + 1) _ (by omega) ?_
          refine takeF_all (fun f => f.1.length ≤ N ∧ f.2.length + (a ++ [13, 10] ++ b).length ≤ N) (fun f => f.1.length ≤ N ∧ f.2.length + b.length ≤ N) hr (fun f h => ⟨h.1, by omega⟩) ?_ ?_
          · intro f h _
            exact ⟨h.1, by simp only [List.length_append]; omega⟩
          · intro h1 _
            have e := congrArg List.length (cut_yes h1)
            simp only [List.length_append, List.length_cons] at e
            exact ⟨by simp only; omega, by simp only; omega⟩
        · rw [parse_bad ha h0 ht]; simp
end Go.Proofs.YtkciflocpelhiaaGreatDoor
