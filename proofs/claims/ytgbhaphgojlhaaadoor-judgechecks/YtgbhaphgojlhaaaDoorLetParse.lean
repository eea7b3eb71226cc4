/-
  Plain facts on messages: what is parsed of a text, line by line; what is shown is parsed as it was. No program is named here.
-/
import Derived.Test.YtgbhaphgojlhaaaDoorLetPure
namespace Go.Proofs.YtgbhaphgojlhaaaDoor
open Go.RowKit

def goesOn (raw : List F) (line : List UInt8) : Bool := !raw.isEmpty && (line.head?.map blankB).getD false
def addLast (raw : List F) (line : List UInt8) : List F := raw.dropLast ++ [((raw.getLast?.getD ([], [])).1, (raw.getLast?.getD ([], [])).2 ++ line)]
def takeF (raw : List F) (line : List UInt8) : List F × Int :=
  if goesOn raw line = true then (addLast raw line, 0)
  else if (Lib.cut line [58]).2.2 = false ∨ nameB (Lib.cut line [58]).1 = false then ([], 3)
  else if raw.length = 30 then ([], 5)
  else (raw ++ [((Lib.cut line [58]).1, (Lib.cut line [58]).2.1)], 0)
def trimF (f : F) : F := (f.1, trimW f.2)
abbrev Res := List F × List UInt8 × Int × Int

theorem cut_lt {s : List UInt8} (h : hasEnd s = true) : (Lib.cut s [13, 10]).2.1.length < s.length := by
  obtain ⟨a, b, rfl, ha⟩ := cut_some h
  rw [cut_line ha]
  simp; omega

def parseF : Nat → Int → List F → List UInt8 → Res
  | 0, p, _, _ => ([], [], p, 4)
  | n + 1, p, raw, s =>
    if hasEnd s = true then
      if (Lib.cut s [13, 10]).1 = [] then (raw.map trimF, (Lib.cut s [13, 10]).2.1, 0, 0)
      else if (takeF raw (Lib.cut s [13, 10]).1).2 = 0 then parseF n (p + 1) (takeF raw (Lib.cut s [13, 10]).1).1 (Lib.cut s [13, 10]).2.1
      else ([], [], p, (takeF raw (Lib.cut s [13, 10]).1).2)
    else ([], [], p, 4)
theorem parseF_more : ∀ (n m : Nat) (p : Int) (raw : List F) (s : List UInt8), s.length < n → s.length < m → parseF n p raw s = parseF m p raw s := by
  intro n
  induction n with
  | zero => intro m p raw s h1; omega
  | succ n ih =>
    intro m p raw s h1 h2
    cases m with
    | zero => omega
    | succ m =>
      simp only [parseF]
      by_cases h : hasEnd s = true
      · have k := cut_lt h
        rw [ih m (p + 1) _ (Lib.cut s [13, 10]).2.1 (by omega) (by omega)]
      · rw [if_neg h, if_neg h]
def parseR (p : Int) (raw : List F) (s : List UInt8) : Res := parseF (s.length + 1) p raw s
theorem parseR_eq (p : Int) (raw : List F) (s : List UInt8) : parseR p raw s =
    if hasEnd s = true then
      if (Lib.cut s [13, 10]).1 = [] then (raw.map trimF, (Lib.cut s [13, 10]).2.1, 0, 0)
      else if (takeF raw (Lib.cut s [13, 10]).1).2 = 0 then parseR (p + 1) (takeF raw (Lib.cut s [13, 10]).1).1 (Lib.cut s [13, 10]).2.1
      else ([], [], p, (takeF raw (Lib.cut s [13, 10]).1).2)
    else ([], [], p, 4) := by
  show parseF (s.length + 1) p raw s = _
  simp only [parseF]
  by_cases h : hasEnd s = true
  · have k := cut_lt h
    rw [parseF_more s.length ((Lib.cut s [13, 10]).2.1.length + 1) (p + 1) _ (Lib.cut s [13, 10]).2.1 (by omega) (by omega)]
    rfl
  · rw [if_neg h, if_neg h]

def parseM (s : List UInt8) : Res := if 2000 < s.length then ([], [], 0, 1) else parseR 0 [] s

theorem parse_short {p : Int} {raw : List F} {s : List UInt8} (h : hasEnd s = false) : parseR p raw s = ([], [], p, 4) := by
  rw [parseR_eq, if_neg (by simp [h])]
theorem hasEnd_yes (a b : List UInt8) : hasEnd (a ++ [13, 10] ++ b) = true := by
  cases h : hasEnd (a ++ [13, 10] ++ b) with
  | true => rfl
  | false => exact absurd ⟨by simp, by simp⟩ (hasEnd_no.1 h a.length)
theorem parse_end (p : Int) (raw : List F) (b : List UInt8) : parseR p raw ([13, 10] ++ b) = (raw.map trimF, b, 0, 0) := by
  have h := hasEnd_yes [] b
  have c := cut_line (a := []) (b := b) (by decide)
  rw [List.nil_append] at h c
  rw [parseR_eq, if_pos h, c]
  simp
theorem parse_line {p : Int} {raw : List F} {a b : List UInt8} (ha : hasEnd a = false) (h0 : a ≠ []) :
    parseR p raw (a ++ [13, 10] ++ b) = if (takeF raw a).2 = 0 then parseR (p + 1) (takeF raw a).1 b else ([], [], p, (takeF raw a).2) := by
  rw [parseR_eq, if_pos (hasEnd_yes a b), cut_line ha, if_neg h0]
theorem parse_go {p : Int} {raw : List F} {a b : List UInt8} (ha : hasEnd a = false) (h0 : a ≠ []) (ht : (takeF raw a).2 = 0) :
    parseR p raw (a ++ [13, 10] ++ b) = parseR (p + 1) (takeF raw a).1 b := by
  rw [parse_line ha h0, if_pos ht]
theorem parse_bad {p : Int} {raw : List F} {a b : List UInt8} (ha : hasEnd a = false) (h0 : a ≠ []) (ht : (takeF raw a).2 ≠ 0) :
    parseR p raw (a ++ [13, 10] ++ b) = ([], [], p, (takeF raw a).2) := by
  rw [parse_line ha h0, if_neg ht]

/- Line's ends, in parts of a text. -/
theorem lineAt_app {a b : List UInt8} {j : Nat} (h : lineAt b j) : lineAt (a ++ b) (a.length + j) := by
  refine ⟨?_, ?_⟩
  · rw [List.getElem?_append_right (by omega)]; simpa using h.1
  · rw [List.getElem?_append_right (by omega)]; have := h.2; simpa [Nat.add_sub_cancel_left, Nat.add_assoc] using this
theorem lineAt_lt {a : List UInt8} {j : Nat} (h : lineAt a j) : j + 1 < a.length := by
  have := h.2
  rcases Nat.lt_or_ge (j + 1) a.length with h' | h'
  · exact h'
  · rw [List.getElem?_eq_none h'] at this; cases this
theorem lineAt_left {a b : List UInt8} {j : Nat} (h : lineAt a j) : lineAt (a ++ b) j := by
  have hl := lineAt_lt h
  exact ⟨by rw [List.getElem?_append_left (by omega)]; exact h.1, by rw [List.getElem?_append_left hl]; exact h.2⟩
theorem hasEnd_mid {a m b : List UInt8} (h : hasEnd (a ++ m ++ b) = false) : hasEnd m = false := by
  refine hasEnd_no.2 fun j hj => ?_
  rw [hasEnd_no] at h
  exact h _ (lineAt_left (lineAt_app hj))
theorem hasEnd_app {a b : List UInt8} (ha : hasEnd a = false) (hb : hasEnd b = false) (hj : b.head? ≠ some 10) : hasEnd (a ++ b) = false := by
  refine hasEnd_no.2 fun j hl => ?_
  rcases Nat.lt_or_ge (j + 1) a.length with h | h
  · exact hasEnd_no.1 ha j ⟨by have := hl.1; rwa [List.getElem?_append_left (by omega)] at this, by have := hl.2; rwa [List.getElem?_append_left h] at this⟩
  · rcases Nat.lt_or_ge j a.length with h' | h'
    · have e : j + 1 = a.length := by omega
      have := hl.2
      rw [List.getElem?_append_right h, e, Nat.sub_self] at this
      exact hj (by rw [List.head?_eq_getElem?]; exact this)
    · refine hasEnd_no.1 hb (j - a.length) ⟨by have := hl.1; rwa [List.getElem?_append_right h'] at this, ?_⟩
      have := hl.2
      rw [List.getElem?_append_right h] at this
      have e : j + 1 - a.length = j - a.length + 1 := by omega
      rwa [e] at this
theorem hasEnd_pre {a b : List UInt8} (ha : (13 : UInt8) ∉ a) (hb : hasEnd b = false) : hasEnd (a ++ b) = false := by
  refine hasEnd_no.2 fun j hl => ?_
  rcases Nat.lt_or_ge j a.length with h | h
  · have := hl.1
    rw [List.getElem?_append_left h] at this
    exact ha (List.mem_of_getElem? this)
  · refine hasEnd_no.1 hb (j - a.length) ⟨by have := hl.1; rwa [List.getElem?_append_right h] at this, ?_⟩
    have := hl.2
    rw [List.getElem?_append_right (by omega)] at this
    have e : j + 1 - a.length = j - a.length + 1 := by omega
    rwa [e] at this
theorem hasEnd_nil : hasEnd [] = false := by decide
theorem hasEnd_plain {a : List UInt8} (ha : (13 : UInt8) ∉ a) : hasEnd a = false := by
  have := hasEnd_pre ha hasEnd_nil; simpa using this

/- Names. -/
theorem nameC_le {c : UInt8} (h : nameC c = true) : 33 ≤ c.toNat ∧ c.toNat ≤ 126 ∧ c ≠ 58 := by
  simp [nameC] at h; exact ⟨h.1.1, h.1.2, h.2⟩
theorem name_mem {n : List UInt8} (h : nameB n = true) {c : UInt8} (hc : c ∈ n) : nameC c = true := by
  simp [nameB] at h; exact h.2 c hc
theorem name_not {n : List UInt8} (h : nameB n = true) {c : UInt8} (hc : nameC c = false) : c ∉ n := fun hm => by
  rw [name_mem h hm] at hc; cases hc
theorem name_ne {n : List UInt8} (h : nameB n = true) : n ≠ [] := by rintro rfl; simp [nameB] at h
theorem name_head {n : List UInt8} (h : nameB n = true) (t : List UInt8) : (((n ++ t).head?).map blankB).getD false = false := by
  cases n with
  | nil => simp [nameB] at h
  | cons c n =>
    have := nameC_le (name_mem h (c := c) (by simp))
    simp only [List.cons_append, List.head?_cons, Option.map_some, Option.getD_some, blankB, Bool.or_eq_false_iff, beq_eq_false_iff_ne]
    exact ⟨by rintro rfl; exact absurd this.1 (by decide), by rintro rfl; exact absurd this.1 (by decide)⟩

/- Fields, a line each. -/
def rawB (f : F) : Bool := nameB f.1 && !hasEnd f.2
def lineC (f : F) : List UInt8 := f.1 ++ 58 :: f.2
def linesC (fs : List F) : List UInt8 := (fs.map fun f => lineC f ++ [13, 10]).flatten
theorem takeF_field {raw : List F} {f : F} (h : nameB f.1 = true) (hr : raw.length < 30) : takeF raw (lineC f) = (raw ++ [f], 0) := by
  unfold takeF lineC
  have hg : goesOn raw (f.1 ++ 58 :: f.2) = false := by unfold goesOn; rw [name_head h]; simp
  rw [hg, cut_colon (name_not h (by decide)), if_neg (by simp), if_neg (by simp [h]), if_neg (by omega)]
theorem lineC_end {f : F} (h : rawB f = true) : hasEnd (lineC f) = false := by
  simp [rawB] at h
  have e : lineC f = (f.1 ++ [58]) ++ f.2 := by simp [lineC]
  rw [e]
  refine hasEnd_pre ?_ h.2
  have := name_not h.1 (c := 13) (by decide)
  simp [this]
theorem lineC_ne (f : F) : lineC f ≠ [] := by simp [lineC]
theorem parse_fields {p : Int} {raw : List F} {fs : List F} {rest : List UInt8} (h : ∀ f ∈ fs, rawB f = true) (hr : raw.length + fs.length ≤ 30) :
    parseR p raw (linesC fs ++ rest) = parseR (p + fs.length) (raw ++ fs) rest := by
  induction fs generalizing p raw with
  | nil => simp [linesC]
  | cons f fs ih =>
    have hf := h f (by simp)
    have e : linesC (f :: fs) ++ rest = lineC f ++ [13, 10] ++ (linesC fs ++ rest) := by simp [linesC]
    have hn : nameB f.1 = true := by simp [rawB] at hf; exact hf.1
    simp only [List.length_cons] at hr
    have ht := takeF_field (raw := raw) (f := f) hn (by omega)
    rw [e, parse_go (lineC_end hf) (lineC_ne f) (by rw [ht]), ht, ih (fun g hg => h g (by simp [hg])) (by simp; omega)]
    simp only [List.append_assoc, List.singleton_append, List.length_cons, Int.natCast_add, Int.natCast_one]
    congr 1
    omega

/- Blanks at the ends. -/
theorem dropWhile_all {p : UInt8 → Bool} {a b : List UInt8} (h : ∀ x ∈ a, p x = true) : (a ++ b).dropWhile p = b.dropWhile p := by
  induction a with
  | nil => rfl
  | cons x a ih => simp [h x (by simp)]; exact ih fun y hy => h y (by simp [hy])
theorem dropWhile_head {p : UInt8 → Bool} {a : List UInt8} (h : ∀ x, a.head? = some x → p x = false) : a.dropWhile p = a := by
  cases a with
  | nil => rfl
  | cons x a => simp [h x rfl]
theorem trim_core {a m b : List UInt8} (ha : ∀ x ∈ a, blankB x = true) (hb : ∀ x ∈ b, blankB x = true) (hh : ∀ x, m.head? = some x → blankB x = false) (hl : ∀ x, m.getLast? = some x → blankB x = false) :
    trimW (a ++ m ++ b) = m := by
  rw [trimW_eq]
  have e : (a ++ m ++ b).reverse = b.reverse ++ (m.reverse ++ a.reverse) := by simp
  rw [e, dropWhile_all (by simpa using hb)]
  cases hm : m with
  | nil =>
    have : (a.reverse).dropWhile blankB = [] := by
      have := dropWhile_all (p := blankB) (a := a.reverse) (b := []) (by simpa using ha)
      simpa using this
    simp [this]
  | cons x t =>
    rw [← hm]
    have h1 : (m.reverse ++ a.reverse).dropWhile blankB = m.reverse ++ a.reverse := dropWhile_head fun y hy => by
      have : (m.reverse).head? = some y := by
        cases hr : m.reverse with
        | nil => simp [hm] at hr
        | cons z u => rw [hr] at hy; simpa using hy
      exact hl y (by rw [List.head?_reverse] at this; exact this)
    rw [h1]
    simp only [List.reverse_append, List.reverse_reverse]
    rw [dropWhile_all ha]
    exact dropWhile_head hh
theorem trim_split (l : List UInt8) : ∃ a m b, l = a ++ m ++ b ∧ (∀ x ∈ a, blankB x = true) ∧ (∀ x ∈ b, blankB x = true) ∧ (∀ x, m.head? = some x → blankB x = false) ∧ (∀ x, m.getLast? = some x → blankB x = false) := by
  have tw : ∀ l : List UInt8, ∀ x ∈ l.takeWhile blankB, blankB x = true := by
    intro l
    induction l with
    | nil => simp
    | cons c l ih =>
      intro x hx
      rw [List.takeWhile_cons] at hx
      split at hx
      · rcases List.mem_cons.1 hx with rfl | h
        · assumption
        · exact ih x h
      · cases hx
  have dw : ∀ l : List UInt8, ∀ x, (l.dropWhile blankB).head? = some x → blankB x = false := by
    intro l
    induction l with
    | nil => simp
    | cons c l ih =>
      intro x hx
      rw [List.dropWhile_cons] at hx
      split at hx
      · exact ih x hx
      · rename_i hc; simp at hx; subst hx; exact Bool.eq_false_iff.2 hc
  refine ⟨l.takeWhile blankB, ((l.dropWhile blankB).reverse.dropWhile blankB).reverse, ((l.dropWhile blankB).reverse.takeWhile blankB).reverse, ?_, tw l, ?_, ?_, ?_⟩
  · rw [List.append_assoc, ← List.reverse_append, List.takeWhile_append_dropWhile, List.reverse_reverse, List.takeWhile_append_dropWhile]
  · intro x hx; exact tw _ x (by simpa using hx)
  · intro x hx
    cases hr : (l.dropWhile blankB).reverse.dropWhile blankB with
    | nil => rw [hr] at hx; simp at hx
    | cons y t =>
      refine dw l x ?_
      have e : l.dropWhile blankB = ((l.dropWhile blankB).reverse.dropWhile blankB).reverse ++ ((l.dropWhile blankB).reverse.takeWhile blankB).reverse := by
        rw [← List.reverse_append, List.takeWhile_append_dropWhile, List.reverse_reverse]
      rw [e]
      cases hz : ((l.dropWhile blankB).reverse.dropWhile blankB).reverse with
      | nil => rw [hr] at hz; simp at hz
      | cons z u => rw [hz] at hx; simpa using hx
  · intro x hx
    rw [List.getLast?_reverse] at hx
    exact dw _ x hx
theorem trim_idem (l : List UInt8) : trimW (trimW l) = trimW l := by
  obtain ⟨a, m, b, rfl, ha, hb, hh, hl⟩ := trim_split l
  rw [trim_core ha hb hh hl]
  have := trim_core (a := []) (m := m) (b := []) (by simp) (by simp) hh hl
  simpa using this
theorem trim_end {l : List UInt8} (h : hasEnd l = false) : hasEnd (trimW l) = false := by
  obtain ⟨a, m, b, rfl, ha, hb, hh, hl⟩ := trim_split l
  rw [trim_core ha hb hh hl]
  exact hasEnd_mid h
theorem trim_len (l : List UInt8) : (trimW l).length ≤ l.length := by
  obtain ⟨a, m, b, rfl, ha, hb, hh, hl⟩ := trim_split l
  rw [trim_core ha hb hh hl]
  simp; omega
theorem trim_blank {c : UInt8} (hc : blankB c = true) (l : List UInt8) : trimW (c :: l) = trimW l := by
  obtain ⟨a, m, b, rfl, ha, hb, hh, hl⟩ := trim_split l
  rw [trim_core ha hb hh hl]
  have := trim_core (a := c :: a) (m := m) (b := b) (fun x hx => by rcases List.mem_cons.1 hx with rfl | h; exact hc; exact ha x h) hb hh hl
  simpa using this
/-- The reference's way: the left end first. -/
theorem trim_left (l : List UInt8) : ((l.dropWhile blankB).reverse.dropWhile blankB).reverse = trimW l := by
  obtain ⟨a, m, b, rfl, ha, hb, hh, hl⟩ := trim_split l
  rw [trim_core ha hb hh hl, List.append_assoc, dropWhile_all ha]
  cases hm : m with
  | nil =>
    have : b.dropWhile blankB = [] := by have := dropWhile_all (p := blankB) (a := b) (b := []) hb; simpa using this
    simp [this]
  | cons x t =>
    rw [← hm]
    have h1 : (m ++ b).dropWhile blankB = m ++ b := dropWhile_head fun y hy => hh y (by rw [hm] at hy ⊢; simpa using hy)
    rw [h1, List.reverse_append, dropWhile_all (by simpa using hb)]
    rw [dropWhile_head (a := m.reverse) (fun y hy => hl y (by rw [List.head?_reverse] at hy; exact hy)), List.reverse_reverse]

/- What is shown is parsed as it was. -/
def inF (f : F) : F := (f.1, 32 :: f.2)
theorem may_raw {f : F} (h : mayF f = true) : rawB (inF f) = true := by
  simp [mayF, valueB] at h
  simp only [rawB, inF, Bool.and_eq_true, Bool.not_eq_true']
  refine ⟨h.1, ?_⟩
  have := hasEnd_pre (a := [32]) (b := f.2) (by decide) (by simpa using h.2.1)
  simpa using this
theorem lines_eq (fs : List F) : linesF fs = linesC (fs.map inF) := by
  induction fs with
  | nil => rfl
  | cons f fs ih =>
    simp only [linesF, linesC, List.map_cons, List.flatten_cons] at ih ⊢
    rw [ih]
    simp [textF, lineC, inF]
theorem trim_in {f : F} (h : mayF f = true) : trimF (inF f) = f := by
  simp [mayF, valueB] at h
  simp only [trimF, inF]
  rw [trim_blank (by decide), h.2.2]
theorem parse_text {p : Int} {fs : List F} {body : List UInt8} (h : ∀ f ∈ fs, mayF f = true) (hl : fs.length ≤ 30) : parseR p [] (textM fs body) = (fs, body, 0, 0) := by
  have e : textM fs body = linesC (fs.map inF) ++ ([13, 10] ++ body) := by simp [textM, lines_eq]
  rw [e, parse_fields (fun g hg => by obtain ⟨f, hf, rfl⟩ := List.mem_map.1 hg; exact may_raw (h f hf)) (by simpa using hl), parse_end]
  simp only [List.nil_append, List.map_map]
  congr 1
  rw [show fs.map (trimF ∘ inF) = fs.map id from List.map_congr_left fun f hf => trim_in (h f hf)]
  simp

end Go.Proofs.YtgbhaphgojlhaaaDoor
