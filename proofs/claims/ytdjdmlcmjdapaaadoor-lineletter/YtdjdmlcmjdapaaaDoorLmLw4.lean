/-
  Plain facts that LineLetter leans on: a text, cut at its lines' ends. No program is named here.
-/
import Derived.Test.YtdjdmlcmjdapaaaDoorLmLw2
namespace Go.Proofs.YtdjdmlcmjdapaaaDoor
open Go.RowKit

/-- A line's end stands at place i. -/
def endAt (x : List UInt8) (i : Nat) : Bool := x[i]? == some 13 && x[i + 1]? == some 10
/-- A line as it is handed over: with a dot more ahead of a dot. -/
def dotted1 (l : List UInt8) : List UInt8 := if l.head? = some 46 then 46 :: l else l
theorem dotted_not (l : List UInt8) : dotted1 l ≠ [46] := by
  unfold dotted1
  split
  · rename_i h
    cases l with
    | nil => simp at h
    | cons c r => simp
  · rename_i h
    intro e
    rw [e] at h
    simp at h
theorem undot_dotted (l : List UInt8) : undot (dotted1 l) = l := by
  unfold dotted1
  split
  · simp [undot]
  · rename_i h
    cases l with
    | nil => rfl
    | cons c r =>
      have : c ≠ 46 := fun e => h (by simp [e])
      simp [undot, this]
theorem dotted_len (l : List UInt8) : (dotted1 l).length ≤ l.length + 1 := by
  unfold dotted1
  split <;> simp
/-- How far lines are read when place i is looked at: fr is where the next line begins; between fr and i no line ends. -/
structure LtI (x : List UInt8) (i fr : Nat) : Prop where
  fit : fr ≤ x.length
  near : fr ≤ i + 1
  none : ∀ j, fr ≤ j → j < i → endAt x j = false
  back : 0 < fr → x[fr - 1]? = some 10
theorem lt_zero (x : List UInt8) : LtI x 0 0 := ⟨Nat.zero_le _, Nat.zero_le _, (fun j h1 h2 => by omega), fun h => by omega⟩
theorem lt_skip {x : List UInt8} {i fr : Nat} (h : LtI x i fr) (hi : endAt x i = false) : LtI x (i + 1) fr :=
  ⟨h.fit, by have := h.near; omega, (fun j h1 h2 => by
    rcases Nat.lt_or_ge j i with h3 | h3
    · exact h.none j h1 h3
    · rw [show j = i by omega]; exact hi), h.back⟩
theorem end_parts {x : List UInt8} {i : Nat} (hi : endAt x i = true) : x[i]? = some 13 ∧ x[i + 1]? = some 10 := by simpa [endAt] using hi
theorem lt_take {x : List UInt8} {i fr : Nat} (h : LtI x i fr) (hi : endAt x i = true) : fr ≤ i ∧ LtI x (i + 1) (i + 2) := by
  obtain ⟨h1, h2⟩ := end_parts hi
  have hl : i + 1 < x.length := (List.getElem?_eq_some_iff.1 h2).1
  refine ⟨?_, by omega, by omega, (fun j h3 h4 => by omega), fun _ => h2⟩
  have := h.near
  rcases Nat.lt_or_ge i fr with h4 | h4
  · exfalso
    have e : fr = i + 1 := by omega
    have hb := h.back (by omega)
    rw [e, Nat.add_sub_cancel, h1] at hb
    simp at hb
  · exact h4
/-- Where the text ends in a line's end all of it is read. -/
theorem lt_end {x : List UInt8} {i fr : Nat} (h : LtI x i fr) (hx : 2 ≤ x.length) (he : endAt x (x.length - 2) = true) (hi : x.length ≤ i + 1) : fr = x.length := by
  have hf := h.fit
  rcases Nat.lt_or_ge fr x.length with h1 | h1
  · exfalso
    rcases Nat.lt_or_ge (x.length - 2) fr with h2 | h2
    · have e : fr = x.length - 1 := by omega
      have hb := h.back (by omega)
      rw [e, show x.length - 1 - 1 = x.length - 2 by omega, (end_parts he).1] at hb
      simp at hb
    · have := h.none (x.length - 2) h2 (by omega)
      rw [he] at this
      cases this
  · omega
theorem lt_text {x : List UInt8} {i fr : Nat} (hf : fr ≤ i) (hi : endAt x i = true) : x.take fr ++ (x.take i).drop fr ++ [13, 10] = x.take (i + 2) := by
  obtain ⟨h1, h2⟩ := end_parts hi
  have e1 : x.take (i + 2) = x.take i ++ [13] ++ [10] := by
    rw [List.take_add_one, List.take_add_one, h1, h2]
    rfl
  have e2 : x.take fr = (x.take i).take fr := by rw [List.take_take]; congr 1; omega
  rw [e1, e2, List.take_append_drop, List.append_assoc]
  rfl
/-- The session while the text's first part is read. -/
def ltS (f t : Adr) (x : List UInt8) (fr : Nat) : Ses := ⟨4, f, [t], x.take fr, false⟩
theorem lt_line {f t : Adr} {x : List UInt8} {i fr : Nat} (h : LtI x i fr) (hi : endAt x i = true) (hx : x.length ≤ 600) : lineM (ltS f t x fr) [] (dotted1 ((x.take i).drop fr)) = (ltS f t x (i + 2), 0, []) := by
  have hf := (lt_take h hi).1
  have hl : ((x.take i).drop fr).length ≤ 600 := by simp; omega
  have := body_reads (s := ltS f t x fr) rfl rfl (dotted_not ((x.take i).drop fr)) (by
    rw [undot_dotted]
    show (x.take fr).length + _ + 2 ≤ 2000
    have : (x.take fr).length ≤ 600 := by simp; omega
    omega) []
  rw [this, undot_dotted]
  show ((⟨4, f, [t], x.take fr ++ (x.take i).drop fr ++ [13, 10], false⟩ : Ses), _, _) = _
  rw [lt_text hf hi]
  rfl
theorem lt_may {f t : Adr} (hf : lawful f) (ht : lawful t) {x : List UInt8} (hx : x.length ≤ 600) (fr : Nat) : mayS (ltS f t x fr) = true := by
  have h := rd_may hf ht 4 (by omega)
  obtain ⟨p0, p5, ps, pg, pt⟩ := mayS_parts.1 h
  refine mayS_parts.2 ⟨p0, p5, ps, pg, ?_⟩
  show textS ⟨4, f, [t], x.take fr, false⟩ = true
  unfold textS
  simp
  omega
theorem lt_last {f t : Adr} {x : List UInt8} : lineM (ltS f t x x.length) [] [46] = (atS 1, 0, [(f, t, x)]) := by
  rw [body_ends rfl]
  unfold lettersM ltS
  simp
/-- The text that is handed over: with a line's end behind it, if there is none. -/
def endedL (x : List UInt8) : List UInt8 := if x.drop (x.length - 2) = [13, 10] then x else x ++ [13, 10]
theorem ended_at {x : List UInt8} (hx : 2 ≤ x.length) : endAt (endedL x) ((endedL x).length - 2) = true ∧ 2 ≤ (endedL x).length ∧ (endedL x).length ≤ x.length + 2 := by
  have key : ∀ y : List UInt8, y.length = x.length ∨ True → endAt (y ++ [13, 10]) ((y ++ [13, 10]).length - 2) = true := by
    intro y _
    have e : (y ++ [13, 10]).length - 2 = y.length := by simp
    rw [e]
    unfold endAt
    rw [List.getElem?_append_right (Nat.le_refl _), List.getElem?_append_right (by omega)]
    simp
  unfold endedL
  split
  · rename_i h
    have e : x = x.take (x.length - 2) ++ [13, 10] := by rw [← h, List.take_append_drop]
    refine ⟨?_, hx, by omega⟩
    have := key (x.take (x.length - 2)) (.inr trivial)
    rw [← e] at this
    exact this
  · exact ⟨key x (.inr trivial), by simp, by simp⟩
end Go.Proofs.YtdjdmlcmjdapaaaDoor
