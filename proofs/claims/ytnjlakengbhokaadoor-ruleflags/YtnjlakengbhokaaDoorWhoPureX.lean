
/-
  Plain facts on addresses: what may be in an atom, what is dotted, how a list of addresses is read. No program is named here.
  Plain facts on lists of addresses that the keeping laws lean on. No program is named here.
  Plain facts on addresses: what is read of a list may be. No program is named here.
-/
import Derived.Test.YtnjlakengbhokaaDoorWhoPure
import Derived.WalkKit
import Derived.Test.YtnjlakengbhokaaDoorPure
namespace Go.Proofs.YtnjlakengbhokaaDoor
open Go.RowKit

/- P3.4. -/
end Go.Proofs.YtnjlakengbhokaaDoor

namespace Go.Proofs.YtnjlakengbhokaaDoor
open Go.RowKit

theorem letter_run {c : UInt8} (h : 97 ≤ c.toNat ∧ c.toNat ≤ 122) : runB c = true := by unfold runB; rw [letter_atom h]; simp
theorem letter_ne {c : UInt8} (h : 97 ≤ c.toNat ∧ c.toNat ≤ 122) (d : UInt8) (hd : d.toNat < 97) : c ≠ d := fun e => by rw [e] at h; omega
theorem letters_run {l : List UInt8} (h : letters l) : ∀ c ∈ l, runB c = true := by
  intro c hc
  rcases h c hc with h | rfl
  · exact letter_run h
  · decide
theorem letters_ne {l : List UInt8} (h : letters l) (d : UInt8) (hd : d.toNat < 97) (hd2 : d ≠ 46) : d ∉ l := by
  intro hc
  rcases h d hc with h | h
  · omega
  · exact hd2 h
/-- A text that goes on with no byte of a run, or ends. -/
def stops (t : List UInt8) : Prop := ∀ c u, t = c :: u → runB c = false
theorem stops_nil : stops [] := fun c u h => by cases h
theorem stops_cons {c : UInt8} {u : List UInt8} (h : runB c = false) : stops (c :: u) := fun c' u' e => by cases e; exact h
theorem wrun_app {l t : List UInt8} (h : ∀ c ∈ l, runB c = true) (ht : stops t) : wrun (l ++ t) = l := by
  unfold wrun
  rw [List.takeWhile_append_of_pos h]
  cases t with
  | nil => simp
  | cons c u => rw [List.takeWhile_cons, ht c u rfl]; simp
theorem wrest_app {l t : List UInt8} (h : ∀ c ∈ l, runB c = true) (ht : stops t) : wrest (l ++ t) = t := by
  unfold wrest
  rw [List.dropWhile_append_of_pos h]
  cases t with
  | nil => simp
  | cons c u => rw [List.dropWhile_cons, ht c u rfl]; simp
theorem plainP_text {a : Adr} (h : lawful a) {t : List UInt8} (ht : stops t) : plainP (textA a ++ t) = some (a, t) := by
  obtain ⟨k1, k2⟩ := h.letters
  have e : textA a ++ t = a.1 ++ 64 :: (a.2 ++ t) := by simp [textA]
  unfold plainP
  rw [e, wrest_app (letters_run k1) (stops_cons (by decide)), wrun_app (letters_run k1) (stops_cons (by decide))]
  simp only [takeP, if_true]
  rw [wrun_app (letters_run k2) ht, wrest_app (letters_run k2) ht, if_pos h.check]
/-- A text that opens with no blank. -/
theorem wblanks_keep {c : UInt8} {t : List UInt8} (h : blankB c = false) : wblanks (c :: t) = c :: t := by
  unfold wblanks; rw [List.dropWhile_cons, h]; simp
theorem wblanks_twice (s : List UInt8) : wblanks (wblanks s) = wblanks s := by
  induction s with
  | nil => rfl
  | cons c t ih =>
    cases h : blankB c with
    | true => unfold wblanks at *; rw [List.dropWhile_cons, h]; simpa using ih
    | false => rw [wblanks_keep h, wblanks_keep h]
theorem addressP_blanks (s : List UInt8) : addressP (wblanks s) = addressP s := by
  unfold addressP; rw [wblanks_twice]
theorem listP_same {s s' : List UInt8} (h : addressP s = addressP s') : listP s = listP s' := by
  cases e : addressP s with
  | none => rw [listP_none e, listP_none (h ▸ e)]
  | some x =>
    obtain ⟨a, r⟩ := x
    by_cases hr : r = []
    · subst hr; rw [listP_one e, listP_one (h ▸ e)]
    · cases e2 : takeP 44 r with
      | none => rw [listP_odd e hr e2, listP_odd (h ▸ e) hr e2]
      | some r' =>
        have := takeP_some e2
        subst this
        have e' := h ▸ e
        exact (listP_more e).trans (listP_more e').symm
theorem listP_blanks (s : List UInt8) : listP (wblanks s) = listP s := listP_same (addressP_blanks s)
theorem text_blanks {a : Adr} (h : lawful a) (t : List UInt8) : wblanks (textA a ++ t) = textA a ++ t := by
  obtain ⟨⟨h1, _, h2⟩, _⟩ := h
  unfold textA
  cases e : a.1 with
  | nil => exact absurd e h1
  | cons c u =>
    rw [e] at h2
    refine wblanks_keep ?_
    have := h2 c (by simp)
    unfold blankB
    simp only [Bool.or_eq_false_iff, beq_eq_false_iff_ne]
    exact ⟨letter_ne this _ (by decide), letter_ne this _ (by decide)⟩
theorem addressP_text {a : Adr} (h : lawful a) {t : List UInt8} (ht : stops t) : addressP (textA a ++ t) = some (a, wblanks t) := by
  obtain ⟨k1, k2⟩ := h.letters
  unfold addressP
  rw [text_blanks h]
  have e : wrest (textA a ++ t) = 64 :: (a.2 ++ t) := by
    have e : textA a ++ t = a.1 ++ 64 :: (a.2 ++ t) := by simp [textA]
    rw [e, wrest_app (letters_run k1) (stops_cons (by decide))]
  rw [e]
  simp only [takeP, if_true, Option.isSome_some]
  rw [plainP_text h ht]; rfl

/-- P3: an address is a list of one. -/
theorem listP_text {a : Adr} (h : lawful a) : listP (textA a) = some [a] := by
  have e := addressP_text h stops_nil
  rw [List.append_nil] at e
  exact listP_one e
theorem listP_text_more {a : Adr} (h : lawful a) (s : List UInt8) : listP (textA a ++ 44 :: s) = (listP s).map (a :: ·) := by
  have e := addressP_text h (stops_cons (c := 44) (u := s) (by decide))
  rw [wblanks_keep (by decide)] at e
  exact listP_more e

theorem wordsP_cons (c : UInt8) (t : List UInt8) : wordsP (c :: t) = if c = 34 then (quoteS false t).bind (fun r => wordsP (wblanks r)) else if runB c then wordsP (wblanks (wrest t)) else some (c :: t) := by
  by_cases h : c = 34
  · subst h; rw [wordsP_quote]; simp
  · rw [if_neg h]
    cases hr : runB c with
    | true =>
      rw [wordsP_run h hr]
      have e : wrest (c :: t) = wrest t := by unfold wrest; rw [List.dropWhile_cons, if_pos hr]
      rw [e]; simp
    | false => rw [wordsP_stop h hr]; simp
theorem wordsP_word {l t : List UInt8} (h : wordy l) (ht : stops t) : wordsP (l ++ t) = wordsP (wblanks t) := by
  have h0 := h
  obtain ⟨h1, _, h2⟩ := h
  cases l with
  | nil => exact absurd rfl h1
  | cons c u =>
    have hc := h2 c (by simp)
    have e := wrest_app (letters_run h0.letters) ht
    rw [List.cons_append] at e ⊢
    rw [wordsP_run (letter_ne hc _ (by decide)) (letter_run hc), e]
/-- The address in brackets, behind words. -/
theorem namedP_of {s : List UInt8} {a : Adr} (h : lawful a) {t : List UInt8} (hs : wordsP s = some (60 :: (textA a ++ 62 :: t))) : namedP s = some (a, t) := by
  unfold namedP
  rw [hs]
  simp only [Option.bind_some, takeP, if_true]
  rw [plainP_text h (stops_cons (by decide))]
  simp
theorem addressP_named {s : List UInt8} {a : Adr} (h : lawful a) {t : List UInt8} (hb : wblanks s = s) (h64 : takeP 64 (wrest s) = none) (hs : wordsP s = some (60 :: (textA a ++ 62 :: t))) : addressP s = some (a, wblanks t) := by
  unfold addressP
  rw [hb, h64]
  simp only [Option.isSome_none, Bool.false_eq_true, if_false]
  rw [namedP_of h hs]; rfl

/- WhoMany. -/
def sepL : Nat → List UInt8
  | 0 => [44]
  | 1 => [44, 32]
  | _ => [32, 44, 9]
def itemL (x : Man) : List UInt8 := match x.kind with
  | 0 => textA x.adr
  | 1 => [60] ++ textA x.adr ++ [62]
  | 2 => x.word ++ [32, 98, 46, 32, 60] ++ textA x.adr ++ [62, 32]
  | _ => [34, 120, 44, 32, 92, 34, 32] ++ x.word ++ [64, 34, 60] ++ textA x.adr ++ [62]
theorem itemL_len {x : Man} (h : x.ok) : (itemL x).length ≤ 40 := by
  have h1 := h.1.size
  have h2 := h.2.2.1
  unfold itemL
  split <;> simp <;> omega
theorem sepL_len (n : Nat) : (sepL n).length ≤ 3 := by unfold sepL; split <;> simp
theorem quoteS_word {l t : List UInt8} (h : wordy l) : quoteS false (l ++ t) = quoteS false t := by
  have key : ∀ l : List UInt8, (∀ c ∈ l, 97 ≤ c.toNat ∧ c.toNat ≤ 122) → quoteS false (l ++ t) = quoteS false t := by
    intro l
    induction l with
    | nil => intro _; rfl
    | cons c u ih =>
      intro h2
      have hc := h2 c (by simp)
      rw [List.cons_append]
      simp only [quoteS]
      rw [if_neg (letter_ne hc _ (by decide)), if_neg (letter_ne hc _ (by decide))]
      exact ih fun d hd => h2 d (by simp [hd])
  exact key l h.2.2
theorem item_address {x : Man} (h : x.ok) {t : List UInt8} (ht : stops t) : addressP (itemL x ++ t) = some (x.adr, wblanks t) := by
  obtain ⟨ha, hw⟩ := h
  unfold itemL
  split
  · exact addressP_text ha ht
  · refine addressP_named ha (wblanks_keep (by decide)) (by simp [wrest, takeP, runB, atomB, marksL]) ?_
    have e : [60] ++ textA x.adr ++ [62] ++ t = 60 :: (textA x.adr ++ 62 :: t) := by simp
    rw [e, wordsP_stop (by decide) (by decide)]
  · have e : x.word ++ [32, 98, 46, 32, 60] ++ textA x.adr ++ [62, 32] ++ t = x.word ++ (32 :: 98 :: 46 :: 32 :: 60 :: (textA x.adr ++ 62 :: 32 :: t)) := by simp
    have st : stops (32 :: 98 :: 46 :: 32 :: 60 :: (textA x.adr ++ 62 :: 32 :: t)) := stops_cons (by decide)
    rw [e]
    have wt : wblanks (32 :: t) = wblanks t := by unfold wblanks; rw [List.dropWhile_cons]; simp [blankB]
    rw [← wt]
    refine addressP_named ha ?_ ?_ ?_
    · obtain ⟨h1, _, h2⟩ := hw
      cases e : x.word with
      | nil => exact absurd e h1
      | cons c u =>
        rw [e] at h2
        refine wblanks_keep ?_
        have := h2 c (by simp)
        unfold blankB
        simp only [Bool.or_eq_false_iff, beq_eq_false_iff_ne]
        exact ⟨letter_ne this _ (by decide), letter_ne this _ (by decide)⟩
    · rw [wrest_app (letters_run hw.letters) st]; rfl
    · rw [wordsP_word hw st]
      have e2 : wblanks (32 :: 98 :: 46 :: 32 :: 60 :: (textA x.adr ++ 62 :: 32 :: t)) = 98 :: 46 :: 32 :: 60 :: (textA x.adr ++ 62 :: 32 :: t) := by simp [wblanks, blankB]
      have e3 : wrest (46 :: 32 :: 60 :: (textA x.adr ++ 62 :: 32 :: t)) = 32 :: 60 :: (textA x.adr ++ 62 :: 32 :: t) := by simp [wrest, runB, atomB, marksL]
      have e4 : wblanks (32 :: 60 :: (textA x.adr ++ 62 :: 32 :: t)) = 60 :: (textA x.adr ++ 62 :: 32 :: t) := by simp [wblanks, blankB]
      rw [e2, wordsP_cons, if_neg (by decide), if_pos (by decide), e3, e4, wordsP_stop (by decide) (by decide)]
  · have e : [34, 120, 44, 32, 92, 34, 32] ++ x.word ++ [64, 34, 60] ++ textA x.adr ++ [62] ++ t = 34 :: 120 :: 44 :: 32 :: 92 :: 34 :: 32 :: (x.word ++ 64 :: 34 :: 60 :: (textA x.adr ++ 62 :: t)) := by simp
    rw [e]
    refine addressP_named ha (wblanks_keep (by decide)) (by simp [wrest, takeP, runB, atomB, marksL]) ?_
    rw [wordsP_quote]
    have q : quoteS false (120 :: 44 :: 32 :: 92 :: 34 :: 32 :: (x.word ++ 64 :: 34 :: 60 :: (textA x.adr ++ 62 :: t))) = some (60 :: (textA x.adr ++ 62 :: t)) := by
      simp [quoteS, quoteS_word hw]
    rw [q]
    simp only [Option.bind_some]
    rw [wblanks_keep (by decide), wordsP_stop (by decide) (by decide)]
def tailL (xs : List Man) : List UInt8 := (xs.map fun x => sepL x.sep ++ itemL x).flatten
def joinL : List Man → List UInt8
  | [] => []
  | x :: xs => itemL x ++ tailL xs
theorem tail_stops (xs : List Man) : stops (tailL xs) := by
  cases xs with
  | nil => exact stops_nil
  | cons x xs =>
    show stops (sepL x.sep ++ itemL x ++ tailL xs)
    unfold sepL
    split <;> exact stops_cons (by decide)
theorem sep_list (n : Nat) (s : List UInt8) : ∃ r, wblanks (sepL n ++ s) = 44 :: r ∧ listP r = listP s := by
  unfold sepL
  split
  · exact ⟨s, by simp [wblanks, blankB], rfl⟩
  · refine ⟨32 :: s, by simp [wblanks, blankB], ?_⟩
    rw [← listP_blanks (32 :: s), ← listP_blanks s]
    congr 1
  · refine ⟨9 :: s, by simp [wblanks, blankB], ?_⟩
    rw [← listP_blanks (9 :: s), ← listP_blanks s]
    congr 1
theorem join_list (xs : List Man) : ∀ x : Man, x.ok → (∀ y ∈ xs, y.ok) → listP (joinL (x :: xs)) = some (x.adr :: xs.map Man.adr) := by
  induction xs with
  | nil =>
    intro x hx _
    have e := item_address hx stops_nil
    exact listP_one e
  | cons y ys ih =>
    intro x hx hys
    have e := item_address hx (tail_stops (y :: ys))
    have et : tailL (y :: ys) = sepL y.sep ++ joinL (y :: ys) := by simp [tailL, joinL]
    obtain ⟨r, hr, hl⟩ := sep_list y.sep (joinL (y :: ys))
    rw [et, hr] at e
    have e2 : joinL (x :: y :: ys) = itemL x ++ (sepL y.sep ++ joinL (y :: ys)) := by rw [← et]; rfl
    rw [e2, listP_more e, hl, ih y (hys y (by simp)) (fun z hz => hys z (by simp [hz]))]
    rfl
theorem join_snoc {xs : List Man} (x : Man) (h : xs ≠ []) : joinL (xs ++ [x]) = joinL xs ++ sepL x.sep ++ itemL x := by
  cases xs with
  | nil => exact absurd rfl h
  | cons y ys => simp [joinL, tailL]
theorem join_len {xs : List Man} (h : ∀ y ∈ xs, y.ok) : (joinL xs).length ≤ 43 * xs.length := by
  have key : ∀ ys : List Man, (∀ y ∈ ys, y.ok) → (tailL ys).length ≤ 43 * ys.length := by
    intro ys
    induction ys with
    | nil => intro _; simp [tailL]
    | cons y ys ih =>
      intro hys
      have h1 := itemL_len (hys y (by simp))
      have h2 := sepL_len y.sep
      have h3 := ih fun z hz => hys z (by simp [hz])
      have e : tailL (y :: ys) = sepL y.sep ++ itemL y ++ tailL ys := by simp [tailL]
      rw [e]; simp; omega
  cases xs with
  | nil => simp [joinL]
  | cons x xs =>
    have h1 := itemL_len (h x (by simp))
    have h2 := key xs fun z hz => h z (by simp [hz])
    simp [joinL]; omega

/- WhoFull. -/
def fullS : Nat → List UInt8
  | 0 => []
  | k + 1 => fullS k ++ (if k = 0 then [] else [44]) ++ [97, 64, 98]
def abM : Adr := ([97], [98])
theorem full_eq (k : Nat) : fullS (k + 1) = [97, 64, 98] ++ (List.replicate k [44, 97, 64, 98]).flatten := by
  induction k with
  | zero => rfl
  | succ k ih =>
    rw [fullS, ih, if_neg (by omega), List.replicate_succ']
    simp
theorem full_len (k : Nat) : (fullS k).length ≤ 4 * k := by
  induction k with
  | zero => simp [fullS]
  | succ k ih => rw [fullS]; split <;> simp <;> omega
theorem ab_address {t : List UInt8} (ht : stops t) : addressP ([97, 64, 98] ++ t) = some (abM, wblanks t) := by
  have h1 : ∀ c ∈ ([98] : List UInt8), runB c = true := by decide
  have e1 := wrun_app h1 ht
  have e2 := wrest_app h1 ht
  have e0 : wblanks ([97, 64, 98] ++ t) = 97 :: 64 :: ([98] ++ t) := wblanks_keep (by decide)
  have e3 : wrest (97 :: 64 :: ([98] ++ t)) = 64 :: ([98] ++ t) := by unfold wrest; rw [List.dropWhile_cons, if_pos (by decide), List.dropWhile_cons, if_neg (by decide)]
  have e4 : wrun (97 :: 64 :: ([98] ++ t)) = [97] := by unfold wrun; rw [List.takeWhile_cons, if_pos (by decide), List.takeWhile_cons, if_neg (by decide)]
  unfold addressP plainP
  rw [e0, e3, e4]
  simp only [takeP, if_true, Option.isSome_some]
  rw [e1, e2, if_pos (by decide)]
  rfl
theorem full_list (k : Nat) : listP (fullS (k + 1)) = some (List.replicate (k + 1) abM) := by
  rw [full_eq]
  induction k with
  | zero => exact listP_one (ab_address stops_nil)
  | succ k ih =>
    have e := ab_address (t := (List.replicate (k + 1) [44, 97, 64, 98]).flatten) (by rw [List.replicate_succ]; exact stops_cons (by decide))
    have e2 : (List.replicate (k + 1) [44, 97, 64, 98]).flatten = 44 :: ([97, 64, 98] ++ (List.replicate k ([44, 97, 64, 98] : List UInt8)).flatten) := by rw [List.replicate_succ]; rfl
    rw [e2] at e ⊢
    rw [wblanks_keep (by decide)] at e
    rw [listP_more e, ih]
    rfl
end Go.Proofs.YtnjlakengbhokaaDoor

namespace Go.Proofs.YtnjlakengbhokaaDoor
open Go.RowKit Go.Proofs

end Go.Proofs.YtnjlakengbhokaaDoor
