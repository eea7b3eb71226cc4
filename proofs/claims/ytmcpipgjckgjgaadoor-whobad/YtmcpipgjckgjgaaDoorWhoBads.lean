/-
  Plain facts: what is no address spoils a list. No program is named here.
-/
import Derived.Test.YtmcpipgjckgjgaaDoorWhoLaws
namespace Go.Proofs.YtmcpipgjckgjgaaDoor
open Go.RowKit

def badsL : List (List UInt8) := [[], [97], [64, 98], [97, 64], [97, 64, 98, 64, 99], [60, 97, 64, 98], [97, 64, 98, 62], [97, 64, 98, 32, 99, 64, 100], [97, 32, 98, 64, 99], [60, 97, 32, 64, 98, 62], [60, 62], [97, 46, 46, 98, 64, 99], [46, 97, 64, 98], [97, 46, 64, 98], [34, 120, 32, 60, 97, 64, 98, 62], [34, 120, 34], [97, 64, 98, 59]]
theorem quoteS_none {t : List UInt8} (h : 34 ∉ t) (b : Bool) : quoteS b t = none := by
  induction t generalizing b with
  | nil => cases b <;> rfl
  | cons c u ih =>
    simp only [List.mem_cons, not_or] at h
    have h1 : ¬ c = 34 := fun e => h.1 e.symm
    cases b with
    | true =>
      rw [quoteS]
      split
      · exact ih h.2 _
      · rfl
    | false =>
      rw [quoteS, if_neg h1]
      split <;> exact ih h.2 _
/-- What stands behind something bad: nothing, or a comma and no sign that ends something quoted. -/
def tailOk (t : List UInt8) : Prop := t = [] ∨ ∃ u, t = 44 :: u ∧ 34 ∉ u
theorem tail_stop {t : List UInt8} (h : tailOk t) : stops t := by
  rcases h with rfl | ⟨u, rfl, _⟩
  · exact stops_nil
  · exact stops_cons (by decide)
theorem tail_blanks {t : List UInt8} (h : tailOk t) : wblanks t = t := by
  rcases h with rfl | ⟨u, rfl, _⟩
  · rfl
  · exact wblanks_keep (by decide)
theorem tail_words {t : List UInt8} (h : tailOk t) : wordsP t = some t := by
  rcases h with rfl | ⟨u, rfl, _⟩
  · exact wordsP_nil
  · exact wordsP_stop (by decide) (by decide)
theorem tail_take {t : List UInt8} (h : tailOk t) (c : UInt8) (hc : c ≠ 44) : takeP c t = none := by
  rcases h with rfl | ⟨u, rfl, _⟩
  · rfl
  · show (if (44 : UInt8) = c then some u else none) = none
    rw [if_neg (fun e => hc e.symm)]
theorem tail_quote {t : List UInt8} (h : tailOk t) : 34 ∉ t := by
  rcases h with rfl | ⟨u, rfl, h⟩
  · simp
  · simp only [List.mem_cons, not_or]; exact ⟨by decide, h⟩
theorem run1 {l t : List UInt8} (h : ∀ c ∈ l, runB c = true) (ht : tailOk t) : wrun (l ++ t) = l ∧ wrest (l ++ t) = t := ⟨wrun_app h (tail_stop ht), wrest_app h (tail_stop ht)⟩
theorem run0 {t : List UInt8} (ht : tailOk t) : wrun t = [] ∧ wrest t = t := by have := run1 (l := []) (by simp) ht; simpa using this

/-- A list that begins with an address that may not be. -/
theorem bad_named {s : List UInt8} (h1 : wblanks s = s) (h2 : takeP 64 (wrest s) = none) (h3 : namedP s = none) : listP s = none := by
  refine listP_none ?_
  unfold addressP
  rw [h1, h2]
  simp [h3]
theorem bad_plain {s : List UInt8} (h1 : wblanks s = s) (h2 : (takeP 64 (wrest s)).isSome = true) (h3 : plainP s = none) : listP s = none := by
  refine listP_none ?_
  unfold addressP
  rw [h1, h2]
  simp [h3]
theorem named_none {s r : List UInt8} (h : wordsP s = some r) (hr : takeP 60 r = none) : namedP s = none := by unfold namedP; rw [h]; simp [hr]
theorem named_plain {s r r2 : List UInt8} (h : wordsP s = some r) (hr : takeP 60 r = some r2) (hp : plainP r2 = none) : namedP s = none := by unfold namedP; rw [h]; simp [hr, hp]
theorem named_open {s r r2 : List UInt8} {x : Adr × List UInt8} (h : wordsP s = some r) (hr : takeP 60 r = some r2) (hp : plainP r2 = some x) (ht : takeP 62 x.2 = none) : namedP s = none := by unfold namedP; rw [h]; simp [hr, hp, ht]
theorem plain_of {s l r d : List UInt8} (h1 : wrun s = l) (h2 : wrest s = 64 :: r) (h3 : wrun r = d) : plainP s = if checkA l d = 0 then some ((l, d), wrest r) else none := by
  unfold plainP; rw [h1, h2]; simp only [takeP, if_true]; rw [h3]
theorem odd_list {s r : List UInt8} {a : Adr} (h1 : wblanks s = s) (h2 : (takeP 64 (wrest s)).isSome = true) (h3 : plainP s = some (a, r)) (h4 : wblanks r ≠ []) (h5 : takeP 44 (wblanks r) = none) : listP s = none := by
  refine listP_odd (a := a) (r := wblanks r) ?_ h4 h5
  unfold addressP
  rw [h1, h2]
  simp [h3]
theorem take_app {c : UInt8} {u t : List UInt8} (h : ∀ x ∈ u, runB x = true) (hc : runB c = false) : wrun (u ++ c :: t) = u ∧ wrest (u ++ c :: t) = c :: t := ⟨wrun_app h (stops_cons hc), wrest_app h (stops_cons hc)⟩

theorem bads_none {t : List UInt8} (ht : tailOk t) : ∀ b ∈ badsL, listP (b ++ t) = none := by
  have r0 := run0 ht
  intro b hb
  simp only [badsL, List.mem_cons, List.not_mem_nil, or_false] at hb
  rcases hb with rfl | rfl | rfl | rfl | rfl | rfl | rfl | rfl | rfl | rfl | rfl | rfl | rfl | rfl | rfl | rfl | rfl
  · -- nothing
    exact bad_named (tail_blanks ht) (by rw [List.nil_append, r0.2]; exact tail_take ht _ (by decide)) (named_none (tail_words ht) (tail_take ht _ (by decide)))
  · -- a
    have r := run1 (l := [97]) (by decide) ht
    refine bad_named (wblanks_keep (by decide)) (by rw [r.2]; exact tail_take ht _ (by decide)) (named_none (r := t) ?_ (tail_take ht _ (by decide)))
    show wordsP (97 :: t) = _
    rw [wordsP_run (by decide) (by decide), show wrest (97 :: t) = t from r.2, tail_blanks ht, tail_words ht]
  · -- @b
    have r := run1 (l := [98]) (by decide) ht
    have q := take_app (u := []) (c := 64) (t := 98 :: t) (by simp) (by decide)
    exact bad_plain (wblanks_keep (by decide)) (by rw [show wrest ([64, 98] ++ t) = 64 :: 98 :: t from q.2]; rfl) ((plain_of q.1 q.2 r.1).trans rfl)
  · -- a@
    have q := take_app (u := [97]) (c := 64) (t := t) (by decide) (by decide)
    exact bad_plain (wblanks_keep (by decide)) (by rw [show wrest ([97, 64] ++ t) = 64 :: t from q.2]; rfl) ((plain_of q.1 q.2 r0.1).trans rfl)
  · -- a@b@c
    have q := take_app (u := [97]) (c := 64) (t := 98 :: 64 :: 99 :: t) (by decide) (by decide)
    have q2 := take_app (u := [98]) (c := 64) (t := 99 :: t) (by decide) (by decide)
    exact odd_list (a := ([97], [98])) (r := 64 :: 99 :: t) (wblanks_keep (by decide)) (by rw [show wrest ([97, 64, 98, 64, 99] ++ t) = 64 :: 98 :: 64 :: 99 :: t from q.2]; rfl) ((plain_of q.1 q.2 q2.1).trans (by rw [if_pos (by decide), show wrest (98 :: 64 :: 99 :: t) = 64 :: 99 :: t from q2.2])) (by rw [wblanks_keep (by decide)]; simp) (by rw [wblanks_keep (by decide)]; rfl)
  · -- <a@b
    have q := take_app (u := [97]) (c := 64) (t := 98 :: t) (by decide) (by decide)
    have r := run1 (l := [98]) (by decide) ht
    refine bad_named (wblanks_keep (by decide)) (by rw [show wrest ([60, 97, 64, 98] ++ t) = 60 :: 97 :: 64 :: 98 :: t from (take_app (u := []) (by simp) (by decide)).2]; rfl) (named_open (r := 60 :: 97 :: 64 :: 98 :: t) (r2 := 97 :: 64 :: 98 :: t) (x := (([97], [98]), t)) (wordsP_stop (by decide) (by decide)) rfl ?_ (tail_take ht _ (by decide)))
    exact (plain_of q.1 q.2 r.1).trans (by rw [if_pos (by decide), show wrest (98 :: t) = t from r.2])
  · -- a@b>
    have q := take_app (u := [97]) (c := 64) (t := 98 :: 62 :: t) (by decide) (by decide)
    have q2 := take_app (u := [98]) (c := 62) (t := t) (by decide) (by decide)
    exact odd_list (a := ([97], [98])) (r := 62 :: t) (wblanks_keep (by decide)) (by rw [show wrest ([97, 64, 98, 62] ++ t) = 64 :: 98 :: 62 :: t from q.2]; rfl) ((plain_of q.1 q.2 q2.1).trans (by rw [if_pos (by decide), show wrest (98 :: 62 :: t) = 62 :: t from q2.2])) (by rw [wblanks_keep (by decide)]; simp) (by rw [wblanks_keep (by decide)]; rfl)
  · -- a@b c@d
    have q := take_app (u := [97]) (c := 64) (t := 98 :: 32 :: 99 :: 64 :: 100 :: t) (by decide) (by decide)
    have q2 := take_app (u := [98]) (c := 32) (t := 99 :: 64 :: 100 :: t) (by decide) (by decide)
    have wb : wblanks (32 :: 99 :: 64 :: 100 :: t) = 99 :: 64 :: 100 :: t := by unfold wblanks; rw [List.dropWhile_cons, if_pos (by decide), List.dropWhile_cons, if_neg (by decide)]
    exact odd_list (a := ([97], [98])) (r := 32 :: 99 :: 64 :: 100 :: t) (wblanks_keep (by decide)) (by rw [show wrest ([97, 64, 98, 32, 99, 64, 100] ++ t) = 64 :: 98 :: 32 :: 99 :: 64 :: 100 :: t from q.2]; rfl) ((plain_of q.1 q.2 q2.1).trans (by rw [if_pos (by decide), show wrest (98 :: 32 :: 99 :: 64 :: 100 :: t) = 32 :: 99 :: 64 :: 100 :: t from q2.2])) (by rw [wb]; simp) (by rw [wb]; rfl)
  · -- a b@c
    have q := take_app (u := [97]) (c := 32) (t := 98 :: 64 :: 99 :: t) (by decide) (by decide)
    have q2 := take_app (u := [98]) (c := 64) (t := 99 :: t) (by decide) (by decide)
    have wb : wblanks (32 :: 98 :: 64 :: 99 :: t) = 98 :: 64 :: 99 :: t := by unfold wblanks; rw [List.dropWhile_cons, if_pos (by decide), List.dropWhile_cons, if_neg (by decide)]
    refine bad_named (wblanks_keep (by decide)) (by rw [show wrest ([97, 32, 98, 64, 99] ++ t) = 32 :: 98 :: 64 :: 99 :: t from q.2]; rfl) (named_none (r := 64 :: 99 :: t) ?_ rfl)
    show wordsP (97 :: 32 :: 98 :: 64 :: 99 :: t) = _
    rw [wordsP_run (by decide) (by decide), show wrest (97 :: 32 :: 98 :: 64 :: 99 :: t) = 32 :: 98 :: 64 :: 99 :: t from q.2, wb, wordsP_run (by decide) (by decide), show wrest (98 :: 64 :: 99 :: t) = 64 :: 99 :: t from q2.2, wblanks_keep (by decide), wordsP_stop (by decide) (by decide)]
  · -- <a @b>
    have q := take_app (u := [97]) (c := 32) (t := 64 :: 98 :: 62 :: t) (by decide) (by decide)
    refine bad_named (wblanks_keep (by decide)) (by rw [show wrest ([60, 97, 32, 64, 98, 62] ++ t) = 60 :: 97 :: 32 :: 64 :: 98 :: 62 :: t from (take_app (u := []) (by simp) (by decide)).2]; rfl) (named_plain (r := 60 :: 97 :: 32 :: 64 :: 98 :: 62 :: t) (r2 := 97 :: 32 :: 64 :: 98 :: 62 :: t) (wordsP_stop (by decide) (by decide)) rfl ?_)
    unfold plainP
    rw [show wrest (97 :: 32 :: 64 :: 98 :: 62 :: t) = 32 :: 64 :: 98 :: 62 :: t from q.2]
    rfl
  · -- <>
    refine bad_named (wblanks_keep (by decide)) (by rw [show wrest ([60, 62] ++ t) = 60 :: 62 :: t from (take_app (u := []) (by simp) (by decide)).2]; rfl) (named_plain (r := 60 :: 62 :: t) (r2 := 62 :: t) (wordsP_stop (by decide) (by decide)) rfl ?_)
    unfold plainP
    rw [show wrest (62 :: t) = 62 :: t from (take_app (u := []) (by simp) (by decide)).2]
    rfl
  · -- a..b@c
    have q := take_app (u := [97, 46, 46, 98]) (c := 64) (t := 99 :: t) (by decide) (by decide)
    have r := run1 (l := [99]) (by decide) ht
    exact bad_plain (wblanks_keep (by decide)) (by rw [show wrest ([97, 46, 46, 98, 64, 99] ++ t) = 64 :: 99 :: t from q.2]; rfl) ((plain_of q.1 q.2 r.1).trans rfl)
  · -- .a@b
    have q := take_app (u := [46, 97]) (c := 64) (t := 98 :: t) (by decide) (by decide)
    have r := run1 (l := [98]) (by decide) ht
    exact bad_plain (wblanks_keep (by decide)) (by rw [show wrest ([46, 97, 64, 98] ++ t) = 64 :: 98 :: t from q.2]; rfl) ((plain_of q.1 q.2 r.1).trans rfl)
  · -- a.@b
    have q := take_app (u := [97, 46]) (c := 64) (t := 98 :: t) (by decide) (by decide)
    have r := run1 (l := [98]) (by decide) ht
    exact bad_plain (wblanks_keep (by decide)) (by rw [show wrest ([97, 46, 64, 98] ++ t) = 64 :: 98 :: t from q.2]; rfl) ((plain_of q.1 q.2 r.1).trans rfl)
  · -- something quoted that does not end
    have hq : quoteS false (120 :: 32 :: 60 :: 97 :: 64 :: 98 :: 62 :: t) = none := quoteS_none (by
      have := tail_quote ht
      simp only [List.mem_cons, not_or]
      exact ⟨by decide, by decide, by decide, by decide, by decide, by decide, by decide, this⟩) _
    refine bad_named (wblanks_keep (by decide)) (by rw [show wrest ([34, 120, 32, 60, 97, 64, 98, 62] ++ t) = 34 :: 120 :: 32 :: 60 :: 97 :: 64 :: 98 :: 62 :: t from (take_app (u := []) (by simp) (by decide)).2]; rfl) ?_
    unfold namedP
    rw [show wordsP ([34, 120, 32, 60, 97, 64, 98, 62] ++ t) = none from by show wordsP (34 :: _) = none; rw [wordsP_quote]; show (quoteS false (120 :: 32 :: 60 :: 97 :: 64 :: 98 :: 62 :: t)).bind _ = none; rw [hq]; rfl]
    rfl
  · -- something quoted alone
    have hq : quoteS false (120 :: 34 :: t) = some t := by simp [quoteS]
    refine bad_named (wblanks_keep (by decide)) (by rw [show wrest ([34, 120, 34] ++ t) = 34 :: 120 :: 34 :: t from (take_app (u := []) (by simp) (by decide)).2]; rfl) (named_none (r := t) ?_ (tail_take ht _ (by decide)))
    show wordsP (34 :: 120 :: 34 :: t) = _
    rw [wordsP_quote, hq]
    show wordsP (wblanks t) = some t
    rw [tail_blanks ht, tail_words ht]
  · -- a@b;
    have q := take_app (u := [97]) (c := 64) (t := 98 :: 59 :: t) (by decide) (by decide)
    have q2 := take_app (u := [98]) (c := 59) (t := t) (by decide) (by decide)
    exact odd_list (a := ([97], [98])) (r := 59 :: t) (wblanks_keep (by decide)) (by rw [show wrest ([97, 64, 98, 59] ++ t) = 64 :: 98 :: 59 :: t from q.2]; rfl) ((plain_of q.1 q.2 q2.1).trans (by rw [if_pos (by decide), show wrest (98 :: 59 :: t) = 59 :: t from q2.2])) (by rw [wblanks_keep (by decide)]; simp) (by rw [wblanks_keep (by decide)]; rfl)

theorem bad_first {a : Adr} (h : lawful a) {b : List UInt8} (hb : b ∈ badsL) : listP (b ++ 44 :: textA a) = none := by
  refine bads_none (Or.inr ⟨textA a, rfl, ?_⟩) b hb
  obtain ⟨k1, k2⟩ := h.letters
  unfold textA
  simp only [List.mem_append, List.mem_cons, not_or]
  exact ⟨letters_ne k1 _ (by decide) (by decide), by decide, letters_ne k2 _ (by decide) (by decide)⟩
theorem bad_last {a : Adr} (h : lawful a) {b : List UInt8} (hb : b ∈ badsL) : listP (textA a ++ 44 :: b) = none := by
  rw [listP_text_more h]
  have := bads_none (Or.inl rfl) b hb
  rw [List.append_nil] at this
  rw [this]; rfl
end Go.Proofs.YtmcpipgjckgjgaaDoor
