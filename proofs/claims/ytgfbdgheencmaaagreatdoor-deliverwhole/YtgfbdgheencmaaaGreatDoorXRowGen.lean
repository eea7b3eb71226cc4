/-
  Rows and boxes in memory: what no function is named in.
-/
import Derived.Test.YtgfbdgheencmaaaGreatDoorXQBx3
import Derived.OpenShut
namespace Go.Proofs.YtgfbdgheencmaaaGreatDoor
open Go.RowKit
theorem RowM.takeR {A : Type} {Q : Nat → Prop} {k : Nat} {P : A → List Value → Prop} {w : World} {a : Option Addr} {c : Nat} {l : List A} (h : RowM Q k P w (.slice a l.length c) l) (m c' : Nat) (hm : m ≤ l.length) : RowM Q k P w (.slice a m c') (l.take m) := by
 obtain ⟨a', c0, hv, hs, hx⟩ := h; simp only [Value.slice.injEq, true_and] at hv; obtain ⟨rfl, rfl⟩ := hv; have hl : (l.take m).length = m := by rw [List.length_take]; omega
 refine ⟨a, c', by rw [hl], by omega, fun i x hi => ?_⟩; have hi' : i < m := by rw [← hl]; exact (List.getElem?_eq_some_iff.1 hi).1
 rw [List.getElem?_take_of_lt hi'] at hi; exact hx i x hi
theorem RowM.dropR {A : Type} {Q : Nat → Prop} {k : Nat} {P : A → List Value → Prop} {w : World} {b o c : Nat} {l : List A} (h : RowM Q k P w (.slice (some ⟨b, o, none⟩) l.length c) l) (m n c' : Nat) (hn : n = l.length - m) : RowM Q k P w (.slice (some ⟨b, o + m * k, none⟩) n c') (l.drop m) := by
 obtain ⟨a', c0, hv, hs, hx⟩ := h; simp only [Value.slice.injEq, true_and] at hv; obtain ⟨rfl, rfl⟩ := hv; have hl : (l.drop m).length = n := by rw [List.length_drop]; omega
 refine ⟨_, c', by rw [hl], by omega, fun i x hi => ?_⟩; rw [List.getElem?_drop] at hi; obtain ⟨b', o', cs, ha, h1, h2, h3, h4, h5⟩ := hx _ x hi; cases ha; refine ⟨_, _, cs, rfl, h1, h2, h3, fun j u hj => ?_, h5⟩; rw [show o + m * k + i * k + j = o + (m + i) * k + j by rw [Nat.add_mul]; omega]; exact h4 j u hj
theorem je {w : World} (o : Obj) {b : Nat} {x : Obj} (h : w.heap[b]? = some x) : (w.alloc o).heap[b]? = some x := by
 have hb := (Array.getElem?_eq_some_iff.1 h).1
 show (w.heap.push o)[b]? = _
 rw [Array.getElem?_push_lt hb, ← Array.getElem?_eq_getElem hb]; exact h
theorem jm {w : World} (o : Obj) {b : Nat} (h : b = w.heap.size) : (w.alloc o).heap[b]? = some o := by rw [h]; exact heap_alloc_new w o
theorem jbb {k : Nat} : ∀ {css : List (List Value)}, (∀ c ∈ css, c.length = k) → css.flatten.length = css.length * k := by
 intro css
 induction css with
 | nil => intro _; simp
 | cons c css ih =>
   intro h; rw [List.flatten_cons, List.length_append, h c (by simp), ih fun d hd => h d (by simp [hd]), List.length_cons, Nat.add_mul]; omega
theorem jeW {A : Type} {Q : Nat → Prop} {k : Nat} {P : A → List Value → Prop} {w : World} {b o c : Nat} {l : List A} (h : RowM Q k P w (.slice (some ⟨b, o, none⟩) l.length c) l) : ∀ m : Nat, m ≤ l.length →
 ∃ css : List (List Value), css.length = m ∧ (∀ cs ∈ css, cs.length = k) ∧ (∀ (i : Nat) (x : A) (cs : List Value), l[i]? = some x → css[i]? = some cs → P x cs) ∧ ∀ (j : Nat) u, css.flatten[j]? = some u → w.cell? ⟨b, o + j, none⟩ = some u := by
 intro m
 induction m with
 | zero => intro _; exact ⟨[], rfl, (fun cs h => by cases h), (fun i x cs _ h => by simp at h), (fun j u h => by simp at h)⟩
 | succ m ih =>
   intro hm; obtain ⟨css, h1, h2, h3, h4⟩ := ih (by omega); obtain ⟨a', c', hv, _, hr⟩ := h; simp only [Value.slice.injEq, true_and] at hv; obtain ⟨rfl, rfl⟩ := hv; obtain ⟨x, hx⟩ : ∃ x, l[m]? = some x := ⟨_, List.getElem?_eq_getElem (by omega)⟩; obtain ⟨b', o', cs, ha, _, _, hl, hc, hP⟩ := hr m x hx; cases ha; have hfl := jbb h2; rw [h1] at hfl; refine ⟨css ++ [cs], by simp [h1], ?_, ?_, ?_⟩
   · intro d hd
     rcases List.mem_append.1 hd with e | e
     · exact h2 d e
     · simp at e; rw [e]; exact hl
   · intro i y d hy hd
     rcases Nat.lt_or_ge i m with hi | hi
     · rw [List.getElem?_append_left (by omega)] at hd; exact h3 i y d hy hd
     · rw [List.getElem?_append_right (by omega)] at hd; have hz : i - css.length = 0 := by
        rcases Nat.eq_zero_or_pos (i - css.length) with e | e
        · exact e
        · obtain ⟨q, hq⟩ : ∃ q, i - css.length = q + 1 := ⟨i - css.length - 1, by omega⟩; rw [hq] at hd; simp at hd
       rw [hz] at hd
       simp at hd
       subst hd; obtain rfl : i = m := by omega
       rw [hx] at hy; cases hy; exact hP
   · intro j u hj; have ef : (css ++ [cs]).flatten = css.flatten ++ cs := by simp
     rw [ef] at hj
     rcases Nat.lt_or_ge j (m * k) with hlt | hge
     · rw [List.getElem?_append_left (by omega)] at hj; exact h4 j u hj
     · rw [List.getElem?_append_right (by omega), hfl] at hj; have := hc _ u hj; rw [show o + m * k + (j - m * k) = o + j by omega] at this; exact this
end Go.Proofs.YtgfbdgheencmaaaGreatDoor
