/-
  A session that goes on, in its box: what its methods do.
-/
import Derived.Test.YtkdmccgfehmoaaaLmChk
import Derived.Test.YtkdmccgfehmoaaaLmStr
import Derived.Test.YtkdmccgfehmoaaaFold
import Derived.Test.YtkdmccgfehmoaaaShelf
namespace Go.Proofs.Ytkdmccgfehmoaaa
open Go.RowKit Go.Proofs

/-- A session lies in a box, its list To being v, its letters being lv. -/
def SB (w : World) (b : Nat) (s : Ses) (v lv : Value) : Prop := w.heap[b]? = some (.cells #[.int .i64 s.step, .string (S s.frm.1), .string (S s.frm.2), v, .string (S s.text), .bool s.large, lv] 43)
/-- A session lies in a box, its list To in a row of the call's own. -/
def SesW (w : World) (b B : Nat) (s : Ses) (lv : Value) : Prop := ∃ v, SB w b s v lv ∧ OwnL w B v s.to
theorem lm_put {w : World} {p j : Nat} {cs : Array Value} {u : Value} {t : TypeId} (h : w.heap[p]? = some (.cells cs t)) : (w.setCell ⟨p, j, none⟩ u).heap[p]? = some (.cells (cs.setIfInBounds j u) t) := heap_setCell_same w p j cs t u h
theorem lm_box7 {w : World} {p : Nat} {v0 v1 v2 v3 v4 v5 v6 : Value} {t : TypeId} (h : w.heap[p]? = some (.cells #[v0, v1, v2, v3, v4, v5, v6] t)) :
    (w.cell? ⟨p, 0, none⟩ = some v0 ∧ w.cell? ⟨p, 1, none⟩ = some v1 ∧ w.cell? ⟨p, 2, none⟩ = some v2 ∧ w.cell? ⟨p, 3, none⟩ = some v3 ∧ w.cell? ⟨p, 4, none⟩ = some v4 ∧ w.cell? ⟨p, 5, none⟩ = some v5 ∧ w.cell? ⟨p, 6, none⟩ = some v6) ∧ ∀ j, w.frozen? ⟨p, j, none⟩ = false := by
  simp [World.cell?, World.frozen?, h]
theorem lm_low {w w' : World} {p n : Nat} {o : Obj} (hb : Below n w w') (h : w.heap[p]? = some o) (hn : p < n) : w'.heap[p]? = some o := (hb.block p hn).trans h
theorem lm_next {w w' : World} {p : Nat} {o : Obj} (hb : Below w.heap.size w w') (h : w.heap[p]? = some o) : w'.heap[p]? = some o := (hb.block p (Array.getElem?_eq_some_iff.1 h).1).trans h
theorem own_next {w w' : World} {B : Nat} {v : Value} {l : List Adr} (h : OwnL w B v l) (hb : Below w.heap.size w w') : OwnL w' B v l := by
  unfold OwnL at *
  refine ⟨h.1, ?_⟩
  rcases h.2 with h' | ⟨g, cap, cur, hv, hB, hg, hr⟩
  · exact .inl h'
  · exact .inr ⟨g, cap, cur, hv, hB, (hb.block g (Array.getElem?_eq_some_iff.1 hg).1).trans hg, hr⟩
/-- A write into a box of another type leaves a row alone. -/
theorem own_other {w : World} {B b j : Nat} {v u : Value} {l : List Adr} {cs : Array Value} (h : OwnL w B v l) (hb : w.heap[b]? = some (.cells cs 43)) : OwnL (w.setCell ⟨b, j, none⟩ u) B v l := by
  unfold OwnL at *
  refine ⟨h.1, ?_⟩
  rcases h.2 with h' | ⟨g, cap, cur, hv, hB, hg, hr⟩
  · exact .inl h'
  · refine .inr ⟨g, cap, cur, hv, hB, ?_, hr⟩
    have hne : g ≠ b := fun e => by rw [e, hb] at hg; simp at hg
    exact (Below.heap_setCell _ _ _ _ hne).trans hg
/-- What a method that hands back a number does. -/
def ObP (n b B : Nat) (w : World) (r : Ses × Int) (lv : Value) (e : Ending) (w' : World) : Prop := e = .returned (.int .i64 r.2) ∧ SesW w' b B r.1 lv ∧ Below n w w'
/-- What a method that hands back nothing does. -/
def DoP' (n b B : Nat) (w : World) (r : Ses) (lv : Value) (e : Ending) (w' : World) : Prop := e = .returned (.tuple #[]) ∧ SesW w' b B r lv ∧ Below n w w'
theorem six7 {W : World} {p : Nat} {u0 u1 u2 u3 u4 u5 u6 v0 v1 v2 v3 v4 v5 : Value} {t : TypeId} (h : W.heap[p]? = some (.cells #[u0, u1, u2, u3, u4, u5, u6] t)) : ((((((W.setCell ⟨p, 0, none⟩ v0).setCell ⟨p, 1, none⟩ v1).setCell ⟨p, 2, none⟩ v2).setCell ⟨p, 3, none⟩ v3).setCell ⟨p, 4, none⟩ v4).setCell ⟨p, 5, none⟩ v5).heap[p]? = some (.cells #[v0, v1, v2, v3, v4, v5, u6] t) := by
  have := lm_put (j := 5) (u := v5) (lm_put (j := 4) (u := v4) (lm_put (j := 3) (u := v3) (lm_put (j := 2) (u := v2) (lm_put (j := 1) (u := v1) (lm_put (j := 0) (u := v0) h)))))
  simp only [List.setIfInBounds_toArray, List.set_cons_succ, List.set_cons_zero] at this
  exact this
theorem low7 {B p : Nat} (W : World) (v0 v1 v2 v3 v4 v5 : Value) (hp : B ≤ p) : Below B W ((((((W.setCell ⟨p, 0, none⟩ v0).setCell ⟨p, 1, none⟩ v1).setCell ⟨p, 2, none⟩ v2).setCell ⟨p, 3, none⟩ v3).setCell ⟨p, 4, none⟩ v4).setCell ⟨p, 5, none⟩ v5) := by
  have h0 := (Below.refl B W).setCell (p := ⟨p, 0, none⟩) hp v0
  have h1 := h0.setCell (p := ⟨p, 1, none⟩) hp v1
  have h2 := h1.setCell (p := ⟨p, 2, none⟩) hp v2
  have h3 := h2.setCell (p := ⟨p, 3, none⟩) hp v3
  have h4 := h3.setCell (p := ⟨p, 4, none⟩) hp v4
  exact h4.setCell (p := ⟨p, 5, none⟩) hp v5
/-- A box with a session that has a Step, and nothing else. -/
def sesAt (w : World) (b : Nat) (k : Int) : World := (((((w.setCell ⟨b, 0, none⟩ (.int .i64 k)).setCell ⟨b, 1, none⟩ (.string ⟨#[]⟩)).setCell ⟨b, 2, none⟩ (.string ⟨#[]⟩)).setCell ⟨b, 3, none⟩ (.slice none 0 0)).setCell ⟨b, 4, none⟩ (.string ⟨#[]⟩)).setCell ⟨b, 5, none⟩ (.bool false)
theorem sesAt_box {w : World} {b : Nat} {s : Ses} {v lv : Value} (h : SB w b s v lv) (k : Int) : SB (sesAt w b k) b (atS k) (.slice none 0 0) lv := six7 h
theorem sesAt_low {n b : Nat} (w : World) (hn : n ≤ b) (k : Int) : Below n w (sesAt w b k) := low7 _ _ _ _ _ _ _ hn
theorem sesAt_else {w : World} {b g : Nat} (k : Int) (hg : g ≠ b) : (sesAt w b k).heap[g]? = w.heap[g]? := by
  unfold sesAt
  rw [Below.heap_setCell _ _ _ _ hg, Below.heap_setCell _ _ _ _ hg, Below.heap_setCell _ _ _ _ hg, Below.heap_setCell _ _ _ _ hg, Below.heap_setCell _ _ _ _ hg, Below.heap_setCell _ _ _ _ hg]
set_option maxHeartbeats 1000000 in
set_option maxRecDepth 100000 in
theorem become_raw (b : Nat) (k : Int) (s : Ses) (v lv : Value) (w : World) (h : SB w b s v lv) :
    Calls Try.prog 41 #[.pointer (some ⟨b, 0, none⟩), .int .i64 k] w fun e w' => e = .returned (.tuple #[]) ∧ w' = sesAt w b k := by
  obtain ⟨⟨x0, x1, x2, x3, x4, x5, x6⟩, hfz⟩ := lm_box7 h
  have f0 := hfz 0
  have f1 := hfz 1
  have f2 := hfz 2
  have f3 := hfz 3
  have f4 := hfz 4
  have f5 := hfz 5
  clear hfz h
  go_enter Try.func41, Try.ntmps41
  go_wp2
  go_end0
  exact ⟨rfl, rfl⟩
theorem become_any (n b B : Nat) (k : Int) (s : Ses) (v lv : Value) (w : World) (h : SB w b s v lv) (hn : n ≤ b) :
    Calls Try.prog 41 #[.pointer (some ⟨b, 0, none⟩), .int .i64 k] w (DoP' n b B w (atS k) lv) := by
  refine (become_raw b k s v lv w h).mono ?_
  rintro e u ⟨rfl, rfl⟩
  exact ⟨rfl, ⟨_, sesAt_box h k, OwnL.nil _ _⟩, sesAt_low _ hn k⟩
end Go.Proofs.Ytkdmccgfehmoaaa
