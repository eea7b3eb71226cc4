/-
  What a session does with the lines of a letter: the walks.
-/
import Derived.Test.YtkdmccgfehmoaaaLmGoal
namespace Go.Proofs.Ytkdmccgfehmoaaa
open Go.RowKit Go.Proofs

def ltrC (x : Ltr) : List Value := [.string (S x.1.1), .string (S x.1.2), .string (S x.2.1.1), .string (S x.2.1.2), .string (S x.2.2)]
def cellsT (l : List Ltr) : List Value := (l.map ltrC).flatten
/-- A row of letters that was made from a block on. -/
def OwnT (w : World) (B : Nat) (v : Value) (l : List Ltr) : Prop := w.ownsRow B 50 5 v l.length (cellsT l)
def LtrM (x : Ltr) (cs : List Value) : Prop := cs = ltrC x
/-- Letters lie in a row. -/
def LtrsM (Q : Nat → Prop) (w : World) (v : Value) (l : List Ltr) : Prop := RowM Q 5 LtrM w v l
theorem cellsT_length (l : List Ltr) : (cellsT l).length = l.length * 5 := by
  induction l with
  | nil => rfl
  | cons x l ih => simp only [cellsT, ltrC, List.map_cons, List.flatten_cons, List.length_append, List.length_cons, List.length_nil] at *; omega
theorem cellsT_snoc (l : List Ltr) (x : Ltr) : cellsT (l ++ [x]) = cellsT l ++ ltrC x := by simp [cellsT]
theorem cellsT_get {l : List Ltr} {i : Nat} {x : Ltr} (h : l[i]? = some x) (j : Nat) (hj : j < 5) : (cellsT l)[i * 5 + j]? = (ltrC x)[j]? := by
  induction l generalizing i with
  | nil => simp at h
  | cons g l ih =>
    have hl : (ltrC g).length = 5 := rfl
    cases i with
    | zero =>
      simp at h
      subst h
      simp only [cellsT, List.map_cons, List.flatten_cons]
      rw [List.getElem?_append_left (by rw [hl]; omega)]
      simp
    | succ i =>
      have := ih (i := i) (by simpa using h)
      simp only [cellsT, List.map_cons, List.flatten_cons]
      rw [List.getElem?_append_right (by rw [hl]; omega), hl, show (i + 1) * 5 + j - 5 = i * 5 + j by omega]
      exact this
theorem OwnT.slice {w : World} {B : Nat} {v : Value} {l : List Ltr} (h : OwnT w B v l) : ∃ a c, v = .slice a l.length c := by
  rcases h.2 with ⟨rfl, hn⟩ | ⟨g, cap, cur, rfl, _⟩
  · exact ⟨none, 0, by rw [hn]⟩
  · exact ⟨_, _, rfl⟩
theorem OwnT.row {w : World} {B : Nat} {v : Value} {l : List Ltr} (h : OwnT w B v l) (hm : l.length ≤ maxLen) : LtrsM (B ≤ ·) w v l := by
  obtain ⟨a, c, rfl⟩ := h.slice
  refine ⟨a, c, rfl, hm, fun i x hx => ?_⟩
  have hi : i < l.length := (List.getElem?_eq_some_iff.1 hx).1
  obtain ⟨g, cap, e, hb, hg⟩ := World.ownsRow.form h (by omega)
  simp only [Value.slice.injEq, true_and] at e
  obtain ⟨rfl, rfl⟩ := e
  refine ⟨g, 0, ltrC x, rfl, hg, hb, rfl, ?_, rfl⟩
  intro j u hj
  have hj5 : j < 5 := (List.getElem?_eq_some_iff.1 hj).1
  rw [Nat.zero_add, World.ownsRow.cellAt h (i * 5 + j) (by omega), cellsT_get hx j hj5]
  exact hj
theorem OwnT.nil (w : World) (B : Nat) : OwnT w B (.slice none 0 0) [] := World.ownsRow_nil _ _ _ _
theorem ownT_next {w w' : World} {B : Nat} {v : Value} {l : List Ltr} (h : OwnT w B v l) (hb : Below w.heap.size w w') : OwnT w' B v l := by
  unfold OwnT at *
  refine ⟨h.1, ?_⟩
  rcases h.2 with h' | ⟨g, cap, cur, hv, hB, hg, hr⟩
  · exact .inl h'
  · exact .inr ⟨g, cap, cur, hv, hB, (hb.block g (Array.getElem?_eq_some_iff.1 hg).1).trans hg, hr⟩
theorem ownT_other {w : World} {B b j : Nat} {v u : Value} {l : List Ltr} {cs : Array Value} (h : OwnT w B v l) (hb : w.heap[b]? = some (.cells cs 43)) : OwnT (w.setCell ⟨b, j, none⟩ u) B v l := by
  unfold OwnT at *
  refine ⟨h.1, ?_⟩
  rcases h.2 with h' | ⟨g, cap, cur, hv, hB, hg, hr⟩
  · exact .inl h'
  · refine .inr ⟨g, cap, cur, hv, hB, ?_, hr⟩
    have hne : g ≠ b := fun e => by rw [e, hb] at hg; simp at hg
    exact (Below.heap_setCell _ _ _ _ hne).trans hg
theorem ownT_ne {w : World} {B b : Nat} {v : Value} {l : List Ltr} {cs : Array Value} (h : OwnT w B v l) (hb : w.heap[b]? = some (.cells cs 43)) : some b ≠ v.ownBlock := by
  rcases h.2 with ⟨rfl, _⟩ | ⟨g, cap, cur, rfl, hB, hg, hr⟩
  · simp [Value.ownBlock]
  · intro e
    simp [Value.ownBlock] at e
    rw [← e, hb] at hg
    simp at hg
theorem ownT_base {w : World} {B : Nat} {v : Value} {l : List Ltr} (h : OwnT w B v l) : ∀ k, v.ownBlock = some k → B ≤ k := by
  intro k hk
  rcases h.2 with ⟨rfl, _⟩ | ⟨g, cap, cur, rfl, hB, hg, hr⟩
  · simp [Value.ownBlock] at hk
  · simp [Value.ownBlock] at hk
    omega
/-- Letters that grow leave the row of addresses alone. -/
theorem own_grown {w WA w5 : World} {B H : Nat} {v lv : Value} {l : List Adr} {ls : List Ltr} (h : OwnL w B v l) (ht : OwnT w H lv ls) (hWA : Below w.heap.size w WA) (hg : WA.grownBy w5 lv.ownBlock) : OwnL w5 B v l := by
  unfold OwnL at *
  refine ⟨h.1, ?_⟩
  rcases h.2 with h' | ⟨g, cap, cur, hv, hB, hgg, hr⟩
  · exact .inl h'
  · refine .inr ⟨g, cap, cur, hv, hB, ?_, hr⟩
    have hlt := (Array.getElem?_eq_some_iff.1 hgg).1
    have hne : some g ≠ lv.ownBlock := by
      rcases ht.2 with ⟨rfl, _⟩ | ⟨g', cap', cur', rfl, hB', hg', hr'⟩
      · simp [Value.ownBlock]
      · intro e
        simp [Value.ownBlock] at e
        rw [← e, hgg] at hg'
        simp at hg'
    exact (hg.block g (Nat.lt_of_lt_of_le hlt hWA.size) hne).trans ((hWA.block g hlt).trans hgg)
theorem infoLt : (Try.prog.info? 50).map (fun i => (i.zero, i.size, i.bytes)) = some (some (.agg #[.string ByteArray.empty, .string ByteArray.empty, .string ByteArray.empty, .string ByteArray.empty, .string ByteArray.empty]), 5, 80) := by kernel_rfl
theorem hand_end {n b B H gm cap : Nat} {w W WA w5 : World} {s : Ses} {v lv : Value} {ls : List Ltr} {x : Ltr} (hs : SB W b s v lv) (ho : OwnL W B v s.to) (ht : OwnT W H lv ls) (hn : n ≤ b) (hH : n ≤ H) (h0 : Below n w W) (hWA : Below W.heap.size W WA) (hg : WA.grownBy w5 lv.ownBlock)
    (hown : w5.ownsRow H 50 5 (.slice (some ⟨gm, 0, none⟩) (ls.length + 1) cap) (ls.length + 1) (cellsT ls ++ ltrC x)) :
    SB (w5.setCell ⟨b, 6, none⟩ (.slice (some ⟨gm, 0, none⟩) (ls.length + 1) cap)) b s v (.slice (some ⟨gm, 0, none⟩) (ls.length + 1) cap) ∧
      OwnL (w5.setCell ⟨b, 6, none⟩ (.slice (some ⟨gm, 0, none⟩) (ls.length + 1) cap)) B v s.to ∧
      OwnT (w5.setCell ⟨b, 6, none⟩ (.slice (some ⟨gm, 0, none⟩) (ls.length + 1) cap)) H (.slice (some ⟨gm, 0, none⟩) (ls.length + 1) cap) (ls ++ [x]) ∧
      Below n w (w5.setCell ⟨b, 6, none⟩ (.slice (some ⟨gm, 0, none⟩) (ls.length + 1) cap)) := by
  have hlt := SB.lt hs
  have hbA : WA.heap[b]? = _ := lm_next hWA hs
  have hb5 : w5.heap[b]? = _ := (hg.block b (Nat.lt_of_lt_of_le hlt hWA.size) (ownT_ne ht hs)).trans hbA
  have h1 := lm_put (j := 6) (u := .slice (some ⟨gm, 0, none⟩) (ls.length + 1) cap) hb5
  simp only [List.setIfInBounds_toArray, List.set_cons_zero, List.set_cons_succ] at h1
  have hO : OwnT w5 H (.slice (some ⟨gm, 0, none⟩) (ls.length + 1) cap) (ls ++ [x]) := by
    unfold OwnT
    rw [cellsT_snoc, List.length_append]
    exact hown
  refine ⟨h1, own_other (own_grown ho ht hWA hg) hb5, ownT_other hO hb5, ?_⟩
  have hbl : Below n w w5 := (h0.trans (hWA.mono (by omega))).grown hg (by have := h0.size; have := hWA.size; omega) (fun k hk => Nat.le_trans hH (ownT_base ht k hk))
  exact hbl.setCell (p := ⟨b, 6, none⟩) hn _
theorem five_new (w : World) (a b c d e : Value) (t : TypeId) (H : Nat) (hH : w.heap.size = H) : ∀ j u, [a, b, c, d, e][j]? = some u → (w.alloc (.cells #[a, b, c, d, e] t)).cell? ((⟨H, 0, none⟩ : Addr).add j) = some u := by
  intro j u hj
  subst hH
  rw [Addr.add_lit]
  have := heap_alloc_new w (.cells #[a, b, c, d, e] t)
  simp only [World.cell?, this, Nat.zero_add]
  simpa using hj
/-- What a method does that reads a line of a letter. -/
def RdP (n b B H : Nat) (w : World) (r : Ses × List Ltr) (e : Ending) (w' : World) : Prop := e = .returned (.tuple #[]) ∧ ∃ lv, SesW w' b B r.1 lv ∧ OwnT w' H lv r.2 ∧ Below n w w'
theorem letters_get {s : Ses} {i : Nat} {x : Adr} (h : s.to[i]? = some x) : (lettersM s).take (i + 1) = (lettersM s).take i ++ [(s.frm, x, s.text)] := by
  have h2 : (lettersM s)[i]? = some (s.frm, x, s.text) := by unfold lettersM; rw [List.getElem?_map, h]; rfl
  exact take_some h2
theorem letters_len (s : Ses) (i : Nat) (h : i ≤ s.to.length) : ((lettersM s).take i).length = i := by
  rw [List.length_take]
  unfold lettersM
  rw [List.length_map]
  omega
theorem ownT_at {w : World} {B b : Nat} {v : Value} {l : List Ltr} {cs : Array Value} (h : OwnT w B v l) (hb : w.heap[b]? = some (.cells cs 43)) (k : Int) : OwnT (sesAt w b k) B v l := by
  unfold OwnT at *
  refine ⟨h.1, ?_⟩
  rcases h.2 with h' | ⟨g, cap, cur, hv, hB, hg, hr⟩
  · exact .inl h'
  · refine .inr ⟨g, cap, cur, hv, hB, ?_, hr⟩
    have hne : g ≠ b := fun e => by rw [e, hb] at hg; simp at hg
    exact (sesAt_else k hne).trans hg
end Go.Proofs.Ytkdmccgfehmoaaa
