/-
  The writer of ops sends jumps on, and copies what it takes over: the walks.
-/
import Derived.Test.YtlcnfpeabnnjoaaGreatDoorCodAdd
namespace Go.Proofs.YtlcnfpeabnnjoaaGreatDoor
open Go.RowKit Go.Proofs

/-- A row of numbers. -/
def NumM (x : Nat) (cs : List Value) : Prop := cs = [.int .i64 (x : Int)]
abbrev NumsM (Q : Nat → Prop) (w : World) (v : Value) (l : List Nat) : Prop := RowM Q 1 NumM w v l
theorem num_at {Q : Nat → Prop} {w : World} {a : Option Addr} {c : Nat} {l : List Nat} (h : NumsM Q w (.slice a l.length c) l) {i : Nat} {x : Nat} (hx : l[i]? = some x) : ∃ b o, a = some ⟨b, o, none⟩ ∧ b < w.heap.size ∧ Q b ∧ w.cell? ⟨b, o + i, none⟩ = some (.int .i64 (x : Int)) := by
  obtain ⟨a', c', hv, _, hr⟩ := h
  simp only [Value.slice.injEq, true_and] at hv
  obtain ⟨rfl, rfl⟩ := hv
  obtain ⟨b, o, cs, ha, hb, hq, _, hc, rfl⟩ := hr i x hx
  exact ⟨b, o, ha, hb, hq, by simpa using hc 0 _ rfl⟩
theorem flatten_set {k j : Nat} {u : Value} : ∀ {css : List (List Value)} {i : Nat} {cs : List Value}, (∀ c ∈ css, c.length = k) → css[i]? = some cs → j < k → css.flatten.set (i * k + j) u = (css.set i (cs.set j u)).flatten := by
  intro css
  induction css with
  | nil => intro i cs _ h _; simp at h
  | cons c css ih =>
    intro i cs hk h hj
    have hc : c.length = k := hk c (by simp)
    cases i with
    | zero =>
      simp at h
      subst h
      simp only [Nat.zero_mul, Nat.zero_add, List.flatten_cons, List.set_cons_zero]
      rw [List.set_append_left _ _ (by omega)]
    | succ i =>
      have := ih (fun c hc => hk c (by simp [hc])) (by simpa using h) hj
      simp only [List.flatten_cons, List.set_cons_succ]
      rw [List.set_append_right _ _ (by rw [hc, Nat.add_mul]; omega), ← this]
      congr 2
      rw [hc, Nat.add_mul]
      omega
theorem send_set {N : Nat} {L : List Opr} {p : Nat} {x : Opr} (h : L[p]? = some x) : sendO N L p = L.set p (sendTo N x) := by
  unfold sendO
  induction L generalizing p with
  | nil => simp at h
  | cons y L ih =>
    cases p with
    | zero => simp at h; subst h; rfl
    | succ p => simp only [List.modify_succ_cons, List.set_cons_succ]; rw [ih (by simpa using h)]
/-- A jump's place is written. -/
theorem OwnOs.send {X : Nat → Prop} {B N p g cap : Nat} {w : World} {L : List Opr} (h : OwnOs X B w (.slice (some ⟨g, 0, none⟩) L.length cap) L) (hp : p < L.length) : OwnOs X B (w.setCell ⟨g, p * 22 + 1, none⟩ (.int .i64 (N : Int))) (.slice (some ⟨g, 0, none⟩) L.length cap) (sendO N L p) := by
  obtain ⟨css, h1, h2, h3, h4⟩ := h
  obtain ⟨x, hx⟩ : ∃ x, L[p]? = some x := ⟨_, List.getElem?_eq_getElem hp⟩
  obtain ⟨cs, hcs⟩ : ∃ cs, css[p]? = some cs := ⟨_, List.getElem?_eq_getElem (by omega)⟩
  rw [send_set hx]
  have hq : ∀ b, rowQ B w (.slice (some ⟨g, 0, none⟩) L.length cap) b → b ≠ g := fun b hb e => hb.2.2 (by rw [e]; rfl)
  have hfirm : ∀ (y : Opr) (ds : List Value), OpM (fun q => rowQ B w (.slice (some ⟨g, 0, none⟩) L.length cap) q ∧ ¬ X q) w y ds → OpM (fun q => rowQ B (w.setCell ⟨g, p * 22 + 1, none⟩ (.int .i64 (N : Int))) (.slice (some ⟨g, 0, none⟩) L.length cap) q ∧ ¬ X q) (w.setCell ⟨g, p * 22 + 1, none⟩ (.int .i64 (N : Int))) y ds := fun y ds hy => firm_opX X _ _ _ _ _ _ (fun b hb => ⟨hb.1, by simpa [World.setCell] using hb.2.1, hb.2.2⟩) (Keeps.set w _ hq) hy
  refine ⟨css.set p (cs.set 1 (.int .i64 (N : Int))), ?_, by simp [h2], ?_, ?_⟩
  · rw [← flatten_set h3 hcs (by omega), List.length_set]
    exact own_put h1 _ _
  · intro c hc
    rcases List.mem_or_eq_of_mem_set hc with e | e
    · exact h3 c e
    · rw [e, List.length_set]; exact h3 cs (List.mem_of_getElem? hcs)
  · intro i y d hy hd
    rw [List.getElem?_set] at hy hd
    by_cases e : p = i
    · subst e
      rw [if_pos rfl, if_pos hp] at hy
      rw [if_pos rfl, if_pos (by omega)] at hd
      cases hy
      cases hd
      obtain ⟨ts, ds, rfl, k1, k2⟩ := hfirm x cs (h4 p x cs hx hcs)
      exact ⟨ts, ds, rfl, k1, k2⟩
    · rw [if_neg e] at hy hd
      exact hfirm y d (h4 i y d hy hd)
theorem own_cell {X : Nat → Prop} {B p g cap : Nat} {w : World} {L : List Opr} (h : OwnOs X B w (.slice (some ⟨g, 0, none⟩) L.length cap) L) (hp : p < L.length) : (∃ v, w.cell? ⟨g, p * 22 + 1, none⟩ = some v) ∧ w.frozen? ⟨g, p * 22 + 1, none⟩ = false ∧ B ≤ g ∧ g < w.heap.size := by
  obtain ⟨css, h1, h2, h3, h4⟩ := h
  obtain ⟨cs, hcs⟩ : ∃ cs, css[p]? = some cs := ⟨_, List.getElem?_eq_getElem (by omega)⟩
  have hk := h3 cs (List.mem_of_getElem? hcs)
  have hc := World.ownsRow.cells h1 (g := g) rfl (p * 22 + 1) (cs[1]'(by omega)) (by rw [flatten_at h3 hcs (by omega)]; exact List.getElem?_eq_getElem (by omega))
  rw [Addr.add_lit, Nat.zero_add] at hc
  refine ⟨⟨_, hc⟩, ?_, World.ownsRow.lt h1 g rfl⟩
  rcases h1.2 with ⟨e, _⟩ | ⟨g', cap', cur, e, _, hg, _⟩
  · cases e
  · simp only [Value.slice.injEq, Option.some.injEq, Addr.mk.injEq, and_true, true_and] at e
    obtain ⟨rfl, rfl⟩ := e
    exact box_free hg _
theorem OwnOs.addr {X : Nat → Prop} {B : Nat} {w : World} {a : Option Addr} {k : Nat} {L : List Opr} (h : OwnOs X B w (.slice a L.length k) L) (h0 : 0 < L.length) : ∃ g, a = some ⟨g, 0, none⟩ := by
  obtain ⟨css, h1, _⟩ := h
  rcases h1.2 with ⟨e, hn⟩ | ⟨g', cap', cur, e, _⟩
  · omega
  · simp only [Value.slice.injEq] at e
    exact ⟨g', e.1⟩
/-- What jumps sent on change. -/
def SndP (X : Nat → Prop) (w : World) (b : Nat) (acc : List Opr) (l : List Nat) (a ra : Option Addr) (c k : Nat) (L : List Opr) (wr : World) : Prop :=
  L.length = acc.length ∧ wr.heap[b]? = some (.cells #[.slice ra acc.length k] 141) ∧ OwnOs X (b + 1) wr (.slice ra L.length k) L ∧ NumsM (fun p => p ≠ b ∧ some p ≠ rowC w b) wr (.slice a l.length c) l ∧ Below b w wr ∧ FrC b w wr
theorem SndP.drew {X : Nat → Prop} {w wr : World} {b c k : Nat} {acc L : List Opr} {l : List Nat} {a ra : Option Addr} (h : SndP X w b acc l a ra c k L wr) : SndP X w b acc l a ra c k L wr.drew := by
  obtain ⟨g0, g1, g2, g3, g4, g5⟩ := h
  have hb : Below wr.heap.size wr wr.drew := (Below.refl _ _).drew
  exact ⟨g0, gm_low hb g1, OwnRow.next' (firm_opX X) g2 hb, RowM.imp g3 (fun _ h => h) (Keeps.of_below hb) (fun _ _ h => h), g4.drew, g5.trans (FrC.below (Array.getElem?_eq_some_iff.1 g1).1 hb)⟩
set_option maxHeartbeats 1000000 in
set_option maxRecDepth 100000 in
theorem sends_any (X : Nat → Prop) (b : Nat) (acc : List Opr) (l : List Nat) (a : Option Addr) (c : Nat) (w : World) (h : WrC X w b acc) (hl : acc.length ≤ 1000) (hn : l.length ≤ 1000) (hp : ∀ p ∈ l, p < acc.length) (hL : NumsM (fun p => p ≠ b ∧ some p ≠ rowC w b) w (.slice a l.length c) l) :
    Calls Tryz.prog 142 #[.pointer (some ⟨b, 0, none⟩), .slice a l.length c] w (WrR X w b (l.foldl (sendO acc.length) acc)) := by
  obtain ⟨ra, k, h1, h2⟩ := h
  have HP := hid hp
  have HS := hid (show SndP X w b acc l a ra c k acc w from ⟨rfl, h1, h2, hL, Below.refl _ _, FrC.below (Array.getElem?_eq_some_iff.1 h1).1 (Below.refl _ _)⟩)
  have HR := hid (rowC_one h1)
  clear h1 h2 hL hp
  go_enter Tryz.func142, Tryz.ntmps142
  go_wp2
  go_loopw [8] (fun i wr => ∃ m : Nat, m ≤ l.length ∧ i = .int .i64 m ∧ Hid (SndP X w b acc l a ra c k ((l.take m).foldl (sendO acc.length) acc) wr)) (fun i _ => l.length - (intOf i).toNat)
  case atStart => exact ⟨0, Nat.zero_le _, rfl, HS⟩
  case round =>
    obtain ⟨m, hm, rfl, HI⟩ := hrel
    by_cases hlt : m < l.length
    · have i1 : (m : Int) < (l.length : Int) := by omega
      have i3 : (0 : Int) ≤ (m : Int) := by omega
      obtain ⟨p, hpm⟩ : ∃ p, l[m]? = some p := ⟨_, List.getElem?_eq_getElem hlt⟩
      obtain ⟨L, hLe⟩ : ∃ L, L = (l.take m).foldl (sendO acc.length) acc := ⟨_, rfl⟩
      have HLE := hid (show sendO acc.length L p = (l.take (m + 1)).foldl (sendO acc.length) acc by rw [hLe, List.take_add_one, hpm, List.foldl_append]; rfl)
      rw [← hLe] at HI
      obtain ⟨g0, g1, g2, g3, g4, g5⟩ := HI.out
      have hpl : p < acc.length := HP.out p (List.mem_of_getElem? hpm)
      obtain ⟨g, rfl⟩ := OwnOs.addr g2 (by omega)
      obtain ⟨⟨v0, x1⟩, x2, x3, x4⟩ := own_cell g2 (p := p) (by omega)
      obtain ⟨b', o', rfl, y1, y2, y3⟩ := num_at g3 hpm
      obtain ⟨q0, f0⟩ := box1 g1
      have hgb : g ≠ b := by omega
      have q0' : ∀ u, (wr.setCell ⟨g, p * 22 + 1, none⟩ u).cell? ⟨b, 0, none⟩ = some (.slice (some ⟨g, 0, none⟩) acc.length k) := fun u => cell_far' q0 (fun e => hgb e.symm)
      have i5 : (p : Int) < (acc.length : Int) := by omega
      have i6 : (0 : Int) ≤ (p : Int) := by omega
      have HN := hid (show SndP X w b acc l (some ⟨b', o', none⟩) (some ⟨g, 0, none⟩) c k (sendO acc.length L p) (wr.setCell ⟨g, p * 22 + 1, none⟩ (.int .i64 (acc.length : Int))) from by
        have hrow : rowC w b = some g := HR.out
        refine ⟨by simp [sendO, g0], ?_, ?_, ?_, ?_, ?_⟩
        · rw [Below.heap_setCell _ _ _ _ (fun e => hgb e.symm)]; exact g1
        · have := OwnOs.send (N := acc.length) g2 (p := p) (by omega)
          rw [show (sendO acc.length L p).length = L.length by simp [sendO]]
          exact this
        · exact RowM.imp g3 (fun _ h => h) (Keeps.set wr _ (fun q hq e => hq.2 (by rw [hrow, e]))) fun _ _ h => h
        · exact g4.setCell (show b ≤ g by omega) _
        · refine g5.trans ⟨by simp [World.setCell], fun q hq hn hr => Below.heap_setCell _ _ _ _ (fun e => hr (by rw [rowC_one g1, e]; rfl)), .inl ?_⟩
          rw [rowC_one g1, rowC_one (show (wr.setCell ⟨g, p * 22 + 1, none⟩ (.int .i64 (acc.length : Int))).heap[b]? = _ from by rw [Below.heap_setCell _ _ _ _ (fun e => hgb e.symm)]; exact g1)])
      clear g0 g1 g2 g3 g4 g5 hLe hpm HI y1 y2
      go_wp2
      go_region_law (fail)
      all_goals
        go_wp2
        go_roundw
        case rel => exact ⟨m + 1, by omega, by go_num, by rw [← HLE.out]; exact hid HN.out.drew⟩
        case measure => simp [intOf]; omega
    · have i1 : ¬ (m : Int) < (l.length : Int) := by omega
      obtain rfl : m = l.length := by omega
      have HE := hid (show WrR X w b (l.foldl (sendO acc.length) acc) (.returned (.tuple #[])) wr by
        obtain ⟨g0, g1, g2, g3, g4, g5⟩ := HI.out
        rw [List.take_length] at g0 g2
        exact ⟨⟨_, rfl⟩, ⟨ra, k, by rw [g0]; exact g1, g2⟩, g4, g5⟩)
      go_wp2
      go_end0
      exact HE.out
end Go.Proofs.YtlcnfpeabnnjoaaGreatDoor
