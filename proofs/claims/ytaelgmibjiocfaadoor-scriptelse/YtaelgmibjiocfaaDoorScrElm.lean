/-
  The law's script of an If alone in an Else, in memory.
-/
import Derived.Test.YtaelgmibjiocfaaDoorScrEls
import Derived.Test.YtaelgmibjiocfaaDoorScrCk
import Derived.Test.YtaelgmibjiocfaaDoorRowGw
import Derived.Test.YtaelgmibjiocfaaDoorMkTest
namespace Go.Proofs.YtaelgmibjiocfaaDoor
open Go.RowKit Go.Proofs

def zeroC : Array Value := #[.int .i64 0, .slice none 0 0, .int .i64 0, .int .i64 0, .int .i64 0, .slice none 0 0, .slice none 0 0, .bool false, .int .i64 0, .slice none 0 0, .slice none 0 0, .slice none 0 0]
theorem zero_str (j : Nat) (s : ByteArray) : zeroC[j]? ≠ some (.string s) := by
  by_cases h : j < 12
  · obtain rfl | rfl | rfl | rfl | rfl | rfl | rfl | rfl | rfl | rfl | rfl | rfl : j = 0 ∨ j = 1 ∨ j = 2 ∨ j = 3 ∨ j = 4 ∨ j = 5 ∨ j = 6 ∨ j = 7 ∨ j = 8 ∨ j = 9 ∨ j = 10 ∨ j = 11 := by omega
    all_goals simp [zeroC]
  · rw [Array.getElem?_eq_none (by simp [zeroC]; omega)]; simp
theorem txt_apart {w : World} {b : Nat} {ty : TypeId} {fr : Nat × Nat} {v : Value} {l : List (List UInt8)} (hb : w.heap[b]? = some (.cells zeroC ty fr)) (h : TxtsM anyB w v l) : TxtsM (fun p => p ≠ b) w v l := by
  obtain ⟨a, c, hv, hm, hr⟩ := h
  refine ⟨a, c, hv, hm, fun i y hy => ?_⟩
  obtain ⟨p, o, cs, h1, h2, _, h4, h5, h6⟩ := hr i y hy
  refine ⟨p, o, cs, h1, h2, fun hpb => ?_, h4, h5, h6⟩
  have h7 := h5 0 (.string (S y)) (by rw [show cs = _ from h6]; rfl)
  rw [hpb] at h7
  simp only [World.cell?, hb] at h7
  exact zero_str _ _ (by simpa using h7)
theorem tst_leaf {Q : Nat → Prop} {w : World} {t : Tst} {cs : List Value} (h : TstM Q 1 w t cs) : t.tests = [] := by
  obtain ⟨an, cn, ak, ck, at', ct, m, hm, _, _, _, a, c, _, _, hr⟩ := tst_form h
  obtain rfl : m = 0 := by omega
  cases ht : t.tests with
  | nil => rfl
  | cons y r =>
    rw [ht] at hr
    obtain ⟨_, _, _, _, _, _, _, _, hP⟩ := hr 0 y rfl
    exact hP.elim
theorem tst_apart {w : World} {b : Nat} {ty : TypeId} {fr : Nat × Nat} {t : Tst} {cs : List Value} (hb : w.heap[b]? = some (.cells zeroC ty fr)) (h : TstM anyB 1 w t cs) : TstM (fun p => p ≠ b) 1 w t cs := by
  have hl := tst_leaf h
  obtain ⟨vn, vk, vt, hcs, hN, hK, a, c, hv, hm, _⟩ := h
  exact ⟨vn, vk, vt, hcs, txt_apart hb hN, txt_apart hb hK, a, c, hv, hm, fun i y hy => by rw [hl] at hy; cases hy⟩
theorem els_other {b k : Nat} (hn : k ≠ b) : ∀ (vs : List Value) (o : Nat) (w : World), (setAll w b o vs).heap[k]? = w.heap[k]? := by
  intro vs
  induction vs with
  | nil => intro o w; rfl
  | cons v vs ih => intro o w; exact (ih _ _).trans (Below.heap_setCell _ _ _ _ hn)
/-- The script's box, and the row of its Else. -/
def ElsB (W : World) (p : Value) (wx : World) : Prop := ∃ (P q : Nat) (t u : Tst) (an ak at' bn bk bt : Option Addr) (cn ck ct dn dk dt : Nat), p = .pointer (some ⟨P, 0, none⟩) ∧ W.heap.size ≤ P ∧ W.heap.size ≤ q ∧ q ≠ P ∧ wx.heap[P]? = some (.cells #[.int .i64 2, .slice none 0 0, .int .i64 t.kind, .int .i64 t.mat, .int .i64 t.part, .slice an t.names.length cn, .slice ak t.keys.length ck, .bool t.over, .int .i64 t.limit, .slice at' t.tests.length ct, .slice none 0 0, .slice (some ⟨q, 0, none⟩) 1 1] 32) ∧ wx.heap[q]? = some (.cells #[.int .i64 2, .slice none 0 0, .int .i64 u.kind, .int .i64 u.mat, .int .i64 u.part, .slice bn u.names.length dn, .slice bk u.keys.length dk, .bool u.over, .int .i64 u.limit, .slice bt u.tests.length dt, .slice none 0 0, .slice none 0 0] 32) ∧ TstM (fun b => b ≠ P) 1 wx t [.int .i64 t.kind, .int .i64 t.mat, .int .i64 t.part, .slice an t.names.length cn, .slice ak t.keys.length ck, .bool t.over, .int .i64 t.limit, .slice at' t.tests.length ct] ∧ TstM (fun b => b ≠ P) 1 wx u [.int .i64 u.kind, .int .i64 u.mat, .int .i64 u.part, .slice bn u.names.length dn, .slice bk u.keys.length dk, .bool u.over, .int .i64 u.limit, .slice bt u.tests.length dt] ∧ (NT t ∧ NT u) ∧ Below W.heap.size W wx
theorem ElsB.old {W w4 : World} {P q : Nat} {t u : Tst} {an ak at' bn bk bt : Option Addr} {cn ck ct dn dk dt : Nat} (hP : W.heap.size ≤ P) (hqW : W.heap.size ≤ q) (hqP : q ≠ P) (hb : w4.heap[P]? = some (.cells #[.int .i64 0, .slice none 0 0, .int .i64 0, .int .i64 0, .int .i64 0, .slice none 0 0, .slice none 0 0, .bool false, .int .i64 0, .slice none 0 0, .slice none 0 0, .slice none 0 0] 32)) (hq : w4.heap[q]? = some (.cells #[.int .i64 2, .slice none 0 0, .int .i64 u.kind, .int .i64 u.mat, .int .i64 u.part, .slice bn u.names.length dn, .slice bk u.keys.length dk, .bool u.over, .int .i64 u.limit, .slice bt u.tests.length dt, .slice none 0 0, .slice none 0 0] 32)) (hT : TstM anyB 1 w4 t [.int .i64 t.kind, .int .i64 t.mat, .int .i64 t.part, .slice an t.names.length cn, .slice ak t.keys.length ck, .bool t.over, .int .i64 t.limit, .slice at' t.tests.length ct]) (hU : TstM anyB 1 w4 u [.int .i64 u.kind, .int .i64 u.mat, .int .i64 u.part, .slice bn u.names.length dn, .slice bk u.keys.length dk, .bool u.over, .int .i64 u.limit, .slice bt u.tests.length dt]) (hN : NT t ∧ NT u) (hB : Below W.heap.size W w4) :
    ElsB W (.pointer (some ⟨P, 0, none⟩)) (setAll w4 P 0 [.int .i64 2, .slice none 0 0, .int .i64 t.kind, .int .i64 t.mat, .int .i64 t.part, .slice an t.names.length cn, .slice ak t.keys.length ck, .bool t.over, .int .i64 t.limit, .slice at' t.tests.length ct, .slice none 0 0, .slice (some ⟨q, 0, none⟩) 1 1]) :=
  by
  have hh : (setAll w4 P 0 [.int .i64 2, .slice none 0 0, .int .i64 t.kind, .int .i64 t.mat, .int .i64 t.part, .slice an t.names.length cn, .slice ak t.keys.length ck, .bool t.over, .int .i64 t.limit, .slice at' t.tests.length ct, .slice none 0 0, .slice (some ⟨q, 0, none⟩) 1 1]).heap[P]? = some (.cells #[.int .i64 2, .slice none 0 0, .int .i64 t.kind, .int .i64 t.mat, .int .i64 t.part, .slice an t.names.length cn, .slice ak t.keys.length ck, .bool t.over, .int .i64 t.limit, .slice at' t.tests.length ct, .slice none 0 0, .slice (some ⟨q, 0, none⟩) 1 1] 32) := by
    rw [setAll_heap _ 0 w4 _ hb]
    simp [putAll]
  have hk := setAll_keeps (Q := fun b => b ≠ P) (b := P) (fun _ h => h) [.int .i64 2, .slice none 0 0, .int .i64 t.kind, .int .i64 t.mat, .int .i64 t.part, .slice an t.names.length cn, .slice ak t.keys.length ck, .bool t.over, .int .i64 t.limit, .slice at' t.tests.length ct, .slice none 0 0, .slice (some ⟨q, 0, none⟩) 1 1] 0 w4 w4 (Keeps.refl _ _)
  exact ⟨P, q, t, u, an, ak, at', bn, bk, bt, cn, ck, ct, dn, dk, dt, rfl, hP, hqW, hqP, hh, (els_other hqP _ _ _).trans hq, TstM.imp (fun _ h => h) hk _ _ _ (tst_apart hb hT), TstM.imp (fun _ h => h) hk _ _ _ (tst_apart hb hU), hN, setAll_below hP _ 0 w4 W hB⟩
theorem ElsB.new {W w4 : World} {q : Nat} {t u : Tst} {an ak at' bn bk bt : Option Addr} {cn ck ct dn dk dt : Nat} (hqW : W.heap.size ≤ q) (hq : w4.heap[q]? = some (.cells #[.int .i64 2, .slice none 0 0, .int .i64 u.kind, .int .i64 u.mat, .int .i64 u.part, .slice bn u.names.length dn, .slice bk u.keys.length dk, .bool u.over, .int .i64 u.limit, .slice bt u.tests.length dt, .slice none 0 0, .slice none 0 0] 32)) (hT : TstM anyB 1 w4 t [.int .i64 t.kind, .int .i64 t.mat, .int .i64 t.part, .slice an t.names.length cn, .slice ak t.keys.length ck, .bool t.over, .int .i64 t.limit, .slice at' t.tests.length ct]) (hU : TstM anyB 1 w4 u [.int .i64 u.kind, .int .i64 u.mat, .int .i64 u.part, .slice bn u.names.length dn, .slice bk u.keys.length dk, .bool u.over, .int .i64 u.limit, .slice bt u.tests.length dt]) (hN : NT t ∧ NT u) (hB : Below W.heap.size W w4) :
    ElsB W (.pointer (some ⟨w4.heap.size, 0, none⟩)) (w4.alloc (.cells #[.int .i64 2, .slice none 0 0, .int .i64 t.kind, .int .i64 t.mat, .int .i64 t.part, .slice an t.names.length cn, .slice ak t.keys.length ck, .bool t.over, .int .i64 t.limit, .slice at' t.tests.length ct, .slice none 0 0, .slice (some ⟨q, 0, none⟩) 1 1] 32)) := by
  have hn : Below w4.heap.size w4 (w4.alloc (.cells #[.int .i64 2, .slice none 0 0, .int .i64 t.kind, .int .i64 t.mat, .int .i64 t.part, .slice an t.names.length cn, .slice ak t.keys.length ck, .bool t.over, .int .i64 t.limit, .slice at' t.tests.length ct, .slice none 0 0, .slice (some ⟨q, 0, none⟩) 1 1] 32)) := (Below.refl _ _).alloc (Nat.le_refl _) _
  have hql := (Array.getElem?_eq_some_iff.1 hq).1
  have ap : ∀ {x : Tst} {cs : List Value}, TstM anyB 1 w4 x cs → TstM (fun b => b ≠ w4.heap.size) 1 (w4.alloc (.cells #[.int .i64 2, .slice none 0 0, .int .i64 t.kind, .int .i64 t.mat, .int .i64 t.part, .slice an t.names.length cn, .slice ak t.keys.length ck, .bool t.over, .int .i64 t.limit, .slice at' t.tests.length ct, .slice none 0 0, .slice (some ⟨q, 0, none⟩) 1 1] 32)) x cs := fun h => TstM.imp (fun b hb => by have h2 : b < w4.heap.size := hb.2; show b ≠ w4.heap.size; omega) (Keeps.of_below hn) _ _ _ (TstM.both _ _ _ h)
  exact ⟨w4.heap.size, q, t, u, an, ak, at', bn, bk, bt, cn, ck, ct, dn, dk, dt, rfl, hB.size, hqW, by omega, heap_at _ rfl, heap_old _ hq, ap hT, ap hU, hN, hB.alloc hB.size _⟩
theorem els_in {Q : Nat → Prop} {w : World} {u : Tst} {bn bk bt : Option Addr} {dn dk dt : Nat} (hU : TstM Q 1 w u [.int .i64 u.kind, .int .i64 u.mat, .int .i64 u.part, .slice bn u.names.length dn, .slice bk u.keys.length dk, .bool u.over, .int .i64 u.limit, .slice bt u.tests.length dt]) : CmdM Q 2 w ⟨2, [], u, [], []⟩ [.int .i64 2, .slice none 0 0, .int .i64 u.kind, .int .i64 u.mat, .int .i64 u.part, .slice bn u.names.length dn, .slice bk u.keys.length dk, .bool u.over, .int .i64 u.limit, .slice bt u.tests.length dt, .slice none 0 0, .slice none 0 0] :=
  ⟨_, _, _, _, _, _, rfl, rowM_nil _ _ _ _ _ _, hU, rowM_nil _ _ _ _ _ _, rowM_nil _ _ _ _ _ _⟩
theorem els_cmd {w : World} {q : Nat} {t u : Tst} {an ak at' bn bk bt : Option Addr} {cn ck ct dn dk dt : Nat} (hq : w.heap[q]? = some (.cells #[.int .i64 2, .slice none 0 0, .int .i64 u.kind, .int .i64 u.mat, .int .i64 u.part, .slice bn u.names.length dn, .slice bk u.keys.length dk, .bool u.over, .int .i64 u.limit, .slice bt u.tests.length dt, .slice none 0 0, .slice none 0 0] 32)) (hT : TstM anyB 1 w t [.int .i64 t.kind, .int .i64 t.mat, .int .i64 t.part, .slice an t.names.length cn, .slice ak t.keys.length ck, .bool t.over, .int .i64 t.limit, .slice at' t.tests.length ct]) (hU : TstM anyB 1 w u [.int .i64 u.kind, .int .i64 u.mat, .int .i64 u.part, .slice bn u.names.length dn, .slice bk u.keys.length dk, .bool u.over, .int .i64 u.limit, .slice bt u.tests.length dt]) : CmdM anyB 3 w (elsC t u) [.int .i64 2, .slice none 0 0, .int .i64 t.kind, .int .i64 t.mat, .int .i64 t.part, .slice an t.names.length cn, .slice ak t.keys.length ck, .bool t.over, .int .i64 t.limit, .slice at' t.tests.length ct, .slice none 0 0, .slice (some ⟨q, 0, none⟩) 1 1] :=
  ⟨_, _, _, _, _, _, rfl, rowM_nil _ _ _ _ _ _, TstM.more 1 2 _ _ (by omega) hT, rowM_nil _ _ _ _ _ _, rowM_one (cs := [.int .i64 2, .slice none 0 0, .int .i64 u.kind, .int .i64 u.mat, .int .i64 u.part, .slice bn u.names.length dn, .slice bk u.keys.length dk, .bool u.over, .int .i64 u.limit, .slice bt u.tests.length dt, .slice none 0 0, .slice none 0 0]) hq rfl trivial (els_in hU)⟩
theorem els_cmdD {w : World} {a : Option Addr} {c : Nat} {t u : Tst} {an ak at' : Option Addr} {cn ck ct : Nat} (hT : TstM anyB 1 w t [.int .i64 t.kind, .int .i64 t.mat, .int .i64 t.part, .slice an t.names.length cn, .slice ak t.keys.length ck, .bool t.over, .int .i64 t.limit, .slice at' t.tests.length ct]) (hR : CmdsM anyB 2 w (.slice a 2 c) [⟨3, [], noneT, [], []⟩, ⟨2, [], u, [], []⟩]) : CmdM anyB 3 w (elsD t u) [.int .i64 2, .slice none 0 0, .int .i64 t.kind, .int .i64 t.mat, .int .i64 t.part, .slice an t.names.length cn, .slice ak t.keys.length ck, .bool t.over, .int .i64 t.limit, .slice at' t.tests.length ct, .slice none 0 0, .slice a 2 c] :=
  ⟨_, _, _, _, _, _, rfl, rowM_nil _ _ _ _ _ _, TstM.more 1 2 _ _ (by omega) hT, rowM_nil _ _ _ _ _ _, hR⟩
theorem els_box {w : World} {b : Nat} {v0 v1 v2 v3 v4 v5 v6 v7 v8 v9 v10 v11 : Value} {t : TypeId} {fr : Nat × Nat} (h : w.heap[b]? = some (.cells #[v0, v1, v2, v3, v4, v5, v6, v7, v8, v9, v10, v11] t fr)) :
    w.cell? ⟨b, 0, none⟩ = some v0 ∧ w.cell? ⟨b, 1, none⟩ = some v1 ∧ w.cell? ⟨b, 2, none⟩ = some v2 ∧ w.cell? ⟨b, 3, none⟩ = some v3 ∧ w.cell? ⟨b, 4, none⟩ = some v4 ∧ w.cell? ⟨b, 5, none⟩ = some v5 ∧ w.cell? ⟨b, 6, none⟩ = some v6 ∧ w.cell? ⟨b, 7, none⟩ = some v7 ∧ w.cell? ⟨b, 8, none⟩ = some v8 ∧ w.cell? ⟨b, 9, none⟩ = some v9 ∧ w.cell? ⟨b, 10, none⟩ = some v10 ∧ w.cell? ⟨b, 11, none⟩ = some v11 := by
  refine ⟨?_, ?_, ?_, ?_, ?_, ?_, ?_, ?_, ?_, ?_, ?_, ?_⟩ <;> simp [World.cell?, h]
theorem txt_far {w : World} {b : Nat} {cs0 : Array Value} {ty : TypeId} {fr : Nat × Nat} {v : Value} {l : List (List UInt8)} (hno : ∀ (j : Nat) s, cs0[j]? ≠ some (.string s)) (hb : w.heap[b]? = some (.cells cs0 ty fr)) (h : TxtsM anyB w v l) : TxtsM (fun p => p ≠ b) w v l := by
  obtain ⟨a, c, hv, hm, hr⟩ := h
  refine ⟨a, c, hv, hm, fun i y hy => ?_⟩
  obtain ⟨p, o, cs, h1, h2, _, h4, h5, h6⟩ := hr i y hy
  refine ⟨p, o, cs, h1, h2, fun hpb => ?_, h4, h5, h6⟩
  have h7 := h5 0 (.string (S y)) (by rw [show cs = _ from h6]; rfl)
  rw [hpb] at h7
  simp only [World.cell?, hb] at h7
  exact hno _ _ (by simpa using h7)
theorem tst_far {w : World} {b : Nat} {cs0 : Array Value} {ty : TypeId} {fr : Nat × Nat} {t : Tst} {cs : List Value} (hno : ∀ (j : Nat) s, cs0[j]? ≠ some (.string s)) (hb : w.heap[b]? = some (.cells cs0 ty fr)) (h : TstM anyB 1 w t cs) : TstM (fun p => p ≠ b) 1 w t cs := by
  have hl := tst_leaf h
  obtain ⟨vn, vk, vt, hcs, hN, hK, a, c, hv, hm, _⟩ := h
  exact ⟨vn, vk, vt, hcs, txt_far hno hb hN, txt_far hno hb hK, a, c, hv, hm, fun i y hy => by rw [hl] at hy; cases hy⟩
theorem row_none {A : Type} {Q Q' : Nat → Prop} {k : Nat} {P P' : A → List Value → Prop} {w : World} {v : Value} {l : List A} (hl : l = []) (h : RowM Q k P w v l) : RowM Q' k P' w v l := by
  obtain ⟨a, c, hv, hm, _⟩ := h
  exact ⟨a, c, hv, hm, fun i y hy => by rw [hl] at hy; cases hy⟩
theorem cmd_far {w : World} {b : Nat} {cs0 : Array Value} {ty : TypeId} {fr : Nat × Nat} {x : Cmd} {cs : List Value} (hno : ∀ (j : Nat) s, cs0[j]? ≠ some (.string s)) (hb : w.heap[b]? = some (.cells cs0 ty fr)) (e1 : x.texts = []) (e2 : x.thn = []) (e3 : x.els = []) (h : CmdM anyB 2 w x cs) : CmdM (fun p => p ≠ b) 2 w x cs := by
  obtain ⟨vx, vn, vk, vt, va, ve, h0, h1, h2, h3, h4⟩ := h
  exact ⟨vx, vn, vk, vt, va, ve, h0, row_none e1 h1, tst_far hno hb h2, row_none e2 h3, row_none e3 h4⟩
theorem row_far {w : World} {b g : Nat} {cs0 : Array Value} {ty : TypeId} {fr : Nat × Nat} {n c : Nat} {l : List Cmd} (hno : ∀ (j : Nat) s, cs0[j]? ≠ some (.string s)) (hb : w.heap[b]? = some (.cells cs0 ty fr)) (hg : g ≠ b) (hx : ∀ x ∈ l, x.texts = [] ∧ x.thn = [] ∧ x.els = []) (h : CmdsM anyB 2 w (.slice (some ⟨g, 0, none⟩) n c) l) : CmdsM (fun p => p ≠ b) 2 w (.slice (some ⟨g, 0, none⟩) n c) l := by
  obtain ⟨a, k, hv, hm, hr⟩ := h
  refine ⟨a, k, hv, hm, fun i y hy => ?_⟩
  obtain ⟨p, o, cs, h1, h2, _, h4, h5, h6⟩ := hr i y hy
  obtain ⟨e1, e2, e3⟩ := hx y (List.mem_of_getElem? hy)
  simp only [Value.slice.injEq] at hv
  have hp : p = g := by rw [← hv.1] at h1; simp at h1; exact h1.1.symm
  exact ⟨p, o, cs, h1, h2, by rw [hp]; exact hg, h4, h5, cmd_far hno hb e1 e2 e3 h6⟩
theorem no_str {v0 v1 v2 v3 v4 v5 v6 v7 v8 v9 v10 v11 : Value} (h : ∀ v ∈ [v0, v1, v2, v3, v4, v5, v6, v7, v8, v9, v10, v11], ∀ s, v ≠ .string s) (j : Nat) (s : ByteArray) : #[v0, v1, v2, v3, v4, v5, v6, v7, v8, v9, v10, v11][j]? ≠ some (.string s) := fun e => by
  have : (.string s : Value) ∈ [v0, v1, v2, v3, v4, v5, v6, v7, v8, v9, v10, v11] := List.mem_of_getElem? (i := j) (by simpa using e)
  exact h _ this s rfl
end Go.Proofs.YtaelgmibjiocfaaDoor
