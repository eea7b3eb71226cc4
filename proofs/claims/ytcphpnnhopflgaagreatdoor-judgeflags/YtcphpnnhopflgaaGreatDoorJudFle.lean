/-
  Scripts of flag commands put together: rows of commands, and a course in a box.
-/
import Derived.Test.YtcphpnnhopflgaaGreatDoorJudFlm
namespace Go.Proofs.YtcphpnnhopflgaaGreatDoor
open Go.RowKit Go.Proofs

/-- append of a row of commands, in a region that draws. -/
theorem step_cmds {ops : Array Oper} {o : Oper} {a : Act} {K : Act → World → Prop} {Q : Exit → Act → World → Prop} {E : Prop} {w : World} (hgd : o.guard = none) (s x : Operand)
    (ho : o.op = .call { callee := .builtin .append, args := #[s, x], argTypes := #[38, 38] })
    (n m : Nat) (v : Value) (acc L : List Cmd) (b2 o2 c2 : Nat) (hs : a.eval s = v) (hx : a.eval x = .slice (some ⟨b2, o2, none⟩) m c2) (hm : m = L.length) (hn : n = acc.length + L.length)
    (hO : OwnCs 0 3 w v acc) (Q2 : Nat → Prop) (hL : CmdsM Q2 3 w (.slice (some ⟨b2, o2, none⟩) m c2) L) (hq : ∀ b, Q2 b → some b ≠ v.ownBlock) (hpos : 0 < L.length) (h63 : n ≤ 1000)
    (h : ∀ g cap w', OwnCs 0 3 w' (.slice (some ⟨g, 0, none⟩) n cap) (acc ++ L) → n ≤ cap → w.grownBy w' v.ownBlock → (v.ownBlock = some g ∨ g = w.heap.size) → g < w'.heap.size → K (a.put o.dst (.slice (some ⟨g, 0, none⟩) n cap)) w') :
    if Region.wanted o (yielded ops a.tmps) = true then Oper.wp Tryz.prog o a w K Q else E := by
  subst hn hm
  obtain ⟨i0, hi, hz0, hz1, hz2⟩ := info_parts infoCmd
  obtain ⟨css, h1, h2, h3, h4⟩ := hO
  obtain ⟨dss, n1, n2, n3, n4⟩ := row_cells (RowM.both hL (CmdM.both 3)) L.length (Nat.le_refl _)
  have hone : ∀ u ∈ dss.flatten, u.oneCell' = true := fun u hu => by
    obtain ⟨cs, hcs, hu2⟩ := List.mem_flatten.1 hu
    obtain ⟨q, hq, hqe⟩ := List.getElem_of_mem hcs
    have hq2 : dss[q]? = some cs := by rw [List.getElem?_eq_getElem hq, hqe]
    exact cmd_one (n3 q _ cs (List.getElem?_eq_getElem (by omega)) hq2) u hu2
  refine step_append_lies w hgd s x 38 ho 0 40 i0 _ 12 192 Tryz.underlying38 hi hz0 hz1 hz2 rfl (by decide) v acc.length css.flatten hs h1 ⟨b2, o2, none⟩ L.length c2 dss.flatten hx (by rw [flat_cells n2, n1]) (fun j u hj => by rw [Addr.add_lit]; exact n4 j u hj) hone hpos (by unfold maxLen; omega) (by omega) (Nat.zero_le _) w.heap.size rfl ?_
  intro g cap w' hown hgrow hat hlt
  refine h g cap w' ?_ ?_ hgrow hat hlt
  · refine OwnRow.join (firm_cmd 3) (H := w.heap.size) h2 h3 h4 n1 n2 (fun i y cs hy hcs => CmdM.imp (fun b hb => ?_) (Keeps.refl _ _) _ _ _ (n3 i y cs hy hcs)) hown hgrow ?_ (Nat.le_refl _)
    · exact ⟨Nat.zero_le _, hb.2, hq b hb.1⟩
    · rcases hat with e | e
      · exact .inl e.symm
      · exact .inr (by rw [e]; rfl)
  · rcases hown.2 with ⟨e, _⟩ | ⟨_, _, _, e, _, _, e2, _⟩
    · cases e
    · simp only [Value.slice.injEq] at e; omega
theorem own_nilC (w : World) : OwnCs 0 3 w (.slice none 0 0) [] := ⟨[], World.ownsRow_nil _ _ _ _, rfl, (fun cs h => by cases h), fun i x cs h => by cases h⟩
theorem own_cmds {B : Nat} {w : World} {v : Value} {l : List Cmd} (h : OwnCs B 3 w v l) (hl : l.length ≤ 1000) : CmdsM anyB 3 w v l :=
  RowM.imp (OwnRow.rowM (firm_cmd 3) h (by unfold maxLen; omega)) (fun _ _ => trivial) (Keeps.refl _ _) fun _ _ h => CmdM.imp (fun _ _ => trivial) (Keeps.refl _ _) _ _ _ h
/-- Keep, and the flag Seen set, in a row of two. -/
theorem row_ks {Q : Nat → Prop} {w : World} {p b : Nat} {t : TypeId} (hp : w.heap[p]? = some (.cells #[.int .i64 3, .slice none 0 0, .int .i64 0, .int .i64 0, .int .i64 0, .slice none 0 0, .slice none 0 0, .bool false, .int .i64 0, .slice none 0 0, .slice none 0 0, .slice none 0 0, .int .i64 8, .slice (some ⟨b, 0, none⟩) 1 5, .int .i64 0, .int .i64 0, .int .i64 0, .slice none 0 0, .slice none 0 0, .bool false, .int .i64 0, .slice none 0 0, .slice none 0 0, .slice none 0 0] 40)) (hb : w.heap[b]? = some (.cells flgV t)) (hQ : Q p) (hQb : Q b) : CmdsM Q 3 w (.slice (some ⟨p, 0, none⟩) 2 2) [keepC, seenC] := by
  have hbl : b < w.heap.size := (Array.getElem?_eq_some_iff.1 hb).1
  refine rowM_duo (cs := [.int .i64 3, .slice none 0 0, .int .i64 0, .int .i64 0, .int .i64 0, .slice none 0 0, .slice none 0 0, .bool false, .int .i64 0, .slice none 0 0, .slice none 0 0, .slice none 0 0]) (ds := [.int .i64 8, .slice (some ⟨b, 0, none⟩) 1 5, .int .i64 0, .int .i64 0, .int .i64 0, .slice none 0 0, .slice none 0 0, .bool false, .int .i64 0, .slice none 0 0, .slice none 0 0, .slice none 0 0]) hp rfl rfl hQ ⟨_, _, _, _, _, _, rfl, rowM_nil _ _ _ _ _ _, none_tst _ _ _, rowM_nil _ _ _ _ _ _, rowM_nil _ _ _ _ _ _⟩ ⟨_, _, _, _, _, _, rfl, ?_, none_tst _ _ _, rowM_nil _ _ _ _ _ _, rowM_nil _ _ _ _ _ _⟩
  refine ⟨some ⟨b, 0, none⟩, 5, rfl, by unfold maxLen; simp [seenC], fun i y hy => ?_⟩
  have hi : i = 0 := by have := (List.getElem?_eq_some_iff.1 hy).1; simp [seenC] at this; omega
  subst hi
  cases hy
  refine ⟨b, 0, [.string (S (flgA.getD 0 []))], rfl, hbl, hQb, rfl, fun j u hj => ?_, rfl⟩
  have hj0 : j = 0 := by have := (List.getElem?_eq_some_iff.1 hj).1; simp at this; omega
  subst hj0
  cases hj
  exact flgV_at hb (by omega)
/- A course in a box. -/
theorem facts_apart {w : World} {b n k : Nat} {x : Option Addr} {f er : Int} {q : Bool} {t : TypeId} {fr : Nat × Nat} {v : Value} {l : List Atn} (hb : w.heap[b]? = some (.cells #[.slice x n k, .int .i64 f, .bool q, .int .i64 er] t fr)) (h : AtnsM anyB w v l) : AtnsM (fun p => p ≠ b) w v l := by
  obtain ⟨a, c, hv, hm, hr⟩ := h
  refine ⟨a, c, hv, hm, fun i y hy => ?_⟩
  obtain ⟨p, o, cs, h1, h2, _, h4, h5, h6⟩ := hr i y hy
  refine ⟨p, o, cs, h1, h2, fun hpb => ?_, h4, h5, h6⟩
  rw [hpb] at h5
  have h7 := h5 1 (.string (S y.text)) (by rw [show cs = _ from h6]; rfl)
  simp only [World.cell?, hb] at h7
  rw [List.getElem?_toArray] at h7
  have hj : ∀ j : Nat, ([.slice x n k, .int .i64 f, .bool q, .int .i64 er] : List Value)[j]? ≠ some (.string (S y.text)) := by
    intro j
    match j with
    | 0 | 1 | 2 | 3 => simp
    | j + 4 => simp
  exact hj _ h7
theorem fset4 {w : World} {b : Nat} {v0 v1 v2 v3 u0 u1 u2 u3 : Value} {t : TypeId} (h : w.heap[b]? = some (.cells #[v0, v1, v2, v3] t)) :
    ((((w.setCell ⟨b, 0, none⟩ u0).setCell ⟨b, 1, none⟩ u1).setCell ⟨b, 2, none⟩ u2).setCell ⟨b, 3, none⟩ u3).heap[b]? = some (.cells #[u0, u1, u2, u3] t) := by
  have h1 := heap_setCell_same w b 0 _ t u0 h
  have h2 := heap_setCell_same _ b 1 _ t u1 h1
  have h3 := heap_setCell_same _ b 2 _ t u2 h2
  have h4 := heap_setCell_same _ b 3 _ t u3 h3
  simpa using h4
theorem facts_set {w : World} {b : Nat} {u0 u1 u2 u3 v : Value} {l : List Atn} (h : AtnsM (fun p => p ≠ b) w v l) : AtnsM anyB ((((w.setCell ⟨b, 0, none⟩ u0).setCell ⟨b, 1, none⟩ u1).setCell ⟨b, 2, none⟩ u2).setCell ⟨b, 3, none⟩ u3) v l :=
  RowM.imp h (fun _ _ => trivial) ((((Keeps.set (p := ⟨b, 0, none⟩) w u0 (fun _ h => h)).trans (Keeps.set (p := ⟨b, 1, none⟩) _ u1 (fun _ h => h))).trans (Keeps.set (p := ⟨b, 2, none⟩) _ u2 (fun _ h => h))).trans (Keeps.set (p := ⟨b, 3, none⟩) _ u3 (fun _ h => h))) fun _ _ h => h
def FBox (W : World) (cc : Crs) (p e : Value) (wx : World) : Prop := ∃ (P : Nat) (a3 : Option Addr) (k3 : Nat), p = .pointer (some ⟨P, 0, none⟩) ∧ e = .int .i64 0 ∧ wx.heap[P]? = some (.cells #[.slice a3 cc.acts.length k3, .int .i64 cc.flags, .bool cc.asked, .int .i64 cc.fault] 46) ∧ AtnsM anyB wx (.slice a3 cc.acts.length k3) cc.acts ∧ Below W.heap.size W wx
theorem FBox.old {W w3 : World} {cc : Crs} {P : Nat} {a3 : Option Addr} {k3 : Nat} (hP : W.heap.size ≤ P) (hb : w3.heap[P]? = some (.cells #[.slice none 0 0, .int .i64 0, .bool false, .int .i64 0] 46)) (hA : AtnsM anyB w3 (.slice a3 cc.acts.length k3) cc.acts) (hB : Below W.heap.size W w3) :
    FBox W cc (.pointer (some ⟨P, 0, none⟩)) (.int .i64 0) ((((w3.setCell ⟨P, 0, none⟩ (.slice a3 cc.acts.length k3)).setCell ⟨P, 1, none⟩ (.int .i64 cc.flags)).setCell ⟨P, 2, none⟩ (.bool cc.asked)).setCell ⟨P, 3, none⟩ (.int .i64 cc.fault)) :=
  ⟨P, a3, k3, rfl, rfl, fset4 hb, facts_set (facts_apart hb hA), (((hB.setCell hP _).setCell hP _).setCell hP _).setCell hP _⟩
theorem FBox.new {W w3 : World} {cc : Crs} {a3 : Option Addr} {k3 : Nat} (hA : AtnsM anyB w3 (.slice a3 cc.acts.length k3) cc.acts) (hB : Below W.heap.size W w3) :
    FBox W cc (.pointer (some ⟨w3.heap.size, 0, none⟩)) (.int .i64 0) (w3.alloc (.cells #[.slice a3 cc.acts.length k3, .int .i64 cc.flags, .bool cc.asked, .int .i64 cc.fault] 46)) :=
  ⟨w3.heap.size, a3, k3, rfl, rfl, tl_at _ rfl, AtnsM.next hA ((Below.refl _ _).alloc (Nat.le_refl _) _), hB.alloc hB.size _⟩
theorem below_none {u w' : World} (h : u.grownBy w' (Value.slice none 0 0).ownBlock) : Below u.heap.size u w' := ⟨h.os, h.tape, h.output, h.size, fun k hk => h.block k hk fun e => by cases e⟩
theorem at_none {g H : Nat} (h : (Value.slice none 0 0).ownBlock = some g ∨ g = H) : g = H := by
  rcases h with e | e
  · cases e
  · exact e
theorem tl_drew {w : World} {b : Nat} {x : Option Obj} (h : w.heap[b]? = x) : w.drew.heap[b]? = x := h
theorem ftl_at1 {w : World} (p o : Obj) : ((w.alloc p).alloc o).heap[w.heap.size + 1]? = some o := tl_at _ (by simp)
theorem ftl_at2 {w : World} (p q o : Obj) : (((w.alloc p).alloc q).alloc o).heap[w.heap.size + 2]? = some o := tl_at _ (by simp)
theorem step_nil {ops : Array Oper} {o : Oper} {a : Act} {K : Act → World → Prop} {Q : Exit → Act → World → Prop} {E : Prop} {w : World} (hgd : o.guard = none) (s x : Operand)
    (ho : o.op = .call { callee := .builtin .append, args := #[s, x], argTypes := #[38, 38] })
    (n : Nat) (L : List Cmd) (b2 c2 : Nat) (hs : a.eval s = .slice none 0 0) (hx : a.eval x = .slice (some ⟨b2, 0, none⟩) n c2) (hm : n = L.length) (W : World)
    (hW : Below W.heap.size W w) (hL : CmdsM anyB 3 W (.slice (some ⟨b2, 0, none⟩) n c2) L) (hpos : 0 < L.length) (h63 : n ≤ 1000)
    (h : ∀ g cap w', OwnCs 0 3 w' (.slice (some ⟨g, 0, none⟩) n cap) L → Below w.heap.size w w' → Below W.heap.size W w' → g = w.heap.size → W.heap.size ≤ g → g < w'.heap.size → K (a.put o.dst (.slice (some ⟨g, 0, none⟩) n cap)) w') :
    if Region.wanted o (yielded ops a.tmps) = true then Oper.wp Tryz.prog o a w K Q else E := by
  refine step_cmds hgd s x ho n n (.slice none 0 0) [] L b2 0 c2 hs hx hm (by simpa using hm) (own_nilC _) anyB (CmdsM.next hL hW) (fun b _ e => by cases e) hpos h63 ?_
  intro g cap w' h1 h2 h3 h4 h5
  have hb := below_none h3
  exact h g cap w' h1 hb (hW.trans (hb.mono hW.size)) (at_none h4) (by rw [at_none h4]; exact hW.size) h5
theorem step_two {ops : Array Oper} {o : Oper} {a : Act} {K : Act → World → Prop} {Q : Exit → Act → World → Prop} {E : Prop} {w : World} (hgd : o.guard = none) (s x : Operand)
    (ho : o.op = .call { callee := .builtin .append, args := #[s, x], argTypes := #[38, 38] })
    (n : Nat) (L : List Cmd) (g1 cap1 p b : Nat) (t : TypeId) (hs : a.eval s = .slice (some ⟨g1, 0, none⟩) n cap1) (hx : a.eval x = .slice (some ⟨p, 0, none⟩) 2 2) (hm : n = L.length) (h63 : n ≤ 900) (W u : World)
    (hO : OwnCs 0 3 u (.slice (some ⟨g1, 0, none⟩) n cap1) L) (hW : Below W.heap.size W w) (hg1 : W.heap.size ≤ g1) (hb : W.heap[b]? = some (.cells flgV t)) (hu : Below u.heap.size u w)
    (hp : w.heap[p]? = some (.cells #[.int .i64 3, .slice none 0 0, .int .i64 0, .int .i64 0, .int .i64 0, .slice none 0 0, .slice none 0 0, .bool false, .int .i64 0, .slice none 0 0, .slice none 0 0, .slice none 0 0, .int .i64 8, .slice (some ⟨b, 0, none⟩) 1 5, .int .i64 0, .int .i64 0, .int .i64 0, .slice none 0 0, .slice none 0 0, .bool false, .int .i64 0, .slice none 0 0, .slice none 0 0, .slice none 0 0] 40) ∧ p ≠ g1)
    (h : ∀ g cap w', OwnCs 0 3 w' (.slice (some ⟨g, 0, none⟩) (n + 2) cap) (L ++ [keepC, seenC]) → n + 2 ≤ cap → Below W.heap.size W w' → w.grownBy w' (some g1) → K (a.put o.dst (.slice (some ⟨g, 0, none⟩) (n + 2) cap)) w') :
    if Region.wanted o (yielded ops a.tmps) = true then Oper.wp Tryz.prog o a w K Q else E := by
  have hbl : b < W.heap.size := (Array.getElem?_eq_some_iff.1 hb).1
  refine step_cmds hgd s x ho (n + 2) 2 (.slice (some ⟨g1, 0, none⟩) n cap1) L [keepC, seenC] p 0 2 hs hx rfl (by rw [hm]; rfl) (OwnRow.nextC hO hu) (fun b => b ≠ g1) (row_ks hp.1 (tl_low hW hb) hp.2 (show b ≠ g1 by omega)) (fun b hb e => hb (Option.some.inj e)) (by simp) (by omega) ?_
  intro g cap w' h1 h2 h3 _ _
  exact h g cap w' h1 h2 (hW.grown h3 hW.size fun q hq => by have h1 : g1 = q := Option.some.inj hq; omega) h3
theorem keepN {u w8 : World} {P g1 : Nat} {x : Obj} (hb : Below u.heap.size u w8) (hg : g1 = u.heap.size) (h : u.heap[P]? = some x) : w8.heap[P]? = some x ∧ P ≠ g1 := ⟨tl_low hb h, by have := (Array.getElem?_eq_some_iff.1 h).1; omega⟩
theorem keepG {u w9 : World} {P g1 : Nat} {x : Obj} (hb : u.grownBy w9 (some g1)) (h : u.heap[P]? = some x) (hP : P ≠ g1) : w9.heap[P]? = some x := grown_heap hb h fun e => hP (Option.some.inj e)
theorem ne_gt {g N P : Nat} (h : g < N) (hP : N ≤ P) : P ≠ g := by omega
end Go.Proofs.YtcphpnnhopflgaaGreatDoor
