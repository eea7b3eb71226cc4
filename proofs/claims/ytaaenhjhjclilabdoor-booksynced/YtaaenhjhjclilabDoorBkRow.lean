/-
  Rows of batches in memory: how they are read, and rows that a call has made. No function of the program is named here.
-/
import Derived.Test.YtaaenhjhjclilabDoorBkCk
import Derived.Test.YtaaenhjhjclilabDoorScrMem
namespace Go.Proofs.YtaaenhjhjclilabDoor
open Go.RowKit Go.Proofs

def btC (b : Bat) (v : Value) : List Value := [.int .i64 b.user, v]
def BatM (Q : Nat → Prop) (w : World) (b : Bat) (cs : List Value) : Prop := ∃ a c, cs = btC b (.slice a b.ents.length c) ∧ EntsM Q w (.slice a b.ents.length c) b.ents
def BatsM (Q : Nat → Prop) (w : World) (v : Value) (l : List Bat) : Prop := RowM Q 2 (BatM Q w) w v l
theorem BatM.imp {Q Q' : Nat → Prop} {w w' : World} {b : Bat} {cs : List Value} (h : BatM Q w b cs) (hq : ∀ b, Q b → Q' b) (hk : Keeps Q w w') : BatM Q' w' b cs := by
  obtain ⟨a, c, e, h⟩ := h; exact ⟨a, c, e, h.imp hq hk⟩
theorem BatsM.imp {Q Q' : Nat → Prop} {w w' : World} {v : Value} {l : List Bat} (h : BatsM Q w v l) (hq : ∀ b, Q b → Q' b) (hk : Keeps Q w w') : BatsM Q' w' v l := RowM.imp h hq hk fun _ _ h => h.imp hq hk
theorem BatsM.next {Q : Nat → Prop} {w w' : World} {v : Value} {l : List Bat} (h : BatsM Q w v l) (hb : Below w.heap.size w w') : BatsM Q w' v l := h.imp (fun _ h => h) (Keeps.of_below hb)
theorem BatsM.at {Q : Nat → Prop} {w : World} {a : Option Addr} {n c : Nat} {l : List Bat} (h : BatsM Q w (.slice a n c) l) {i : Nat} {x : Bat} (hx : l[i]? = some x) : ∃ b o ae ce, a = some ⟨b, o, none⟩ ∧ w.cell? ⟨b, o + i * 2, none⟩ = some (.int .i64 x.user) ∧ w.cell? ⟨b, o + i * 2 + 1, none⟩ = some (.slice ae x.ents.length ce) ∧ EntsM Q w (.slice ae x.ents.length ce) x.ents := by
  obtain ⟨a', c', hv, _, hr⟩ := h
  simp only [Value.slice.injEq] at hv
  obtain ⟨rfl, _, rfl⟩ := hv
  obtain ⟨b, o, cs, rfl, _, _, _, hc, ae, ce, hcs, hm⟩ := hr i x hx
  subst hcs
  exact ⟨b, o, ae, ce, rfl, by simpa using hc 0 _ rfl, hc 1 _ rfl, hm⟩
theorem BatsM.take {Q : Nat → Prop} {w : World} {a : Option Addr} {n c : Nat} {l : List Bat} (h : BatsM Q w (.slice a n c) l) {k : Nat} (hk : k ≤ l.length) (c' : Nat) : BatsM Q w (.slice a k c') (l.take k) := by
  obtain ⟨a', c'', hv, hm, hr⟩ := h
  simp only [Value.slice.injEq] at hv
  obtain ⟨rfl, _, rfl⟩ := hv
  have hl : (l.take k).length = k := by rw [List.length_take]; omega
  refine ⟨a, c', by rw [hl], by omega, fun i x hx => ?_⟩
  have hi : i < k := by have := (List.getElem?_eq_some_iff.1 hx).1; omega
  exact hr i x (by rw [List.getElem?_take_of_lt hi] at hx; exact hx)
theorem ents_both {Q : Nat → Prop} {w : World} {v : Value} {l : List Ent} (h : EntsM Q w v l) : EntsM (fun k => Q k ∧ k < w.heap.size) w v l := by
  obtain ⟨a, c, h1, h2, h3⟩ := h
  refine ⟨a, c, h1, h2, fun i x hx => ?_⟩
  obtain ⟨b, o, cs, e, hb, hq, h4, h5, h6⟩ := h3 i x hx
  exact ⟨b, o, cs, e, hb, ⟨hq, hb⟩, h4, h5, h6⟩
/- Rows of the call's own. -/
def btCs : List Bat → List Value → List (List Value)
  | b :: r, v :: vs => btC b v :: btCs r vs
  | _, _ => []
theorem btCs_len : ∀ (l : List Bat) (vs : List Value), vs.length = l.length → (btCs l vs).length = l.length := by
  intro l
  induction l with
  | nil => intro vs _; cases vs <;> rfl
  | cons b l ih =>
    intro vs h
    cases vs with
    | nil => simp at h
    | cons v vs => simp only [btCs, List.length_cons]; rw [ih vs (by simpa using h)]
theorem btCs_each : ∀ (l : List Bat) (vs : List Value), ∀ cs ∈ btCs l vs, cs.length = 2 := by
  intro l
  induction l with
  | nil => intro vs cs h; cases vs <;> cases h
  | cons b l ih =>
    intro vs cs h
    cases vs with
    | nil => cases h
    | cons v vs =>
      simp only [btCs, List.mem_cons] at h
      rcases h with rfl | h
      · rfl
      · exact ih vs cs h
theorem btCs_at : ∀ (l : List Bat) (vs : List Value) (i : Nat) (b : Bat) (v : Value), l[i]? = some b → vs[i]? = some v → (btCs l vs)[i]? = some (btC b v) := by
  intro l
  induction l with
  | nil => intro vs i b v h; simp at h
  | cons c l ih =>
    intro vs i b v h h'
    cases vs with
    | nil => simp at h'
    | cons u vs =>
      cases i with
      | zero => simp at h h'; subst h; subst h'; rfl
      | succ i => simp at h h'; simpa [btCs] using ih vs i b v h h'
theorem btCs_app : ∀ (l : List Bat) (vs : List Value) (b : Bat) (v : Value), vs.length = l.length → btCs (l ++ [b]) (vs ++ [v]) = btCs l vs ++ [btC b v] := by
  intro l
  induction l with
  | nil => intro vs b v h; cases vs with
    | nil => rfl
    | cons => simp at h
  | cons c l ih =>
    intro vs b v h
    cases vs with
    | nil => simp at h
    | cons u vs => simp only [List.cons_append, btCs]; rw [ih vs b v (by simpa using h)]
/-- Batches in a row of the call's own; their entries lie outside that row, where X says. -/
def OwnBs (B : Nat) (X : Nat → Prop) (w : World) (v : Value) (l : List Bat) : Prop := ∃ vs : List Value, vs.length = l.length ∧ w.ownsRow B 34 2 v l.length (btCs l vs).flatten ∧ ∀ (i : Nat) b u, l[i]? = some b → vs[i]? = some u → ∃ a c, u = .slice a b.ents.length c ∧ EntsM (fun k => some k ≠ v.ownBlock ∧ X k) w u b.ents
theorem OwnBs.nil (B : Nat) (X : Nat → Prop) (w : World) : OwnBs B X w (.slice none 0 0) [] := ⟨[], rfl, World.ownsRow_nil _ _ _ _, fun i b u h => by simp at h⟩
theorem OwnBs.keep {B : Nat} {X : Nat → Prop} {w w' : World} {v : Value} {l : List Bat} (h : OwnBs B X w v l) (hb : Below w.heap.size w w') : OwnBs B X w' v l := by
  obtain ⟨vs, h1, h2, h3⟩ := h
  refine ⟨vs, h1, bk_keep h2 fun g hg => hb.block g (World.ownsRow.lt h2 g hg).2, fun i b u hb' hu => ?_⟩
  obtain ⟨a, c, e, h⟩ := h3 i b u hb' hu
  exact ⟨a, c, e, h.next hb⟩
theorem OwnBs.but {B r : Nat} {X : Nat → Prop} {w w' : World} {v : Value} {l : List Bat} (h : OwnBs B X w v l) (hb : But r w w') (hr : r < B) (hX : ∀ k, X k → k ≠ r) : OwnBs B X w' v l := by
  obtain ⟨vs, h1, h2, h3⟩ := h
  refine ⟨vs, h1, own_but h2 hb hr, fun i b u hb' hu => ?_⟩
  obtain ⟨a, c, e, h⟩ := h3 i b u hb' hu
  exact ⟨a, c, e, h.imp (fun _ h => h) (Keeps.of_but hb fun k hk => hX k hk.2)⟩
theorem OwnBs.bats {B : Nat} {X : Nat → Prop} {w : World} {v : Value} {l : List Bat} (h : OwnBs B X w v l) (hm : l.length ≤ 1000000) : BatsM (fun _ => True) w v l := by
  obtain ⟨vs, h1, h2, h3⟩ := h
  refine own_row h2 rfl (by unfold maxLen; omega) (btCs_len _ _ h1) (btCs_each _ _) (fun i b cs hb hc => ?_) (fun _ _ => trivial)
  have hi : i < vs.length := by rw [h1]; exact (List.getElem?_eq_some_iff.1 hb).1
  have hv : vs[i]? = some vs[i] := List.getElem?_eq_getElem hi
  rw [btCs_at _ _ _ _ _ hb hv] at hc
  cases hc
  obtain ⟨a, c, e, h⟩ := h3 i b _ hb hv
  rw [e] at h ⊢
  exact ⟨a, c, rfl, h.imp (fun _ _ => trivial) (Keeps.refl _ _)⟩
theorem OwnBs.app {B n cap g : Nat} {X : Nat → Prop} {w w4 : World} {a9 : Option Addr} {c9 : Nat} {l : List Bat} {b : Bat} {vs : List Value} {ae : Option Addr} {ce : Nat} (h1 : vs.length = l.length) (hn : n = l.length)
    (h3 : ∀ (i : Nat) b u, l[i]? = some b → vs[i]? = some u → ∃ a c, u = .slice a b.ents.length c ∧ EntsM (fun k => some k ≠ (Value.slice a9 n c9).ownBlock ∧ X k) w u b.ents)
    (hown : w4.ownsRow B 34 2 (.slice (some ⟨g, 0, none⟩) (n + 1) cap) (n + 1) ((btCs l vs).flatten ++ [.int .i64 b.user, .slice ae b.ents.length ce])) (hgrow : w.grownBy w4 (Value.slice a9 n c9).ownBlock) (hat : (Value.slice a9 n c9).ownBlock = some g ∨ g = w.heap.size)
    (hE : EntsM (fun k => some k ≠ (Value.slice a9 n c9).ownBlock ∧ X k) w (.slice ae b.ents.length ce) b.ents) : OwnBs B X w4 (.slice (some ⟨g, 0, none⟩) (n + 1) cap) (l ++ [b]) := by
  subst hn
  have up : ∀ {u : Value} {x : List Ent}, EntsM (fun k => some k ≠ (Value.slice a9 l.length c9).ownBlock ∧ X k) w u x → EntsM (fun k => some k ≠ (Value.slice (some ⟨g, 0, none⟩) (l.length + 1) cap).ownBlock ∧ X k) w4 u x := fun h => (ents_both h).imp (fun k hk => ⟨fun e => by
      simp only [Value.ownBlock, Option.some.injEq] at e
      rcases hat with q | q
      · exact hk.1.1 (by rw [q, e])
      · have := hk.2; omega, hk.1.2⟩) ⟨hgrow.size, fun k hk hq => hgrow.block k hk hq.1.1⟩
  refine ⟨vs ++ [.slice ae b.ents.length ce], by simp [h1], ?_, fun i x u hx hu => ?_⟩
  · rw [btCs_app _ _ _ _ h1, List.flatten_append, List.length_append]
    exact hown
  · rcases Nat.lt_or_ge i l.length with hi | hi
    · rw [List.getElem?_append_left hi] at hx
      rw [List.getElem?_append_left (by omega)] at hu
      obtain ⟨a, c, e, h⟩ := h3 i x u hx hu
      exact ⟨a, c, e, up h⟩
    · rw [List.getElem?_append_right hi] at hx
      rw [List.getElem?_append_right (by omega)] at hu
      have e0 : i - l.length = 0 := by
        have := (List.getElem?_eq_some_iff.1 hx).1
        simp at this
        omega
      rw [h1, e0] at hu
      rw [e0] at hx
      cases hx
      cases hu
      exact ⟨ae, ce, rfl, up hE⟩
theorem infoBt : (Tryd.prog.info? 34).map (fun i => (i.zero, i.size, i.bytes)) = some (some (.agg #[.int .i64 0, .slice none 0 0]), 2, 32) := by kernel_rfl
theorem bk_two_new (w : World) (a b : Value) (t : TypeId) : ∀ j u, [a, b][j]? = some u → (w.alloc (.cells #[a, b] t)).cell? ((⟨w.heap.size, 0, none⟩ : Addr).add j) = some u := by
  intro j u hj
  rw [Addr.add_lit]
  match j, hj with
  | 0, hj => simp at hj; subst hj; simp
  | 1, hj => simp at hj; subst hj; simp
end Go.Proofs.YtaaenhjhjclilabDoor
