/-
  Rows of batches in memory: how they are read, and rows that a call has made. No function of the program is named here.
  A batch is read from its bytes: the walks of Decode.
  A batch behind its length is read, and a batch is put on a tape: the walks of framed and Append.
  A batch is put on a tape: the walk of Append.
-/
import Derived.Test.YtkkkbggbeihbnaaDoorBkEz
import Derived.Test.YtkkkbggbeihbnaaDoorScrMem
import Derived.Test.YtkkkbggbeihbnaaDoorBkRz
import Derived.Test.YtkkkbggbeihbnaaDoorBkBz
namespace Go.Proofs.YtkkkbggbeihbnaaDoor
open Go.RowKit Go.Proofs

def btC (b : Bat) (v : Value) : List Value := [.int .i64 b.user, v]
def BatM (Q : Nat → Prop) (w : World) (b : Bat) (cs : List Value) : Prop := ∃ a c, cs = btC b (.slice a b.ents.length c) ∧ EntsM Q w (.slice a b.ents.length c) b.ents
def BatsM (Q : Nat → Prop) (w : World) (v : Value) (l : List Bat) : Prop := RowM Q 2 (BatM Q w) w v l
theorem BatM.imp {Q Q' : Nat → Prop} {w w' : World} {b : Bat} {cs : List Value} (h : BatM Q w b cs) (hq : ∀ b, Q b → Q' b) (hk : Keeps Q w w') : BatM Q' w' b cs := by
  obtain ⟨a, c, e, h⟩ := h; exact ⟨a, c, e, h.imp hq hk⟩
theorem BatsM.imp {Q Q' : Nat → Prop} {w w' : World} {v : Value} {l : List Bat} (h : BatsM Q w v l) (hq : ∀ b, Q b → Q' b) (hk : Keeps Q w w') : BatsM Q' w' v l := RowM.imp h hq hk fun _ _ h => h.imp hq hk
theorem BatsM.next {Q : Nat → Prop} {w w' : World} {v : Value} {l : List Bat} (h : BatsM Q w v l) (hb : Below w.heap.size w w') : BatsM Q w' v l := h.imp (fun _ h => h) (Keeps.of_below hb)
theorem BatsM.at {Q : Nat → Prop} {w : World} {a : Option Addr} {n c : Nat} {l : List Bat} (h : BatsM Q w (.slice a n c) l) {i : Nat} {x : Bat} (hx : l[i]? = some x) : ∃ b o ae ce, a = some ⟨b, o, none⟩ ∧ w.cell? ⟨b, o + i * 2, none⟩ = some (.int .i64 x.user) ∧ w.cell? ⟨b, o + i * 2 + 1, none⟩ = some (.slice ae x.ents.length ce) ∧ EntsM Q w (.slice ae x.ents.length ce) x.ents := by
  obtain ⟨a', c', hv, _, hr⟩ := h
  simp only [Value.slice.injEq] at hv
  obtain ⟨rfl, _, rfl⟩ := hv
  obtain ⟨b, o, cs, rfl, _, _, _, hc, ae, ce, hcs, hm⟩ := hr i x hx
  subst hcs
  exact ⟨b, o, ae, ce, rfl, by simpa using hc 0 _ rfl, hc 1 _ rfl, hm⟩
theorem BatsM.take {Q : Nat → Prop} {w : World} {a : Option Addr} {n c : Nat} {l : List Bat} (h : BatsM Q w (.slice a n c) l) {k : Nat} (hk : k ≤ l.length) (c' : Nat) : BatsM Q w (.slice a k c') (l.take k) := by
  obtain ⟨a', c'', hv, hm, hr⟩ := h
  simp only [Value.slice.injEq] at hv
  obtain ⟨rfl, _, rfl⟩ := hv
  have hl : (l.take k).length = k := by rw [List.length_take]; omega
  refine ⟨a, c', by rw [hl], by omega, fun i x hx => ?_⟩
  have hi : i < k := by have := (List.getElem?_eq_some_iff.1 hx).1; omega
  exact hr i x (by rw [List.getElem?_take_of_lt hi] at hx; exact hx)
theorem ents_both {Q : Nat → Prop} {w : World} {v : Value} {l : List Ent} (h : EntsM Q w v l) : EntsM (fun k => Q k ∧ k < w.heap.size) w v l := by
  obtain ⟨a, c, h1, h2, h3⟩ := h
  refine ⟨a, c, h1, h2, fun i x hx => ?_⟩
  obtain ⟨b, o, cs, e, hb, hq, h4, h5, h6⟩ := h3 i x hx
  exact ⟨b, o, cs, e, hb, ⟨hq, hb⟩, h4, h5, h6⟩
/- Rows of the call's own. -/
def btCs : List Bat → List Value → List (List Value)
  | b :: r, v :: vs => btC b v :: btCs r vs
  | _, _ => []
theorem btCs_len : ∀ (l : List Bat) (vs : List Value), vs.length = l.length → (btCs l vs).length = l.length := by
  intro l
  induction l with
  | nil => intro vs _; cases vs <;> rfl
  | cons b l ih =>
    intro vs h
    cases vs with
    | nil => simp at h
    | cons v vs => simp only [btCs, List.length_cons]; rw [ih vs (by simpa using h)]
theorem btCs_each : ∀ (l : List Bat) (vs : List Value), ∀ cs ∈ btCs l vs, cs.length = 2 := by
  intro l
  induction l with
  | nil => intro vs cs h; cases vs <;> cases h
  | cons b l ih =>
    intro vs cs h
    cases vs with
    | nil => cases h
    | cons v vs =>
      simp only [btCs, List.mem_cons] at h
      rcases h with rfl | h
      · rfl
      · exact ih vs cs h
theorem btCs_at : ∀ (l : List Bat) (vs : List Value) (i : Nat) (b : Bat) (v : Value), l[i]? = some b → vs[i]? = some v → (btCs l vs)[i]? = some (btC b v) := by
  intro l
  induction l with
  | nil => intro vs i b v h; simp at h
  | cons c l ih =>
    intro vs i b v h h'
    cases vs with
    | nil => simp at h'
    | cons u vs =>
      cases i with
      | zero => simp at h h'; subst h; subst h'; rfl
      | succ i => simp at h h'; simpa [btCs] using ih vs i b v h h'
theorem btCs_app : ∀ (l : List Bat) (vs : List Value) (b : Bat) (v : Value), vs.length = l.length → btCs (l ++ [b]) (vs ++ [v]) = btCs l vs ++ [btC b v] := by
  intro l
  induction l with
  | nil => intro vs b v h; cases vs with
    | nil => rfl
    | cons => simp at h
  | cons c l ih =>
    intro vs b v h
    cases vs with
    | nil => simp at h
    | cons u vs => simp only [List.cons_append, btCs]; rw [ih vs b v (by simpa using h)]
/-- Batches in a row of the call's own; their entries lie outside that row, where X says. -/
def OwnBs (B : Nat) (X : Nat → Prop) (w : World) (v : Value) (l : List Bat) : Prop := ∃ vs : List Value, vs.length = l.length ∧ w.ownsRow B 34 2 v l.length (btCs l vs).flatten ∧ ∀ (i : Nat) b u, l[i]? = some b → vs[i]? = some u → ∃ a c, u = .slice a b.ents.length c ∧ EntsM (fun k => some k ≠ v.ownBlock ∧ X k) w u b.ents
theorem OwnBs.nil (B : Nat) (X : Nat → Prop) (w : World) : OwnBs B X w (.slice none 0 0) [] := ⟨[], rfl, World.ownsRow_nil _ _ _ _, fun i b u h => by simp at h⟩
theorem OwnBs.keep {B : Nat} {X : Nat → Prop} {w w' : World} {v : Value} {l : List Bat} (h : OwnBs B X w v l) (hb : Below w.heap.size w w') : OwnBs B X w' v l := by
  obtain ⟨vs, h1, h2, h3⟩ := h
  refine ⟨vs, h1, bk_keep h2 fun g hg => hb.block g (World.ownsRow.lt h2 g hg).2, fun i b u hb' hu => ?_⟩
  obtain ⟨a, c, e, h⟩ := h3 i b u hb' hu
  exact ⟨a, c, e, h.next hb⟩
theorem OwnBs.but {B r : Nat} {X : Nat → Prop} {w w' : World} {v : Value} {l : List Bat} (h : OwnBs B X w v l) (hb : But r w w') (hr : r < B) (hX : ∀ k, X k → k ≠ r) : OwnBs B X w' v l := by
  obtain ⟨vs, h1, h2, h3⟩ := h
  refine ⟨vs, h1, own_but h2 hb hr, fun i b u hb' hu => ?_⟩
  obtain ⟨a, c, e, h⟩ := h3 i b u hb' hu
  exact ⟨a, c, e, h.imp (fun _ h => h) (Keeps.of_but hb fun k hk => hX k hk.2)⟩
theorem OwnBs.bats {B : Nat} {X : Nat → Prop} {w : World} {v : Value} {l : List Bat} (h : OwnBs B X w v l) (hm : l.length ≤ 1000000) : BatsM (fun _ => True) w v l := by
  obtain ⟨vs, h1, h2, h3⟩ := h
  refine own_row h2 rfl (by unfold maxLen; omega) (btCs_len _ _ h1) (btCs_each _ _) (fun i b cs hb hc => ?_) (fun _ _ => trivial)
  have hi : i < vs.length := by rw [h1]; exact (List.getElem?_eq_some_iff.1 hb).1
  have hv : vs[i]? = some vs[i] := List.getElem?_eq_getElem hi
  rw [btCs_at _ _ _ _ _ hb hv] at hc
  cases hc
  obtain ⟨a, c, e, h⟩ := h3 i b _ hb hv
  rw [e] at h ⊢
  exact ⟨a, c, rfl, h.imp (fun _ _ => trivial) (Keeps.refl _ _)⟩
theorem OwnBs.app {B n cap g : Nat} {X : Nat → Prop} {w w4 : World} {a9 : Option Addr} {c9 : Nat} {l : List Bat} {b : Bat} {vs : List Value} {ae : Option Addr} {ce : Nat} (h1 : vs.length = l.length) (hn : n = l.length)
    (h3 : ∀ (i : Nat) b u, l[i]? = some b → vs[i]? = some u → ∃ a c, u = .slice a b.ents.length c ∧ EntsM (fun k => some k ≠ (Value.slice a9 n c9).ownBlock ∧ X k) w u b.ents)
    (hown : w4.ownsRow B 34 2 (.slice (some ⟨g, 0, none⟩) (n + 1) cap) (n + 1) ((btCs l vs).flatten ++ [.int .i64 b.user, .slice ae b.ents.length ce])) (hgrow : w.grownBy w4 (Value.slice a9 n c9).ownBlock) (hat : (Value.slice a9 n c9).ownBlock = some g ∨ g = w.heap.size)
    (hE : EntsM (fun k => some k ≠ (Value.slice a9 n c9).ownBlock ∧ X k) w (.slice ae b.ents.length ce) b.ents) : OwnBs B X w4 (.slice (some ⟨g, 0, none⟩) (n + 1) cap) (l ++ [b]) := by
  subst hn
  have up : ∀ {u : Value} {x : List Ent}, EntsM (fun k => some k ≠ (Value.slice a9 l.length c9).ownBlock ∧ X k) w u x → EntsM (fun k => some k ≠ (Value.slice (some ⟨g, 0, none⟩) (l.length + 1) cap).ownBlock ∧ X k) w4 u x := fun h => (ents_both h).imp (fun k hk => ⟨fun e => by
      simp only [Value.ownBlock, Option.some.injEq] at e
      rcases hat with q | q
      · exact hk.1.1 (by rw [q, e])
      · have := hk.2; omega, hk.1.2⟩) ⟨hgrow.size, fun k hk hq => hgrow.block k hk hq.1.1⟩
  refine ⟨vs ++ [.slice ae b.ents.length ce], by simp [h1], ?_, fun i x u hx hu => ?_⟩
  · rw [btCs_app _ _ _ _ h1, List.flatten_append, List.length_append]
    exact hown
  · rcases Nat.lt_or_ge i l.length with hi | hi
    · rw [List.getElem?_append_left hi] at hx
      rw [List.getElem?_append_left (by omega)] at hu
      obtain ⟨a, c, e, h⟩ := h3 i x u hx hu
      exact ⟨a, c, e, up h⟩
    · rw [List.getElem?_append_right hi] at hx
      rw [List.getElem?_append_right (by omega)] at hu
      have e0 : i - l.length = 0 := by
        have := (List.getElem?_eq_some_iff.1 hx).1
        simp at this
        omega
      rw [h1, e0] at hu
      rw [e0] at hx
      cases hx
      cases hu
      exact ⟨ae, ce, rfl, up hE⟩
theorem infoBt : (Tryd.prog.info? 34).map (fun i => (i.zero, i.size, i.bytes)) = some (some (.agg #[.int .i64 0, .slice none 0 0]), 2, 32) := by kernel_rfl
theorem bk_two_new (w : World) (a b : Value) (t : TypeId) : ∀ j u, [a, b][j]? = some u → (w.alloc (.cells #[a, b] t)).cell? ((⟨w.heap.size, 0, none⟩ : Addr).add j) = some u := by
  intro j u hj
  rw [Addr.add_lit]
  match j, hj with
  | 0, hj => simp at hj; subst hj; simp
  | 1, hj => simp at hj; subst hj; simp
end Go.Proofs.YtkkkbggbeihbnaaDoor

namespace Go.Proofs.YtkkkbggbeihbnaaDoor
open Go.RowKit Go.Proofs

theorem bys_low {Q : Nat → Prop} {w : World} {v : Value} {l : List UInt8} (h : BysM Q w v l) : BysM (fun k => k < w.heap.size) w v l := by
  obtain ⟨a, c, h1, h2, h3, h4⟩ := h
  refine ⟨a, c, h1, h2, h3, fun j x hx => ?_⟩
  obtain ⟨b, o, e, _, hc⟩ := h4 j x hx
  exact ⟨b, o, e, World.block_lt_of_cell? w _ hc, hc⟩
/-- A batch in memory that is new, and an error. -/
def DcP (w : World) (b : Bat) (er : Int) (e : Ending) (w' : World) : Prop := ∃ a c, e = .returned (.tuple #[.agg #[.int .i64 b.user, .slice a b.ents.length c], .int .i64 er]) ∧ EntsM (fun k => w.heap.size ≤ k) w' (.slice a b.ents.length c) b.ents ∧ Below w.heap.size w w'
set_option maxHeartbeats 1000000 in
set_option maxRecDepth 100000 in
theorem dec_short (a : Option Addr) (c : Nat) (l : List UInt8) (Q : Nat → Prop) (w : World) (h : BysM Q w (.slice a l.length c) l) (hl : l.length ≤ 100000) (hs : (batR (l, false)).2.2 = true) :
    Calls Tryd.prog 16 #[.slice a l.length c] w (DcP w ⟨0, []⟩ 4) := by
  obtain ⟨y, hy⟩ : ∃ y, y = batR (l, false) := ⟨_, rfl⟩
  rw [← hy] at hs
  obtain ⟨W2, hW2⟩ : ∃ W2, W2 = (w.alloc (.cells #[.int .i64 0, .slice none 0 0] 34)).alloc (.cells #[.slice a l.length c, .bool false] 79) := ⟨_, rfl⟩
  have HWE := hid hW2
  have hB2 : Below w.heap.size w W2 := by rw [hW2]; exact tp_low2 _ _ _
  have hp : W2.heap[w.heap.size]? = some (.cells #[.int .i64 0, .slice none 0 0] 34) := by rw [hW2]; exact (tp_new2 w _ _).1
  have hr : W2.heap[w.heap.size + 1]? = some (.cells #[.slice a l.length c, .bool false] 79) := by rw [hW2]; exact (tp_new2 w _ _).2
  have HP := hid hp
  have HB2 := hid hB2
  have HZ := hid (show W2.heap.size = w.heap.size + 2 by rw [hW2]; simp)
  have HR2 := hid (show RdB W2 (w.heap.size + 1) (l, false) from ⟨_, hr, (bys_low h).imp (fun k hk => (by omega : k < w.heap.size + 1)) fun b hb _ => hB2.block b hb⟩)
  have HRB := hid (rbat_any (w.heap.size + 1) (l, false) W2 HR2.out)
  rw [← hy] at HRB
  have hl1 : ¬ (100000 : Int) < ((l.length : Nat) : Int) := by omega
  clear h hW2 hB2 hp hr hy
  go_enter Tryd.func16, Tryd.ntmps16
  go_upto_region 4 with fail
  rw [← HWE.out]
  go_wp2_with fail
  refine HRB.out.mono ?_
  rintro e w3 ⟨a3, c3, rfl, hE3, ⟨v3, hr3, hv3⟩, hu3⟩
  obtain ⟨a4, c4, rfl, hc4, hm4⟩ := hv3.slice
  obtain ⟨W4, hW4⟩ : ∃ W4, W4 = w3.alloc (.cells #[.int .i64 y.1.user, .slice a3 y.1.ents.length c3] 34) := ⟨_, rfl⟩
  have HWE4 := hid hW4
  have hB4 : Below w3.heap.size w3 W4 := by rw [hW4]; exact (Below.refl _ _).alloc (Nat.le_refl _) _
  have ho4 : W4.heap[w3.heap.size]? = some (.cells #[.int .i64 y.1.user, .slice a3 y.1.ents.length c3] 34) := by rw [hW4]; exact heap_alloc_new w3 _
  have hp4 := bk_low hB4 (hu3.obj HP.out (by omega))
  have hr4 := bk_low hB4 hr3
  have HP4 := hid hp4
  have HE4 := hid (hE3.next hB4)
  have HB4 := hid (show Below w.heap.size w W4 from HB2.out.trans ((hu3.below (by omega) (by have := HZ.out; omega)).trans (hB4.mono (Nat.le_trans HB2.out.size hu3.size))))
  have HLT := hid (show w.heap.size < w3.heap.size from Nat.lt_of_lt_of_le (by have := HZ.out; omega) hu3.size)
  obtain ⟨x0, x1, f0, f1⟩ := bk_box2 hp4
  obtain ⟨y0, y1, _, _⟩ := bk_box2 hr4
  obtain ⟨o0, o1, _, _⟩ := bk_box2 ho4
  clear hE3 hr3 hv3 hu3 hW4 hB4 hp4 hr4 ho4
  go_upto_region 5 with fail
  rw [← HWE4.out]
  rw [hs] at y1
  obtain ⟨z0, z1, _, _⟩ := bk_box2 (bk_put (u0 := .int .i64 0) (u1 := .slice none 0 0) HP4.out)
  have HE := hid (show DcP w ⟨0, []⟩ 4 (.returned (.tuple #[.agg #[.int .i64 0, .slice none 0 0], .int .i64 4])) ((W4.setCell ⟨w.heap.size, 0, none⟩ (.int .i64 0)).setCell ⟨w.heap.size, 1, none⟩ (.slice none 0 0)) from ⟨none, 0, rfl, rowM_nil _ _ _ _ _ _, (HB4.out.setCell (Nat.le_refl _) _).setCell (Nat.le_refl _) _⟩)
  go_wp2
  refine bodyPost_ret (v := .tuple #[.agg #[.int .i64 0, .slice none 0 0], .int .i64 4]) (by simp [results, Tryd.results16, go_sem, *]) rfl ?_
  exact HE.out
set_option maxHeartbeats 1000000 in
set_option maxRecDepth 100000 in
theorem dec_form (a : Option Addr) (c : Nat) (l : List UInt8) (Q : Nat → Prop) (w : World) (h : BysM Q w (.slice a l.length c) l) (hl : l.length ≤ 100000) (hs : (batR (l, false)).2.2 = false) (hf : 0 < (batR (l, false)).2.1.length) :
    Calls Tryd.prog 16 #[.slice a l.length c] w (DcP w ⟨0, []⟩ 3) := by
  obtain ⟨y, hy⟩ : ∃ y, y = batR (l, false) := ⟨_, rfl⟩
  rw [← hy] at hs hf
  obtain ⟨W2, hW2⟩ : ∃ W2, W2 = (w.alloc (.cells #[.int .i64 0, .slice none 0 0] 34)).alloc (.cells #[.slice a l.length c, .bool false] 79) := ⟨_, rfl⟩
  have HWE := hid hW2
  have hB2 : Below w.heap.size w W2 := by rw [hW2]; exact tp_low2 _ _ _
  have hp : W2.heap[w.heap.size]? = some (.cells #[.int .i64 0, .slice none 0 0] 34) := by rw [hW2]; exact (tp_new2 w _ _).1
  have hr : W2.heap[w.heap.size + 1]? = some (.cells #[.slice a l.length c, .bool false] 79) := by rw [hW2]; exact (tp_new2 w _ _).2
  have HP := hid hp
  have HB2 := hid hB2
  have HZ := hid (show W2.heap.size = w.heap.size + 2 by rw [hW2]; simp)
  have HR2 := hid (show RdB W2 (w.heap.size + 1) (l, false) from ⟨_, hr, (bys_low h).imp (fun k hk => (by omega : k < w.heap.size + 1)) fun b hb _ => hB2.block b hb⟩)
  have HRB := hid (rbat_any (w.heap.size + 1) (l, false) W2 HR2.out)
  rw [← hy] at HRB
  have hl1 : ¬ (100000 : Int) < ((l.length : Nat) : Int) := by omega
  have hf1 : (0 : Int) < ((y.2.1.length : Nat) : Int) := by omega
  clear h hW2 hB2 hp hr hy
  go_enter Tryd.func16, Tryd.ntmps16
  go_upto_region 4 with fail
  rw [← HWE.out]
  go_wp2_with fail
  refine HRB.out.mono ?_
  rintro e w3 ⟨a3, c3, rfl, hE3, ⟨v3, hr3, hv3⟩, hu3⟩
  obtain ⟨a4, c4, rfl, hc4, hm4⟩ := hv3.slice
  obtain ⟨W4, hW4⟩ : ∃ W4, W4 = w3.alloc (.cells #[.int .i64 y.1.user, .slice a3 y.1.ents.length c3] 34) := ⟨_, rfl⟩
  have HWE4 := hid hW4
  have hB4 : Below w3.heap.size w3 W4 := by rw [hW4]; exact (Below.refl _ _).alloc (Nat.le_refl _) _
  have ho4 : W4.heap[w3.heap.size]? = some (.cells #[.int .i64 y.1.user, .slice a3 y.1.ents.length c3] 34) := by rw [hW4]; exact heap_alloc_new w3 _
  have hp4 := bk_low hB4 (hu3.obj HP.out (by omega))
  have hr4 := bk_low hB4 hr3
  have HP4 := hid hp4
  have HE4 := hid (hE3.next hB4)
  have HB4 := hid (show Below w.heap.size w W4 from HB2.out.trans ((hu3.below (by omega) (by have := HZ.out; omega)).trans (hB4.mono (Nat.le_trans HB2.out.size hu3.size))))
  have HLT := hid (show w.heap.size < w3.heap.size from Nat.lt_of_lt_of_le (by have := HZ.out; omega) hu3.size)
  obtain ⟨x0, x1, f0, f1⟩ := bk_box2 hp4
  obtain ⟨y0, y1, _, _⟩ := bk_box2 hr4
  obtain ⟨o0, o1, _, _⟩ := bk_box2 ho4
  clear hE3 hr3 hv3 hu3 hW4 hB4 hp4 hr4 ho4
  go_upto_region 5 with fail
  rw [← HWE4.out]
  rw [hs] at y1
  obtain ⟨z0, z1, _, _⟩ := bk_box2 (bk_put (u0 := .int .i64 0) (u1 := .slice none 0 0) HP4.out)
  have HE := hid (show DcP w ⟨0, []⟩ 3 (.returned (.tuple #[.agg #[.int .i64 0, .slice none 0 0], .int .i64 3])) ((W4.setCell ⟨w.heap.size, 0, none⟩ (.int .i64 0)).setCell ⟨w.heap.size, 1, none⟩ (.slice none 0 0)) from ⟨none, 0, rfl, rowM_nil _ _ _ _ _ _, (HB4.out.setCell (Nat.le_refl _) _).setCell (Nat.le_refl _) _⟩)
  go_wp2
  refine bodyPost_ret (v := .tuple #[.agg #[.int .i64 0, .slice none 0 0], .int .i64 3]) (by simp [results, Tryd.results16, go_sem, *]) rfl ?_
  exact HE.out
set_option maxHeartbeats 1000000 in
set_option maxRecDepth 100000 in
theorem dec_fine (a : Option Addr) (c : Nat) (l : List UInt8) (Q : Nat → Prop) (w : World) (h : BysM Q w (.slice a l.length c) l) (hl : l.length ≤ 100000) (hs : (batR (l, false)).2 = ([], false)) (hf : BatOk (batR (l, false)).1) :
    Calls Tryd.prog 16 #[.slice a l.length c] w (DcP w (batR (l, false)).1 0) := by
  obtain ⟨y, hy⟩ : ∃ y, y = batR (l, false) := ⟨_, rfl⟩
  rw [← hy] at hs hf ⊢
  obtain ⟨W2, hW2⟩ : ∃ W2, W2 = (w.alloc (.cells #[.int .i64 0, .slice none 0 0] 34)).alloc (.cells #[.slice a l.length c, .bool false] 79) := ⟨_, rfl⟩
  have HWE := hid hW2
  have hB2 : Below w.heap.size w W2 := by rw [hW2]; exact tp_low2 _ _ _
  have hp : W2.heap[w.heap.size]? = some (.cells #[.int .i64 0, .slice none 0 0] 34) := by rw [hW2]; exact (tp_new2 w _ _).1
  have hr : W2.heap[w.heap.size + 1]? = some (.cells #[.slice a l.length c, .bool false] 79) := by rw [hW2]; exact (tp_new2 w _ _).2
  have HP := hid hp
  have HB2 := hid hB2
  have HZ := hid (show W2.heap.size = w.heap.size + 2 by rw [hW2]; simp)
  have HR2 := hid (show RdB W2 (w.heap.size + 1) (l, false) from ⟨_, hr, (bys_low h).imp (fun k hk => (by omega : k < w.heap.size + 1)) fun b hb _ => hB2.block b hb⟩)
  have HRB := hid (rbat_any (w.heap.size + 1) (l, false) W2 HR2.out)
  rw [← hy] at HRB
  have hl1 : ¬ (100000 : Int) < ((l.length : Nat) : Int) := by omega
  have HF := hid hf
  clear h hW2 hB2 hp hr hy
  go_enter Tryd.func16, Tryd.ntmps16
  go_upto_region 4 with fail
  rw [← HWE.out]
  go_wp2_with fail
  refine HRB.out.mono ?_
  rintro e w3 ⟨a3, c3, rfl, hE3, ⟨v3, hr3, hv3⟩, hu3⟩
  obtain ⟨a4, c4, rfl, hc4, hm4⟩ := hv3.slice
  obtain ⟨W4, hW4⟩ : ∃ W4, W4 = w3.alloc (.cells #[.int .i64 y.1.user, .slice a3 y.1.ents.length c3] 34) := ⟨_, rfl⟩
  have HWE4 := hid hW4
  have hB4 : Below w3.heap.size w3 W4 := by rw [hW4]; exact (Below.refl _ _).alloc (Nat.le_refl _) _
  have ho4 : W4.heap[w3.heap.size]? = some (.cells #[.int .i64 y.1.user, .slice a3 y.1.ents.length c3] 34) := by rw [hW4]; exact heap_alloc_new w3 _
  have hp4 := bk_low hB4 (hu3.obj HP.out (by omega))
  have hr4 := bk_low hB4 hr3
  have HP4 := hid hp4
  have HE4 := hid (hE3.next hB4)
  have HB4 := hid (show Below w.heap.size w W4 from HB2.out.trans ((hu3.below (by omega) (by have := HZ.out; omega)).trans (hB4.mono (Nat.le_trans HB2.out.size hu3.size))))
  have HLT := hid (show w.heap.size < w3.heap.size from Nat.lt_of_lt_of_le (by have := HZ.out; omega) hu3.size)
  obtain ⟨x0, x1, f0, f1⟩ := bk_box2 hp4
  obtain ⟨y0, y1, _, _⟩ := bk_box2 hr4
  obtain ⟨o0, o1, _, _⟩ := bk_box2 ho4
  clear hE3 hr3 hv3 hu3 hW4 hB4 hp4 hr4 ho4
  go_upto_region 5 with fail
  rw [← HWE4.out]
  have hs1 : y.2.1 = [] := by rw [hs]
  have hs2 : y.2.2 = false := by rw [hs]
  rw [hs2] at y1
  rw [hs1] at y0
  have HC := hid (bcheck_ok y.1 a3 c3 _ W4 HF.out HE4.out)
  clear hs1 hs2 hs
  go_wp2_with fail
  refine HC.out.mono ?_
  rintro e w5 ⟨rfl, hb5⟩
  have hp5 := bk_low hb5 HP4.out
  obtain ⟨i0, i1, g0, g1⟩ := bk_box2 hp5
  have j0 := wcell_next o0 hb5
  have j1 := wcell_next o1 hb5
  obtain ⟨z0, z1, _, _⟩ := bk_box2 (bk_put (u0 := .int .i64 y.1.user) (u1 := .slice a3 y.1.ents.length c3) hp5)
  have HE := hid (show DcP w y.1 0 (.returned (.tuple #[.agg #[.int .i64 y.1.user, .slice a3 y.1.ents.length c3], .int .i64 0])) ((w5.setCell ⟨w.heap.size, 0, none⟩ (.int .i64 y.1.user)).setCell ⟨w.heap.size, 1, none⟩ (.slice a3 y.1.ents.length c3)) by
    refine ⟨a3, c3, rfl, ?_, ((HB4.out.trans (hb5.mono HB4.out.size)).setCell (Nat.le_refl _) _).setCell (Nat.le_refl _) _⟩
    have hz := HZ.out
    exact (HE4.out.next hb5).imp (fun k (hk : W2.heap.size ≤ k) => (by omega : w.heap.size ≤ k)) ⟨by simp [World.setCell], fun k _ hk => (bk_other (by omega)).trans (bk_other (by omega))⟩)
  clear hp5 hb5
  go_wp2
  refine bodyPost_ret (v := .tuple #[.agg #[.int .i64 y.1.user, .slice a3 y.1.ents.length c3], .int .i64 0]) (by simp [results, Tryd.results16, go_sem, *]) rfl ?_
  exact HE.out
theorem dec_ok (b : Bat) (hb : BatOk b) (a : Option Addr) (c : Nat) (Q : Nat → Prop) (w : World) (h : BysM Q w (.slice a (batB b).length c) (batB b)) : Calls Tryd.prog 16 #[.slice a (batB b).length c] w (DcP w b 0) := by
  have e := batR_app hb.fit [] false
  rw [List.append_nil] at e
  have := dec_fine a c (batB b) Q w h (by have := hb.len; omega) (by rw [e]) (by rw [e]; exact hb)
  rw [e] at this
  exact this
end Go.Proofs.YtkkkbggbeihbnaaDoor

namespace Go.Proofs.YtkkkbggbeihbnaaDoor
open Go.RowKit Go.Proofs

/-- What framed hands back. -/
def FrP (b : Nat) (w : World) (x : Bat) (ok : Bool) (r : List UInt8 × Bool) (e : Ending) (w' : World) : Prop := ∃ a c, e = .returned (.tuple #[.agg #[.int .i64 x.user, .slice a x.ents.length c], .bool ok]) ∧ EntsM (fun k => w.heap.size ≤ k) w' (.slice a x.ents.length c) x.ents ∧ RdB w' b r ∧ But b w w'
/-- What is read of a frame: a length, and so many bytes. -/
def frR (r : List UInt8 × Bool) : List UInt8 × (List UInt8 × Bool) := takeR (numR 3 r).1 (numR 3 r).2
theorem frR_app {x : Bat} (hl : (batB x).length < 16777216) (y : List UInt8) : frR (frB x ++ y, false) = (batB x, (y, false)) := by
  unfold frR frB
  rw [List.append_assoc, numR_app (beN3 hl)]
  exact takeR_app _ _ _
theorem frR_torn {t : List UInt8} (h : Torn t) : (frR (t, false)).2.2 = true := by
  unfold frR
  rcases h with rfl | ⟨x, j, _, hl, hj, rfl⟩
  · refine bkshort_of _ ?_
    unfold numR takeR
    simp
  · unfold frB at hj ⊢
    rcases take_parts (beB (batB x).length 3) (batB x) j with ⟨h1, e⟩ | ⟨h1, e⟩
    · rw [e]
      rw [beB_len] at h1
      exact bkshort_of _ (numR_torn h1 false)
    · rw [e, numR_app (beN3 hl)]
      rw [List.length_append] at hj
      exact takeR_torn (by rw [List.length_take]; omega) false
set_option maxHeartbeats 1000000 in
set_option maxRecDepth 100000 in
theorem framed_no (b : Nat) (r : List UInt8 × Bool) (w : World) (h : RdB w b r) (hs : (frR r).2.2 = true) :
    Calls Tryd.prog 36 #[.pointer (some ⟨b, 0, none⟩)] w (FrP b w ⟨0, []⟩ false (frR r).2) := by
  obtain ⟨k1, hk1⟩ : ∃ z, z = numR 3 r := ⟨_, rfl⟩
  have HN := hid (rnum_any 3 b r)
  have HT := hid (fun u (hu : RdB u b k1.2) => bktake_any k1.1 b k1.2 u hu)
  have HQ := hid (show takeR k1.1 k1.2 = frR r by rw [hk1]; rfl)
  rw [HQ.out] at HT
  rw [← hk1] at HN
  obtain ⟨Y, hY⟩ : ∃ Y, Y = frR r := ⟨_, rfl⟩
  rw [← hY] at hs HT ⊢
  clear hY
  obtain ⟨W1, hW1⟩ : ∃ W1, W1 = w.alloc (.cells #[.int .i64 0, .slice none 0 0] 34) := ⟨_, rfl⟩
  have HWE := hid hW1
  have hB1 : Below w.heap.size w W1 := by rw [hW1]; exact (Below.refl _ _).alloc (Nat.le_refl _) _
  have hp : W1.heap[w.heap.size]? = some (.cells #[.int .i64 0, .slice none 0 0] 34) := by rw [hW1]; exact heap_alloc_new w _
  have HP := hid hp
  have HBL := hid h.lt
  have HN1 := hid (HN.out W1 (h.next hB1) (by decide))
  have HU1 := hid (show But b w W1 from But.of hB1)
  clear h hW1 hB1 hp HN hk1 HQ
  go_enter Tryd.func36, Tryd.ntmps36
  go_wp2_with fail
  rw [← HWE.out]
  refine HN1.out.mono ?_
  rintro e w2 ⟨rfl, hr2, hu2⟩
  have HT2 := hid (HT.out w2 hr2)
  have HU2 := hid (HU1.out.trans hu2)
  have HP2 := hid (hu2.obj HP.out (by have := HBL.out; omega))
  clear hr2 hu2 HT
  go_wp2_with fail
  refine HT2.out.mono ?_
  rintro e w3 ⟨a3, c3, rfl, hb3, ⟨v3, hr3, hv3⟩, hu3⟩
  have hp3 := hu3.obj HP2.out (by have := HBL.out; omega)
  have HP3 := hid hp3
  have HU3 := hid (HU2.out.trans hu3)
  have HV3 := hid hb3
  have HR3 := hid (show RdB w3 b Y.2 from ⟨v3, hr3, hv3⟩)
  obtain ⟨x0, x1, f0, f1⟩ := bk_box2 hp3
  obtain ⟨y0, y1, _, _⟩ := bk_box2 hr3
  clear hb3 hr3 hv3 hu3 hp3
  rw [hs] at y1
  obtain ⟨z0, z1, _, _⟩ := bk_box2 (bk_put (u0 := .int .i64 0) (u1 := .slice none 0 0) HP3.out)
  have HE := hid (show FrP b w ⟨0, []⟩ false Y.2 (.returned (.tuple #[.agg #[.int .i64 0, .slice none 0 0], .bool false])) ((w3.setCell ⟨w.heap.size, 0, none⟩ (.int .i64 0)).setCell ⟨w.heap.size, 1, none⟩ (.slice none 0 0)) by
    have hbl := HBL.out
    have hu := HU3.out
    refine ⟨none, 0, rfl, rowM_nil _ _ _ _ _ _, HR3.out.far (((Below.refl _ _).setCell (by simp; omega) _).setCell (by simp; omega) _), hu.os, hu.tape, hu.output, by have := hu.size; simpa [World.setCell] using this, fun q hq hn => ?_⟩
    exact (bk_other (by omega)).trans ((bk_other (by omega)).trans (hu.block q hq hn)))
  clear hs
  go_wp2
  refine bodyPost_ret (v := .tuple #[.agg #[.int .i64 0, .slice none 0 0], .bool false]) (by simp [results, Tryd.results36, go_sem, *]) rfl ?_
  exact HE.out
set_option maxHeartbeats 1000000 in
set_option maxRecDepth 100000 in
theorem framed_ok (b : Nat) (r : List UInt8 × Bool) (w : World) (h : RdB w b r) (x : Bat) (hx : BatOk x) (rest : List UInt8) (hs : frR r = (batB x, (rest, false))) :
    Calls Tryd.prog 36 #[.pointer (some ⟨b, 0, none⟩)] w (FrP b w x true (rest, false)) := by
  obtain ⟨k1, hk1⟩ : ∃ z, z = numR 3 r := ⟨_, rfl⟩
  have HN := hid (rnum_any 3 b r)
  have HT := hid (fun u (hu : RdB u b k1.2) => bktake_any k1.1 b k1.2 u hu)
  have HQ := hid (show takeR k1.1 k1.2 = frR r by rw [hk1]; rfl)
  rw [HQ.out] at HT
  rw [← hk1] at HN
  rw [hs] at HT
  have hlen := hx.len
  have HX := hid hx
  obtain ⟨Y, hY⟩ : ∃ Y : List UInt8 × (List UInt8 × Bool), Y = (batB x, (rest, false)) := ⟨_, rfl⟩
  have HYE := hid hY
  rw [← hY] at HT
  clear hs hx hY
  obtain ⟨W1, hW1⟩ : ∃ W1, W1 = w.alloc (.cells #[.int .i64 0, .slice none 0 0] 34) := ⟨_, rfl⟩
  have HWE := hid hW1
  have hB1 : Below w.heap.size w W1 := by rw [hW1]; exact (Below.refl _ _).alloc (Nat.le_refl _) _
  have hp : W1.heap[w.heap.size]? = some (.cells #[.int .i64 0, .slice none 0 0] 34) := by rw [hW1]; exact heap_alloc_new w _
  have HP := hid hp
  have HBL := hid h.lt
  have HN1 := hid (HN.out W1 (h.next hB1) (by decide))
  have HU1 := hid (show But b w W1 from But.of hB1)
  clear h hW1 hB1 hp HN hk1 HQ
  go_enter Tryd.func36, Tryd.ntmps36
  go_wp2_with fail
  rw [← HWE.out]
  refine HN1.out.mono ?_
  rintro e w2 ⟨rfl, hr2, hu2⟩
  have HT2 := hid (HT.out w2 hr2)
  have HU2 := hid (HU1.out.trans hu2)
  have HP2 := hid (hu2.obj HP.out (by have := HBL.out; omega))
  clear hr2 hu2 HT
  go_wp2_with fail
  refine HT2.out.mono ?_
  rintro e w3 ⟨a3, c3, rfl, hb3, ⟨v3, hr3, hv3⟩, hu3⟩
  have hp3 := hu3.obj HP2.out (by have := HBL.out; omega)
  have HP3 := hid hp3
  have HU3 := hid (HU2.out.trans hu3)
  have HV3 := hid hb3
  have HR3 := hid (show RdB w3 b Y.2 from ⟨v3, hr3, hv3⟩)
  obtain ⟨x0, x1, f0, f1⟩ := bk_box2 hp3
  obtain ⟨y0, y1, _, _⟩ := bk_box2 hr3
  clear hb3 hr3 hv3 hu3 hp3
  have y2 : w3.cell? ⟨b, 1, none⟩ = some (.bool false) := by rw [y1, HYE.out]
  have HD := hid (show Calls Tryd.prog 16 #[.slice a3 Y.1.length c3] w3 (DcP w3 x 0) by
    have hv := HV3.out
    rw [HYE.out] at hv ⊢
    exact dec_ok x HX.out a3 c3 _ w3 hv)
  clear y1
  go_wp2_with fail
  refine HD.out.mono ?_
  rintro e w4 ⟨a4, c4, rfl, hE4, hb4⟩
  obtain ⟨W5, hW5⟩ : ∃ W5, W5 = w4.alloc (.cells #[.int .i64 x.user, .slice a4 x.ents.length c4] 34) := ⟨_, rfl⟩
  have HWE5 := hid hW5
  have hB5 : Below w4.heap.size w4 W5 := by rw [hW5]; exact (Below.refl _ _).alloc (Nat.le_refl _) _
  have ho5 : W5.heap[w4.heap.size]? = some (.cells #[.int .i64 x.user, .slice a4 x.ents.length c4] 34) := by rw [hW5]; exact heap_alloc_new w4 _
  have hb35 : Below w3.heap.size w3 W5 := hb4.trans (hB5.mono hb4.size)
  have hp5 := bk_low hb35 HP3.out
  obtain ⟨i0, i1, g0, g1⟩ := bk_box2 hp5
  obtain ⟨o0, o1, _, _⟩ := bk_box2 ho5
  obtain ⟨z0, z1, _, _⟩ := bk_box2 (bk_put (u0 := .int .i64 x.user) (u1 := .slice a4 x.ents.length c4) hp5)
  have HE := hid (show FrP b w x true (rest, false) (.returned (.tuple #[.agg #[.int .i64 x.user, .slice a4 x.ents.length c4], .bool true])) ((W5.setCell ⟨w.heap.size, 0, none⟩ (.int .i64 x.user)).setCell ⟨w.heap.size, 1, none⟩ (.slice a4 x.ents.length c4)) by
    have hbl := HBL.out
    have hu := HU3.out
    have hlt : w.heap.size < w3.heap.size := (Array.getElem?_eq_some_iff.1 HP3.out).1
    have hr := HR3.out.next hb35
    rw [HYE.out] at hr
    refine ⟨a4, c4, rfl, ?_, hr.far (((Below.refl _ _).setCell (by simp; omega) _).setCell (by simp; omega) _), hb35.os.trans hu.os, hb35.tape.trans hu.tape, hb35.output.trans hu.output, Nat.le_trans hu.size (by have := hb35.size; simpa [World.setCell] using this), fun q hq hn => ?_⟩
    · exact (hE4.next hB5).imp (fun k (hk : w3.heap.size ≤ k) => (by omega : w.heap.size ≤ k)) ⟨by simp [World.setCell], fun k _ hk => (bk_other (by omega)).trans (bk_other (by omega))⟩
    · exact (bk_other (by omega)).trans ((bk_other (by omega)).trans ((hb35.block q (by omega)).trans (hu.block q hq hn))))
  clear hE4 hb4 hW5 hB5 ho5 hb35 hp5
  go_upto_region 5 with fail
  rw [← HWE5.out]
  go_wp2
  refine bodyPost_ret (v := .tuple #[.agg #[.int .i64 x.user, .slice a4 x.ents.length c4], .bool true]) (by simp [results, Tryd.results36, go_sem, *]) rfl ?_
  exact HE.out
end Go.Proofs.YtkkkbggbeihbnaaDoor

namespace Go.Proofs.YtkkkbggbeihbnaaDoor
open Go.RowKit Go.Proofs

theorem new3 (w : World) (o1 o2 o3 : Obj) : (((w.alloc o1).alloc o2).alloc o3).heap[w.heap.size]? = some o1 ∧ (((w.alloc o1).alloc o2).alloc o3).heap[w.heap.size + 1]? = some o2 ∧ (((w.alloc o1).alloc o2).alloc o3).heap[w.heap.size + 2]? = some o3 := by
  refine ⟨?_, ?_, ?_⟩
  · rw [Below.heap_alloc _ _ _ (by simp; omega)]; exact (tp_new2 w o1 o2).1
  · rw [Below.heap_alloc _ _ _ (by simp)]; exact (tp_new2 w o1 o2).2
  · have := heap_alloc_new ((w.alloc o1).alloc o2) o3
    simpa using this
theorem low3 (w : World) (o1 o2 o3 : Obj) : Below w.heap.size w (((w.alloc o1).alloc o2).alloc o3) := (tp_low2 w o1 o2).alloc (by simp; omega) _
set_option maxHeartbeats 1000000 in
set_option maxRecDepth 100000 in
theorem append_ok (a : Option Addr) (c : Nat) (l : List UInt8) (s : Int) (b : Bat) (ae : Option Addr) (ce : Nat) (Q Q' : Nat → Prop) (w : World) (h : BysM Q w (.slice a l.length c) l) (hm : mayN l.length s = true) (hb : BatOk b) (hE : EntsM Q' w (.slice ae b.ents.length ce) b.ents) (hfit : l.length + (frB b).length ≤ 100000) :
    Calls Tryd.prog 21 #[.agg #[.slice a l.length c, .int .i64 s], .agg #[.int .i64 b.user, .slice ae b.ents.length ce]] w (TpP w (l ++ frB b) s 0) := by
  obtain ⟨W1, hW1⟩ : ∃ W1, W1 = ((w.alloc (.cells #[.slice a l.length c, .int .i64 s] 49)).alloc (.cells #[.int .i64 b.user, .slice ae b.ents.length ce] 34)).alloc (.cells #[.slice none 0 0, .int .i64 0] 49) := ⟨_, rfl⟩
  have HWE := hid hW1
  have hB1 : Below w.heap.size w W1 := by rw [hW1]; exact low3 _ _ _ _
  have hN := new3 w (.cells #[.slice a l.length c, .int .i64 s] 49) (.cells #[.int .i64 b.user, .slice ae b.ents.length ce] 34) (.cells #[.slice none 0 0, .int .i64 0] 49)
  rw [← hW1] at hN
  obtain ⟨ht1, hb1, hr1⟩ := hN
  have HB1 := hid hB1
  have HT1 := hid ht1
  have HBB := hid hb1
  have HR1 := hid hr1
  have HL1 := hid (h.next hB1)
  have HE1 := hid (hE.next hB1)
  have HM := hid hm
  have HOK := hid hb
  have hfr := frB_len b
  have hbl : l.length + 3 + (batB b).length ≤ 100000 := by omega
  obtain ⟨x0, x1, _, _⟩ := bk_box2 ht1
  obtain ⟨X, hX⟩ : ∃ X, X = batB b := ⟨_, rfl⟩
  have HXE := hid (show l ++ beB X.length 3 ++ X = l ++ frB b by unfold frB; rw [hX]; simp only [List.append_assoc])
  have hxl : l.length + 3 + X.length ≤ 100000 := by rw [hX]; exact hbl
  have HEN := hid (fun (u : World) (hu : Below W1.heap.size W1 u) => encode_ok b ae ce _ u HOK.out (HE1.out.next hu))
  rw [← hX] at HEN
  obtain ⟨Z, hZ⟩ : ∃ Z, Z = l ++ frB b := ⟨_, rfl⟩
  rw [← hZ] at HXE ⊢
  clear h hE hW1 hB1 ht1 hb1 hr1 hm hb hfit hfr hbl hX hZ
  go_enter Tryd.func21, Tryd.ntmps21
  go_wp2_with fail
  rw [← HWE.out]
  refine (tmay_any a l.length c s W1).mono ?_
  rintro e w2 ⟨rfl, hb2⟩
  rw [HM.out]
  have HB2 := hid hb2
  obtain ⟨y0, y1, _, _⟩ := bk_box2 (bk_low hb2 HBB.out)
  have HEN2 := hid (HEN.out w2 hb2)
  clear hb2 x0 x1
  go_wp2_with fail
  refine HEN2.out.mono ?_
  rintro e w3 ⟨a3, c3, rfl, hO3, hb3⟩
  have hb13 : Below W1.heap.size W1 w3 := HB2.out.trans (hb3.mono HB2.out.size)
  have HB3 := hid hb13
  have HX3 := hid (show BysM (fun k => k < w3.heap.size) w3 (.slice a3 X.length c3) X from bys_low (own_by (Q := fun _ => True) hO3 rfl (by unfold maxLen; omega) fun _ _ => trivial))
  obtain ⟨z0, z1, _, _⟩ := bk_box2 (bk_low hb13 HT1.out)
  have HCL := hid (clone_by a c l _ w3 (HL1.out.next hb13) (by omega))
  have hg1 : ¬ (100000 : Int) < ((l.length : Nat) : Int) + 3 + ((X.length : Nat) : Int) := by omega
  clear hO3 hb3 hb13 y0 y1 HEN HEN2
  go_wp2_with fail
  refine HCL.out.mono ?_
  rintro e w4 ⟨a4, c4, rfl, hO4, hb4⟩
  obtain ⟨W5, hW5⟩ : ∃ W5, W5 = w4.alloc (.cells #[.slice a4 l.length c4] 76) := ⟨_, rfl⟩
  have HWE5 := hid hW5
  have hB5 : Below w4.heap.size w4 W5 := by rw [hW5]; exact (Below.refl _ _).alloc (Nat.le_refl _) _
  have hw5 : W5.heap[w4.heap.size]? = some (.cells #[.slice a4 l.length c4] 76) := by rw [hW5]; exact heap_alloc_new w4 _
  have HB35 := hid (show Below w3.heap.size w3 W5 from hb4.trans (hB5.mono hb4.size))
  have HY5 := hid (show ByW w3.heap.size W5 w4.heap.size (Value.slice a4 l.length c4).ownBlock l from ⟨a4, c4, hw5, rfl, fun e => by have := (World.ownsRow.lt hO4 _ e).2; omega, hb4.size, bk_keep hO4 fun g hg => hB5.block g (World.ownsRow.lt hO4 g hg).2⟩)
  have HNM := hid (wnum_any X.length 3 w3.heap.size w4.heap.size _ l W5 HY5.out (by decide) (by omega))
  clear hO4 hb4 hW5 hB5 hw5 HCL hg1
  go_upto_region 9 with fail
  rw [← HWE5.out]
  go_wp2_with fail
  refine HNM.out.mono ?_
  rintro e w6 ⟨rfl, g6, hy6, hx6⟩
  have hb6 : Below w3.heap.size W5 w6 := hx6.low HY5.out
  have HB36 := hid (show Below w3.heap.size w3 w6 from HB35.out.trans hb6)
  obtain ⟨a6, c6, h1, h2, h3, h4, h5⟩ := hy6
  have hq6 : (l ++ beB X.length 3).length + X.length ≤ 100000 := by rw [List.length_append, beB_len]; omega
  generalize l ++ beB X.length 3 = q6 at *
  have d0 : w6.cell? ⟨w4.heap.size, 0, none⟩ = some (.slice a6 q6.length c6) := by simp [World.cell?, h1]
  have e0 : w6.frozen? ⟨w4.heap.size, 0, none⟩ = false := by simp [World.frozen?, h1]
  have H1 := hid h1
  have H2 := hid h2
  have H3 := hid h3
  have H5 := hid h5
  have HBL := hid (Array.getElem?_eq_some_iff.1 h1).1
  have HX6 := hid (show BysM (fun k => k < w3.heap.size) w6 (.slice a3 X.length c3) X from HX3.out.imp (fun _ h => h) fun k _ hk => HB36.out.block k hk)
  have hsz6 : w3.heap.size ≤ w6.heap.size := HB36.out.size
  clear h1 h2 h3 h5 hx6 hb6
  go_wp2_with (at_builtin; refine wpList_app_by rfl _ _ rfl rfl H5.out rfl HX6.out ?qc1 ?qc2 hsz6 ?_)
  case qc1 => unfold maxLen; omega
  case qc2 => omega
  intro a7 c7 w7 hown hgrow hrow
  obtain ⟨g7, hy7, hx7⟩ := ByW.append (s := X) H1.out H2.out H3.out h4 HBL.out hown hgrow (fun k hk => by rw [← H2.out]; exact hrow k hk)
  have z6 : w7.frozen? ⟨w4.heap.size, 0, none⟩ = false := (World.frozen?_of_block (w := w6) (hgrow.block w4.heap.size HBL.out fun e => H3.out (H2.out.symm.trans e.symm))).trans e0
  have z7 : w7.cell? ⟨w4.heap.size, 0, none⟩ = some (.slice a6 q6.length c6) := (World.cell?_of_block (w := w6) (hgrow.block w4.heap.size HBL.out fun e => H3.out (H2.out.symm.trans e.symm))).trans d0
  rw [HXE.out] at hy7
  obtain ⟨W8, hW8⟩ : ∃ W8, W8 = w7.setCell ⟨w4.heap.size, 0, none⟩ (.slice a7 (q6.length + X.length) c7) := ⟨_, rfl⟩
  have HWE8 := hid hW8
  rw [← hW8] at hy7 hx7
  have hy6' : ByW w3.heap.size w6 w4.heap.size g6 q6 := ⟨a6, c6, H1.out, H2.out, H3.out, h4, H5.out⟩
  have hb8 : Below w3.heap.size w6 W8 := hx7.low hy6'
  have HB38 := hid (show Below w3.heap.size w3 W8 from HB36.out.trans hb8)
  obtain ⟨a8, c8, k1, k2, k3, k4, k5⟩ := hy7
  have m0 : W8.cell? ⟨w4.heap.size, 0, none⟩ = some (.slice a8 Z.length c8) := by simp [World.cell?, k1]
  have HO8 := hid k5
  have HB18 := hid (show Below W1.heap.size W1 W8 from HB3.out.trans (HB38.out.mono HB3.out.size))
  obtain ⟨t0, t1, _, _⟩ := bk_box2 (bk_low HB18.out HT1.out)
  have hr8 := bk_low HB18.out HR1.out
  obtain ⟨r0, r1, u0, u1⟩ := bk_box2 hr8
  obtain ⟨s0, s1, _, _⟩ := bk_box2 (bk_put (u0 := .slice a8 Z.length c8) (u1 := .int .i64 s) hr8)
  have HE := hid (show TpP w Z s 0 (.returned (.tuple #[.agg #[.slice a8 Z.length c8, .int .i64 s], .int .i64 0])) ((W8.setCell ⟨w.heap.size + 2, 0, none⟩ (.slice a8 Z.length c8)).setCell ⟨w.heap.size + 2, 1, none⟩ (.int .i64 s)) by
    have hw1 : w.heap.size + 2 < W1.heap.size := (Array.getElem?_eq_some_iff.1 HR1.out).1
    have hw3 := HB3.out.size
    refine ⟨a8, c8, rfl, ?_, ((HB1.out.trans (HB18.out.mono HB1.out.size)).setCell (Nat.le_add_right _ _) _).setCell (Nat.le_add_right _ _) _⟩
    refine bk_base (B := w3.heap.size) (bk_keep HO8.out fun g hg => ?_) (by omega)
    have := (World.ownsRow.lt HO8.out g hg).1
    exact (bk_other (by omega)).trans (bk_other (by omega)))
  clear hown hgrow hrow hx7 hb8 k1 k2 k3 k5 hr8 hW8 hy6' d0 z0 z1
  go_upto_region 11 with fail
  rw [← HWE8.out]
  go_wp2
  refine bodyPost_ret (v := .tuple #[.agg #[.slice a8 Z.length c8, .int .i64 s], .int .i64 0]) (by simp [results, Tryd.results21, go_sem, *]) rfl ?_
  exact HE.out
end Go.Proofs.YtkkkbggbeihbnaaDoor
