/-
  Blocks that are written cell by cell, and rows of one. No function of the program is named here.
  Rows that a call makes, of things that have rows of their own: what is appended stays what it is. No function of the program is named here.
  What the walks of rows of tests and of commands share.
-/
import Derived.Test.YtkdngmhcfkfppaaGreatDoorScrCk
import Derived.Deep.AppendLies
namespace Go.Proofs.YtkdngmhcfkfppaaGreatDoor
open Go.RowKit Go.Proofs

def setAll (w : World) (b : Nat) : Nat → List Value → World
  | _, [] => w
  | o, v :: vs => setAll (w.setCell ⟨b, o, none⟩ v) b (o + 1) vs
def putAll (cs : Array Value) : Nat → List Value → Array Value
  | _, [] => cs
  | o, v :: vs => putAll (cs.setIfInBounds o v) (o + 1) vs
theorem setAll_heap {b : Nat} {t : TypeId} {fr : Nat × Nat} : ∀ (vs : List Value) (o : Nat) (w : World) (cs : Array Value), w.heap[b]? = some (.cells cs t fr) → (setAll w b o vs).heap[b]? = some (.cells (putAll cs o vs) t fr) := by
  intro vs
  induction vs with
  | nil => intro o w cs h; exact h
  | cons v vs ih => intro o w cs h; exact ih (o + 1) _ _ (setCell_mark (i := o) v h)
theorem setAll_keeps {Q : Nat → Prop} {b : Nat} (hq : ∀ k, Q k → k ≠ b) : ∀ (vs : List Value) (o : Nat) (w w0 : World), Keeps Q w0 w → Keeps Q w0 (setAll w b o vs) := by
  intro vs
  induction vs with
  | nil => intro o w w0 h; exact h
  | cons v vs ih => intro o w w0 h; exact ih (o + 1) _ _ (h.trans (Keeps.set w v hq))
theorem setAll_below {b B : Nat} (hb : B ≤ b) : ∀ (vs : List Value) (o : Nat) (w w0 : World), Below B w0 w → Below B w0 (setAll w b o vs) := by
  intro vs
  induction vs with
  | nil => intro o w w0 h; exact h
  | cons v vs ih => intro o w w0 h; exact ih (o + 1) _ _ (h.setCell hb v)
theorem setAll_size {b : Nat} : ∀ (vs : List Value) (o : Nat) (w : World), (setAll w b o vs).heap.size = w.heap.size := by
  intro vs
  induction vs with
  | nil => intro o w; rfl
  | cons v vs ih => intro o w; exact (ih (o + 1) _).trans (by simp [World.setCell])
theorem rowM_one {A : Type} {Q : Nat → Prop} {k : Nat} {P : A → List Value → Prop} {w : World} {p : Nat} {cs : List Value} {t : TypeId} {fr : Nat × Nat} {x : A} (h : w.heap[p]? = some (.cells cs.toArray t fr)) (hk : cs.length = k) (hQ : Q p) (hP : P x cs) : RowM Q k P w (.slice (some ⟨p, 0, none⟩) 1 1) [x] := by
  refine ⟨some ⟨p, 0, none⟩, 1, rfl, by unfold maxLen; simp, fun i y hy => ?_⟩
  cases i with
  | zero =>
    simp at hy
    subst hy
    refine ⟨p, 0, cs, rfl, (Array.getElem?_eq_some_iff.1 h).1, hQ, hk, fun j u hj => ?_, hP⟩
    have : w.cell? ⟨p, j, none⟩ = cs[j]? := by simp [World.cell?, h]
    simp only [Nat.zero_mul, Nat.zero_add]
    rw [this]; exact hj
  | succ i => simp at hy
theorem boxed {b B : Nat} {t : TypeId} {fr : Nat × Nat} {w w0 : World} {cs : Array Value} (o : Nat) (vs : List Value) (obj : Obj) (h : w.heap[b]? = some (.cells cs t fr)) (hB : Below B w0 w) (hb : B ≤ b) (cs' : Array Value) (hcs : putAll cs o vs = cs') :
    ((setAll w b o vs).alloc obj).heap[b]? = some (.cells cs' t fr) ∧ ((setAll w b o vs).alloc obj).heap[w.heap.size]? = some obj ∧ Keeps (fun k => b < k) w ((setAll w b o vs).alloc obj) ∧ Below B w0 ((setAll w b o vs).alloc obj) ∧ w.heap.size < ((setAll w b o vs).alloc obj).heap.size := by
  have hlt : b < w.heap.size := (Array.getElem?_eq_some_iff.1 h).1
  have hz : (setAll w b o vs).heap.size = w.heap.size := setAll_size vs o w
  refine ⟨?_, ?_, ?_, ?_, ?_⟩
  · have e : ((setAll w b o vs).alloc obj).heap[b]? = (setAll w b o vs).heap[b]? := by
      show ((setAll w b o vs).heap.push obj)[b]? = _
      rw [Array.getElem?_push_lt (by omega), Array.getElem?_eq_getElem (by omega)]
    rw [e, ← hcs]; exact setAll_heap vs o w cs h
  · rw [← hz]; exact heap_alloc_new _ _
  · exact (setAll_keeps (fun k hk => by omega) vs o w w (Keeps.refl _ _)).more obj
  · exact (setAll_below hb vs o w w0 hB).alloc (by rw [hz]; omega) _
  · have : ((setAll w b o vs).alloc obj).heap.size = (setAll w b o vs).heap.size + 1 := by simp
    omega
end Go.Proofs.YtkdngmhcfkfppaaGreatDoor

namespace Go.Proofs.YtkdngmhcfkfppaaGreatDoor
open Go.RowKit Go.Proofs

theorem RowM.both {A : Type} {Q : Nat → Prop} {k : Nat} {P P' : A → List Value → Prop} {w : World} {v : Value} {l : List A} (h : RowM Q k P w v l) (hp : ∀ x cs, P x cs → P' x cs) : RowM (fun b => Q b ∧ b < w.heap.size) k P' w v l := by
  obtain ⟨a, c, hv, hm, hx⟩ := h
  refine ⟨a, c, hv, hm, fun i x hi => ?_⟩
  obtain ⟨b, o, cs, ha, hb, hq, hl, hc, hP⟩ := hx i x hi
  exact ⟨b, o, cs, ha, hb, ⟨hq, hb⟩, hl, hc, hp x cs hP⟩
theorem TstM.both {Q : Nat → Prop} {w : World} : ∀ (n : Nat) (t : Tst) (cs : List Value), TstM Q n w t cs → TstM (fun b => Q b ∧ b < w.heap.size) n w t cs := by
  intro n
  induction n with
  | zero => intro t cs h; exact h
  | succ n ih =>
    intro t cs h
    obtain ⟨vn, vk, vt, h0, h1, h2, h3⟩ := h
    exact ⟨vn, vk, vt, h0, RowM.both h1 fun _ _ h => h, RowM.both h2 fun _ _ h => h, RowM.both h3 ih⟩
theorem CmdM.both {Q : Nat → Prop} {w : World} : ∀ (n : Nat) (t : Cmd) (cs : List Value), CmdM Q n w t cs → CmdM (fun b => Q b ∧ b < w.heap.size) n w t cs := by
  intro n
  induction n with
  | zero => intro t cs h; exact h
  | succ n ih =>
    intro t cs h
    obtain ⟨vx, vn, vk, vt, va, ve, h0, h1, h2, h3, h4⟩ := h
    exact ⟨vx, vn, vk, vt, va, ve, h0, RowM.both h1 fun _ _ h => h, TstM.both _ _ _ h2, RowM.both h3 ih, RowM.both h4 ih⟩
abbrev newB' (B : Nat) : Nat → Prop := fun k => B ≤ k
/-- What a thing is in memory: it bears a change of all blocks that it does not lie in. -/
def Firm {A : Type} (P : (Nat → Prop) → World → A → List Value → Prop) : Prop := ∀ (Q Q' : Nat → Prop) (w w' : World) (x : A) (cs : List Value), (∀ b, Q b → Q' b) → Keeps Q w w' → P Q w x cs → P Q' w' x cs
theorem firm_tst (n : Nat) : Firm (fun Q w (t : Tst) cs => TstM Q n w t cs) := fun _ _ _ _ _ _ hq hk h => TstM.imp hq hk _ _ _ h
theorem firm_cmd (n : Nat) : Firm (fun Q w (t : Cmd) cs => CmdM Q n w t cs) := fun _ _ _ _ _ _ hq hk h => CmdM.imp hq hk _ _ _ h
abbrev rowQ (B : Nat) (w : World) (v : Value) : Nat → Prop := fun b => B ≤ b ∧ b < w.heap.size ∧ some b ≠ v.ownBlock
def OwnRow {A : Type} (B k : Nat) (ty : TypeId) (P : (Nat → Prop) → World → A → List Value → Prop) (w : World) (v : Value) (l : List A) : Prop :=
  ∃ css : List (List Value), w.ownsRow B ty k v l.length css.flatten ∧ css.length = l.length ∧ (∀ cs ∈ css, cs.length = k) ∧ ∀ (i : Nat) (x : A) (cs : List Value), l[i]? = some x → css[i]? = some cs → P (rowQ B w v) w x cs
theorem flatten_at {k : Nat} : ∀ {css : List (List Value)} {i j : Nat} {cs : List Value}, (∀ c ∈ css, c.length = k) → css[i]? = some cs → j < k → css.flatten[i * k + j]? = cs[j]? := by
  intro css
  induction css with
  | nil => intro i j cs _ h _; simp at h
  | cons c css ih =>
    intro i j cs hk h hj
    have hc : c.length = k := hk c (by simp)
    cases i with
    | zero =>
      simp at h
      subst h
      simp only [Nat.zero_mul, Nat.zero_add, List.flatten_cons]
      rw [List.getElem?_append_left (by omega)]
    | succ i =>
      have := ih (j := j) (fun c hc => hk c (by simp [hc])) (by simpa using h) hj
      simp only [List.flatten_cons]
      rw [List.getElem?_append_right (by rw [hc, Nat.add_mul]; omega), ← this]
      congr 1
      rw [hc, Nat.add_mul]
      omega
theorem OwnRow.any {A : Type} {B k : Nat} {ty : TypeId} {P : (Nat → Prop) → World → A → List Value → Prop} {w : World} {v : Value} {l : List A} (h : OwnRow B k ty P w v l) : ∃ a c, v = .slice a l.length c := by
  obtain ⟨css, h1, _⟩ := h
  rcases h1.2 with ⟨rfl, hn⟩ | ⟨g, cap, cur, rfl, _⟩
  · exact ⟨none, 0, by rw [hn]⟩
  · exact ⟨_, _, rfl⟩
theorem OwnRow.rowM {A : Type} {B k : Nat} {ty : TypeId} {P : (Nat → Prop) → World → A → List Value → Prop} (hP : Firm P) {w : World} {v : Value} {l : List A} (h : OwnRow B k ty P w v l) (hm : l.length ≤ maxLen) : RowM (newB' B) k (P (newB' B) w) w v l := by
  obtain ⟨css, h1, h2, h3, h4⟩ := h
  rcases h1.2 with ⟨rfl, hn⟩ | ⟨g, cap, cur, rfl, hb, hg, hcap, hcm, hcs, htk⟩
  · have : l = [] := List.length_eq_zero_iff.1 hn
    subst this
    exact rowM_nil _ _ _ _ _ _
  · refine ⟨some ⟨g, 0, none⟩, cap, rfl, hm, fun i x hx => ?_⟩
    have hi : i < l.length := (List.getElem?_eq_some_iff.1 hx).1
    obtain ⟨cs, hcs'⟩ : ∃ cs, css[i]? = some cs := ⟨_, List.getElem?_eq_getElem (by omega)⟩
    refine ⟨g, 0, cs, rfl, (Array.getElem?_eq_some_iff.1 hg).1, hb, h3 cs (List.mem_of_getElem? hcs'), fun j u hj => ?_, hP _ _ _ _ _ _ (fun b hb => hb.1) (Keeps.refl _ _) (h4 i x cs hx hcs')⟩
    have hjk : j < k := by rw [← h3 cs (List.mem_of_getElem? hcs')]; exact (List.getElem?_eq_some_iff.1 hj).1
    have := World.ownsRow.cells h1 (g := g) rfl (i * k + j) u (by rw [flatten_at h3 hcs' hjk]; exact hj)
    rw [Addr.add_lit] at this
    simpa [Nat.add_assoc] using this
theorem OwnRow.nil {A : Type} (B k : Nat) (ty : TypeId) (P : (Nat → Prop) → World → A → List Value → Prop) (w : World) : OwnRow B k ty P w (.slice none 0 0) ([] : List A) :=
  ⟨[], by simpa using World.ownsRow_nil w B ty k, rfl, (fun cs h => by cases h), (fun i x cs h => by simp at h)⟩
/-- One more. -/
theorem OwnRow.more {A : Type} {B k : Nat} {ty : TypeId} {P : (Nat → Prop) → World → A → List Value → Prop} (hP : Firm P) {w w' : World} {v v' : Value} {l : List A} {x : A} {cs : List Value} {css : List (List Value)} {H : Nat}
    (h2 : css.length = l.length) (h3 : ∀ cs ∈ css, cs.length = k) (h4 : ∀ (i : Nat) (x : A) (cs : List Value), l[i]? = some x → css[i]? = some cs → P (rowQ B w v) w x cs)
    (hx : P (rowQ B w v) w x cs) (hk : cs.length = k) (how : w'.ownsRow B ty k v' (l.length + 1) (css.flatten ++ cs)) (hg : w.grownBy w' v.ownBlock) (hat : v'.ownBlock = v.ownBlock ∨ v'.ownBlock = some H) (hH : w.heap.size ≤ H) : OwnRow B k ty P w' v' (l ++ [x]) := by
  have hq : ∀ b, rowQ B w v b → rowQ B w' v' b := by
    rintro b ⟨q1, q2, q3⟩
    refine ⟨q1, Nat.lt_of_lt_of_le q2 hg.size, ?_⟩
    rcases hat with e | e
    · rw [e]; exact q3
    · rw [e]; intro e'; cases e'; omega
  have hkp : Keeps (rowQ B w v) w w' := ⟨hg.size, fun b hb hq => hg.block b hb hq.2.2⟩
  refine ⟨css ++ [cs], by simpa [List.length_append] using how, by simp [h2], ?_, ?_⟩
  · intro c hc
    cases List.mem_append.1 hc with
    | inl h => exact h3 c h
    | inr h => simp at h; rw [h]; exact hk
  · intro i y c hy hc
    rcases Nat.lt_or_ge i l.length with hi | hi
    · rw [List.getElem?_append_left hi] at hy
      rw [List.getElem?_append_left (by omega)] at hc
      exact hP _ _ _ _ _ _ hq hkp (h4 i y c hy hc)
    · rw [List.getElem?_append_right hi] at hy
      rw [List.getElem?_append_right (by omega)] at hc
      have hz : i - l.length = 0 := by
        rcases Nat.eq_zero_or_pos (i - l.length) with h | h
        · exact h
        · obtain ⟨m, hm⟩ : ∃ m, i - l.length = m + 1 := ⟨i - l.length - 1, by omega⟩
          rw [hm] at hy; simp at hy
      rw [hz] at hy
      rw [h2, hz] at hc
      simp at hy hc
      subst hy
      subst hc
      exact hP _ _ _ _ _ _ hq hkp hx
/-- Other blocks may change. -/
theorem OwnRow.keep {A : Type} {B k : Nat} {ty : TypeId} {P : (Nat → Prop) → World → A → List Value → Prop} (hP : Firm P) {w w' : World} {v : Value} {l : List A} {r : Nat} (h : OwnRow B k ty P w v l) (hb : But r w w') (hr : r < B) : OwnRow B k ty P w' v l := by
  obtain ⟨css, h1, h2, h3, h4⟩ := h
  exact ⟨css, own_but h1 hb hr, h2, h3, fun i x cs hx hc => hP _ _ _ _ _ _ (fun b hq => ⟨hq.1, Nat.lt_of_lt_of_le hq.2.1 hb.size, hq.2.2⟩) ⟨hb.size, fun b hb' hq => hb.block b hb' (by have := hq.1; omega)⟩ (h4 i x cs hx hc)⟩
end Go.Proofs.YtkdngmhcfkfppaaGreatDoor

namespace Go.Proofs.YtkdngmhcfkfppaaGreatDoor
open Go.RowKit Go.Proofs

abbrev newB (B : Nat) : Nat → Prop := fun k => B ≤ k
theorem infoTst : (Tryz.prog.info? 39).map (fun i => (i.zero, i.size, i.bytes)) = some (some (.agg #[.int .i64 0, .int .i64 0, .int .i64 0, .slice none 0 0, .slice none 0 0, .bool false, .int .i64 0, .slice none 0 0]), 8, 112) := by kernel_rfl
abbrev OwnTs (B n : Nat) : World → Value → List Tst → Prop := OwnRow B 8 39 (fun Q w t cs => TstM Q n w t cs)
theorem eight (W : World) (cs : List Value) (t : TypeId) : ∀ (j : Nat) u, cs[j]? = some u → (W.alloc (.cells cs.toArray t)).cell? ((⟨W.heap.size, 0, none⟩ : Addr).add j) = some u := by
  intro j u hj
  rw [Addr.add_lit, Nat.zero_add]
  simp [hj]
theorem tst_len {Q : Nat → Prop} {n : Nat} {w : World} {t : Tst} {cs : List Value} (h : TstM Q n w t cs) : cs.length = 8 := by
  obtain ⟨_, _, _, _, _, _, _, _, rfl, _⟩ := tst_form h; rfl
theorem tst_one {Q : Nat → Prop} {n : Nat} {w : World} {t : Tst} {cs : List Value} (h : TstM Q n w t cs) : ∀ u ∈ cs, u.oneCell' = true := by
  obtain ⟨_, _, _, _, _, _, _, _, rfl, _⟩ := tst_form h
  intro u hu
  simp at hu
  rcases hu with rfl | rfl | rfl | rfl | rfl | rfl | rfl | rfl <;> rfl
theorem cell_of {w : World} {b : Nat} {cs : Array Value} {t : TypeId} {fr : Nat × Nat} (h : w.heap[b]? = some (.cells cs t fr)) (j : Nat) : w.cell? ⟨b, j, none⟩ = cs[j]? := by simp [World.cell?, h]
theorem infoCmd : (Tryz.prog.info? 65).map (fun i => (i.zero, i.size, i.bytes)) = some (some (.agg #[.int .i64 0, .slice none 0 0, .int .i64 0, .int .i64 0, .int .i64 0, .slice none 0 0, .slice none 0 0, .bool false, .int .i64 0, .slice none 0 0, .slice none 0 0, .slice none 0 0]), 12, 192) := by kernel_rfl
/-- A command as a call hands it back. -/
def CmdR (Q : Nat → Prop) (n : Nat) (c : Cmd) (w : World) (v : Value) : Prop := ∃ cs : List Value, v = .agg cs.toArray ∧ CmdM Q n w c cs
abbrev OwnCs (B n : Nat) : World → Value → List Cmd → Prop := OwnRow B 12 65 (fun Q w t cs => CmdM Q n w t cs)
theorem cmd_one {Q : Nat → Prop} {n : Nat} {w : World} {t : Cmd} {cs : List Value} (h : CmdM Q n w t cs) : ∀ u ∈ cs, u.oneCell' = true := by
  obtain ⟨_, _, _, _, _, _, _, _, _, _, _, _, _, _, rfl, _⟩ := cmd_form h
  intro u hu
  simp at hu
  rcases hu with rfl | rfl | rfl | rfl | rfl | rfl | rfl | rfl | rfl | rfl | rfl | rfl <;> rfl
theorem none_tst (Q : Nat → Prop) (n : Nat) (w : World) : TstM Q (n + 1) w noneT [.int .i64 0, .int .i64 0, .int .i64 0, .slice none 0 0, .slice none 0 0, .bool false, .int .i64 0, .slice none 0 0] := ⟨_, _, _, rfl, rowM_nil _ _ _ _ _ _, rowM_nil _ _ _ _ _ _, rowM_nil _ _ _ _ _ _⟩
end Go.Proofs.YtkdngmhcfkfppaaGreatDoor
