/-
  Rows that a call makes, of things that have rows of their own: what is appended stays what it is. No function of the program is named here.
-/
import Derived.Test.YtbdpfoidhffalaaDoorScrBuild
import Derived.Deep.AppendLies
namespace Go.Proofs.YtbdpfoidhffalaaDoor
open Go.RowKit Go.Proofs

theorem RowM.both {A : Type} {Q : Nat → Prop} {k : Nat} {P P' : A → List Value → Prop} {w : World} {v : Value} {l : List A} (h : RowM Q k P w v l) (hp : ∀ x cs, P x cs → P' x cs) : RowM (fun b => Q b ∧ b < w.heap.size) k P' w v l := by
  obtain ⟨a, c, hv, hm, hx⟩ := h
  refine ⟨a, c, hv, hm, fun i x hi => ?_⟩
  obtain ⟨b, o, cs, ha, hb, hq, hl, hc, hP⟩ := hx i x hi
  exact ⟨b, o, cs, ha, hb, ⟨hq, hb⟩, hl, hc, hp x cs hP⟩
theorem TstM.both {Q : Nat → Prop} {w : World} : ∀ (n : Nat) (t : Tst) (cs : List Value), TstM Q n w t cs → TstM (fun b => Q b ∧ b < w.heap.size) n w t cs := by
  intro n
  induction n with
  | zero => intro t cs h; exact h
  | succ n ih =>
    intro t cs h
    obtain ⟨vn, vk, vt, h0, h1, h2, h3⟩ := h
    exact ⟨vn, vk, vt, h0, RowM.both h1 fun _ _ h => h, RowM.both h2 fun _ _ h => h, RowM.both h3 ih⟩
theorem CmdM.both {Q : Nat → Prop} {w : World} : ∀ (n : Nat) (t : Cmd) (cs : List Value), CmdM Q n w t cs → CmdM (fun b => Q b ∧ b < w.heap.size) n w t cs := by
  intro n
  induction n with
  | zero => intro t cs h; exact h
  | succ n ih =>
    intro t cs h
    obtain ⟨vx, vn, vk, vt, va, ve, h0, h1, h2, h3, h4⟩ := h
    exact ⟨vx, vn, vk, vt, va, ve, h0, RowM.both h1 fun _ _ h => h, TstM.both _ _ _ h2, RowM.both h3 ih, RowM.both h4 ih⟩
abbrev newB' (B : Nat) : Nat → Prop := fun k => B ≤ k
/-- What a thing is in memory: it bears a change of all blocks that it does not lie in. -/
def Firm {A : Type} (P : (Nat → Prop) → World → A → List Value → Prop) : Prop := ∀ (Q Q' : Nat → Prop) (w w' : World) (x : A) (cs : List Value), (∀ b, Q b → Q' b) → Keeps Q w w' → P Q w x cs → P Q' w' x cs
theorem firm_tst (n : Nat) : Firm (fun Q w (t : Tst) cs => TstM Q n w t cs) := fun _ _ _ _ _ _ hq hk h => TstM.imp hq hk _ _ _ h
theorem firm_cmd (n : Nat) : Firm (fun Q w (t : Cmd) cs => CmdM Q n w t cs) := fun _ _ _ _ _ _ hq hk h => CmdM.imp hq hk _ _ _ h
abbrev rowQ (B : Nat) (w : World) (v : Value) : Nat → Prop := fun b => B ≤ b ∧ b < w.heap.size ∧ some b ≠ v.ownBlock
def OwnRow {A : Type} (B k : Nat) (ty : TypeId) (P : (Nat → Prop) → World → A → List Value → Prop) (w : World) (v : Value) (l : List A) : Prop :=
  ∃ css : List (List Value), w.ownsRow B ty k v l.length css.flatten ∧ css.length = l.length ∧ (∀ cs ∈ css, cs.length = k) ∧ ∀ (i : Nat) (x : A) (cs : List Value), l[i]? = some x → css[i]? = some cs → P (rowQ B w v) w x cs
theorem flatten_at {k : Nat} : ∀ {css : List (List Value)} {i j : Nat} {cs : List Value}, (∀ c ∈ css, c.length = k) → css[i]? = some cs → j < k → css.flatten[i * k + j]? = cs[j]? := by
  intro css
  induction css with
  | nil => intro i j cs _ h _; simp at h
  | cons c css ih =>
    intro i j cs hk h hj
    have hc : c.length = k := hk c (by simp)
    cases i with
    | zero =>
      simp at h
      subst h
      simp only [Nat.zero_mul, Nat.zero_add, List.flatten_cons]
      rw [List.getElem?_append_left (by omega)]
    | succ i =>
      have := ih (j := j) (fun c hc => hk c (by simp [hc])) (by simpa using h) hj
      simp only [List.flatten_cons]
      rw [List.getElem?_append_right (by rw [hc, Nat.add_mul]; omega), ← this]
      congr 1
      rw [hc, Nat.add_mul]
      omega
theorem OwnRow.any {A : Type} {B k : Nat} {ty : TypeId} {P : (Nat → Prop) → World → A → List Value → Prop} {w : World} {v : Value} {l : List A} (h : OwnRow B k ty P w v l) : ∃ a c, v = .slice a l.length c := by
  obtain ⟨css, h1, _⟩ := h
  rcases h1.2 with ⟨rfl, hn⟩ | ⟨g, cap, cur, rfl, _⟩
  · exact ⟨none, 0, by rw [hn]⟩
  · exact ⟨_, _, rfl⟩
theorem OwnRow.rowM {A : Type} {B k : Nat} {ty : TypeId} {P : (Nat → Prop) → World → A → List Value → Prop} (hP : Firm P) {w : World} {v : Value} {l : List A} (h : OwnRow B k ty P w v l) (hm : l.length ≤ maxLen) : RowM (newB' B) k (P (newB' B) w) w v l := by
  obtain ⟨css, h1, h2, h3, h4⟩ := h
  rcases h1.2 with ⟨rfl, hn⟩ | ⟨g, cap, cur, rfl, hb, hg, hcap, hcm, hcs, htk⟩
  · have : l = [] := List.length_eq_zero_iff.1 hn
    subst this
    exact rowM_nil _ _ _ _ _ _
  · refine ⟨some ⟨g, 0, none⟩, cap, rfl, hm, fun i x hx => ?_⟩
    have hi : i < l.length := (List.getElem?_eq_some_iff.1 hx).1
    obtain ⟨cs, hcs'⟩ : ∃ cs, css[i]? = some cs := ⟨_, List.getElem?_eq_getElem (by omega)⟩
    refine ⟨g, 0, cs, rfl, (Array.getElem?_eq_some_iff.1 hg).1, hb, h3 cs (List.mem_of_getElem? hcs'), fun j u hj => ?_, hP _ _ _ _ _ _ (fun b hb => hb.1) (Keeps.refl _ _) (h4 i x cs hx hcs')⟩
    have hjk : j < k := by rw [← h3 cs (List.mem_of_getElem? hcs')]; exact (List.getElem?_eq_some_iff.1 hj).1
    have := World.ownsRow.cells h1 (g := g) rfl (i * k + j) u (by rw [flatten_at h3 hcs' hjk]; exact hj)
    rw [Addr.add_lit] at this
    simpa [Nat.add_assoc] using this
theorem OwnRow.nil {A : Type} (B k : Nat) (ty : TypeId) (P : (Nat → Prop) → World → A → List Value → Prop) (w : World) : OwnRow B k ty P w (.slice none 0 0) ([] : List A) :=
  ⟨[], by simpa using World.ownsRow_nil w B ty k, rfl, (fun cs h => by cases h), (fun i x cs h => by simp at h)⟩
/-- One more. -/
theorem OwnRow.more {A : Type} {B k : Nat} {ty : TypeId} {P : (Nat → Prop) → World → A → List Value → Prop} (hP : Firm P) {w w' : World} {v v' : Value} {l : List A} {x : A} {cs : List Value} {css : List (List Value)} {H : Nat}
    (h2 : css.length = l.length) (h3 : ∀ cs ∈ css, cs.length = k) (h4 : ∀ (i : Nat) (x : A) (cs : List Value), l[i]? = some x → css[i]? = some cs → P (rowQ B w v) w x cs)
    (hx : P (rowQ B w v) w x cs) (hk : cs.length = k) (how : w'.ownsRow B ty k v' (l.length + 1) (css.flatten ++ cs)) (hg : w.grownBy w' v.ownBlock) (hat : v'.ownBlock = v.ownBlock ∨ v'.ownBlock = some H) (hH : w.heap.size ≤ H) : OwnRow B k ty P w' v' (l ++ [x]) := by
  have hq : ∀ b, rowQ B w v b → rowQ B w' v' b := by
    rintro b ⟨q1, q2, q3⟩
    refine ⟨q1, Nat.lt_of_lt_of_le q2 hg.size, ?_⟩
    rcases hat with e | e
    · rw [e]; exact q3
    · rw [e]; intro e'; cases e'; omega
  have hkp : Keeps (rowQ B w v) w w' := ⟨hg.size, fun b hb hq => hg.block b hb hq.2.2⟩
  refine ⟨css ++ [cs], by simpa [List.length_append] using how, by simp [h2], ?_, ?_⟩
  · intro c hc
    cases List.mem_append.1 hc with
    | inl h => exact h3 c h
    | inr h => simp at h; rw [h]; exact hk
  · intro i y c hy hc
    rcases Nat.lt_or_ge i l.length with hi | hi
    · rw [List.getElem?_append_left hi] at hy
      rw [List.getElem?_append_left (by omega)] at hc
      exact hP _ _ _ _ _ _ hq hkp (h4 i y c hy hc)
    · rw [List.getElem?_append_right hi] at hy
      rw [List.getElem?_append_right (by omega)] at hc
      have hz : i - l.length = 0 := by
        rcases Nat.eq_zero_or_pos (i - l.length) with h | h
        · exact h
        · obtain ⟨m, hm⟩ : ∃ m, i - l.length = m + 1 := ⟨i - l.length - 1, by omega⟩
          rw [hm] at hy; simp at hy
      rw [hz] at hy
      rw [h2, hz] at hc
      simp at hy hc
      subst hy
      subst hc
      exact hP _ _ _ _ _ _ hq hkp hx
/-- Other blocks may change. -/
theorem OwnRow.keep {A : Type} {B k : Nat} {ty : TypeId} {P : (Nat → Prop) → World → A → List Value → Prop} (hP : Firm P) {w w' : World} {v : Value} {l : List A} {r : Nat} (h : OwnRow B k ty P w v l) (hb : But r w w') (hr : r < B) : OwnRow B k ty P w' v l := by
  obtain ⟨css, h1, h2, h3, h4⟩ := h
  exact ⟨css, own_but h1 hb hr, h2, h3, fun i x cs hx hc => hP _ _ _ _ _ _ (fun b hq => ⟨hq.1, Nat.lt_of_lt_of_le hq.2.1 hb.size, hq.2.2⟩) ⟨hb.size, fun b hb' hq => hb.block b hb' (by have := hq.1; omega)⟩ (h4 i x cs hx hc)⟩
end Go.Proofs.YtbdpfoidhffalaaDoor
