/-
  Tests and commands in memory: rows within rows. No function of the program is named here.
-/
import Derived.Test.YtkdngmhcfkfppaaGreatDoorScrPure
import Derived.Test.YtkdngmhcfkfppaaGreatDoorBut
import Derived.Laws.AppendOwn
namespace Go.Proofs.YtkdngmhcfkfppaaGreatDoor
open Go.RowKit

theorem hid {p : Prop} (h : p) : Hid p := h
/-- What lies in blocks that Q lets is as it was. -/
structure Keeps (Q : Nat → Prop) (w w' : World) : Prop where
  size : w.heap.size ≤ w'.heap.size
  block : ∀ b, b < w.heap.size → Q b → w'.heap[b]? = w.heap[b]?
theorem Keeps.refl (Q : Nat → Prop) (w : World) : Keeps Q w w := ⟨Nat.le_refl _, fun _ _ _ => rfl⟩
theorem Keeps.of_below {Q : Nat → Prop} {w w' : World} (h : Below w.heap.size w w') : Keeps Q w w' := ⟨h.size, fun b hb _ => h.block b hb⟩
theorem Keeps.of_below' {Q : Nat → Prop} {w w' : World} {B : Nat} (h : Below B w w') (hq : ∀ b, Q b → b < B) : Keeps Q w w' := ⟨h.size, fun b _ hb => h.block b (hq b hb)⟩
theorem Keeps.of_but {Q : Nat → Prop} {w w' : World} {r : Nat} (h : But r w w') (hq : ∀ b, Q b → b ≠ r) : Keeps Q w w' := ⟨h.size, fun b hb hQ => h.block b hb (hq b hQ)⟩
theorem Keeps.of_grown {Q : Nat → Prop} {w w' : World} {r : Option Nat} (h : w.grownBy w' r) (hq : ∀ b, Q b → some b ≠ r) : Keeps Q w w' := ⟨h.size, fun b hb hQ => h.block b hb (hq b hQ)⟩
theorem Keeps.trans {Q : Nat → Prop} {x y z : World} (h : Keeps Q x y) (k : Keeps Q y z) : Keeps Q x z :=
  ⟨Nat.le_trans h.size k.size, fun b hb hQ => (k.block b (Nat.lt_of_lt_of_le hb h.size) hQ).trans (h.block b hb hQ)⟩
theorem Keeps.set {Q : Nat → Prop} (w : World) {p : Addr} (v : Value) (hq : ∀ b, Q b → b ≠ p.block) : Keeps Q w (w.setCell p v) :=
  ⟨by simp [World.setCell], fun b _ hQ => Below.heap_setCell _ _ _ _ (hq b hQ)⟩
theorem Keeps.more {Q : Nat → Prop} {w w' : World} (h : Keeps Q w w') (o : Obj) : Keeps Q w (w'.alloc o) :=
  ⟨by have := h.size; simp; omega, fun b hb hQ => ((show (w'.alloc o).heap[b]? = w'.heap[b]? by show (w'.heap.push o)[b]? = _; rw [Array.getElem?_push_lt (Nat.lt_of_lt_of_le hb h.size), Array.getElem?_eq_getElem (Nat.lt_of_lt_of_le hb h.size)])).trans (h.block b hb hQ)⟩

/-- A row of things of so many cells each, in blocks that Q lets. -/
def RowM {A : Type} (Q : Nat → Prop) (k : Nat) (P : A → List Value → Prop) (w : World) (v : Value) (l : List A) : Prop :=
  ∃ a c, v = .slice a l.length c ∧ l.length ≤ maxLen ∧ ∀ (i : Nat) (x : A), l[i]? = some x → ∃ b o cs, a = some ⟨b, o, none⟩ ∧ b < w.heap.size ∧ Q b ∧ cs.length = k ∧ (∀ (j : Nat) u, cs[j]? = some u → w.cell? ⟨b, o + i * k + j, none⟩ = some u) ∧ P x cs
def TxtM (x : List UInt8) (cs : List Value) : Prop := cs = [.string (S x)]
def TxtsM (Q : Nat → Prop) (w : World) (v : Value) (l : List (List UInt8)) : Prop := RowM Q 1 TxtM w v l
def TstM (Q : Nat → Prop) : Nat → World → Tst → List Value → Prop
  | 0, _, _, _ => False
  | n + 1, w, t, cs => ∃ vn vk vt, cs = [.int .i64 t.kind, .int .i64 t.mat, .int .i64 t.part, vn, vk, .bool t.over, .int .i64 t.limit, vt] ∧ TxtsM Q w vn t.names ∧ TxtsM Q w vk t.keys ∧ RowM Q 8 (TstM Q n w) w vt t.tests
def CmdM (Q : Nat → Prop) : Nat → World → Cmd → List Value → Prop
  | 0, _, _, _ => False
  | n + 1, w, c, cs => ∃ vx vn vk vt va ve, cs = [.int .i64 c.kind, vx, .int .i64 c.test.kind, .int .i64 c.test.mat, .int .i64 c.test.part, vn, vk, .bool c.test.over, .int .i64 c.test.limit, vt, va, ve] ∧ TxtsM Q w vx c.texts ∧
      TstM Q n w c.test [.int .i64 c.test.kind, .int .i64 c.test.mat, .int .i64 c.test.part, vn, vk, .bool c.test.over, .int .i64 c.test.limit, vt] ∧ RowM Q 12 (CmdM Q n w) w va c.thn ∧ RowM Q 12 (CmdM Q n w) w ve c.els
abbrev TstsM (Q : Nat → Prop) (n : Nat) (w : World) (v : Value) (l : List Tst) : Prop := RowM Q 8 (TstM Q n w) w v l
abbrev CmdsM (Q : Nat → Prop) (n : Nat) (w : World) (v : Value) (l : List Cmd) : Prop := RowM Q 12 (CmdM Q n w) w v l

theorem RowM.imp {A : Type} {Q Q' : Nat → Prop} {k : Nat} {P P' : A → List Value → Prop} {w w' : World} {v : Value} {l : List A} (h : RowM Q k P w v l) (hq : ∀ b, Q b → Q' b) (hk : Keeps Q w w') (hp : ∀ x cs, P x cs → P' x cs) : RowM Q' k P' w' v l := by
  obtain ⟨a, c, hv, hm, hx⟩ := h
  refine ⟨a, c, hv, hm, fun i x hi => ?_⟩
  obtain ⟨b, o, cs, ha, hb, hQ, hl, hc, hP⟩ := hx i x hi
  exact ⟨b, o, cs, ha, Nat.lt_of_lt_of_le hb hk.size, hq b hQ, hl, fun j u hj => (World.cell?_of_block (hk.block b hb hQ)).trans (hc j u hj), hp x cs hP⟩
theorem TxtsM.imp {Q Q' : Nat → Prop} {w w' : World} {v : Value} {l : List (List UInt8)} (h : TxtsM Q w v l) (hq : ∀ b, Q b → Q' b) (hk : Keeps Q w w') : TxtsM Q' w' v l := RowM.imp h hq hk fun _ _ h => h
theorem TstM.imp {Q Q' : Nat → Prop} {w w' : World} (hq : ∀ b, Q b → Q' b) (hk : Keeps Q w w') : ∀ (n : Nat) (t : Tst) (cs : List Value), TstM Q n w t cs → TstM Q' n w' t cs := by
  intro n
  induction n with
  | zero => intro t cs h; exact h
  | succ n ih =>
    intro t cs h
    obtain ⟨vn, vk, vt, h0, h1, h2, h3⟩ := h
    exact ⟨vn, vk, vt, h0, h1.imp hq hk, h2.imp hq hk, RowM.imp h3 hq hk ih⟩
theorem CmdM.imp {Q Q' : Nat → Prop} {w w' : World} (hq : ∀ b, Q b → Q' b) (hk : Keeps Q w w') : ∀ (n : Nat) (c : Cmd) (cs : List Value), CmdM Q n w c cs → CmdM Q' n w' c cs := by
  intro n
  induction n with
  | zero => intro t cs h; exact h
  | succ n ih =>
    intro t cs h
    obtain ⟨vx, vn, vk, vt, va, ve, h0, h1, h2, h3, h4⟩ := h
    exact ⟨vx, vn, vk, vt, va, ve, h0, h1.imp hq hk, TstM.imp hq hk _ _ _ h2, RowM.imp h3 hq hk ih, RowM.imp h4 hq hk ih⟩
theorem TstM.more {Q : Nat → Prop} {w : World} : ∀ (n m : Nat) (t : Tst) (cs : List Value), n ≤ m → TstM Q n w t cs → TstM Q m w t cs := by
  intro n
  induction n with
  | zero => intro m t cs _ h; exact h.elim
  | succ n ih =>
    intro m t cs hm h
    obtain ⟨vn, vk, vt, h0, h1, h2, h3⟩ := h
    cases m with
    | zero => omega
    | succ m => exact ⟨vn, vk, vt, h0, h1, h2, RowM.imp h3 (fun _ h => h) (Keeps.refl _ _) fun x cs h => ih m x cs (by omega) h⟩
theorem CmdM.more {Q : Nat → Prop} {w : World} : ∀ (n m : Nat) (t : Cmd) (cs : List Value), n ≤ m → CmdM Q n w t cs → CmdM Q m w t cs := by
  intro n
  induction n with
  | zero => intro m t cs _ h; exact h.elim
  | succ n ih =>
    intro m t cs hm h
    obtain ⟨vx, vn, vk, vt, va, ve, h0, h1, h2, h3, h4⟩ := h
    cases m with
    | zero => omega
    | succ m => exact ⟨vx, vn, vk, vt, va, ve, h0, h1, TstM.more _ _ _ _ (by omega) h2, RowM.imp h3 (fun _ h => h) (Keeps.refl _ _) (fun x cs h => ih m x cs (by omega) h), RowM.imp h4 (fun _ h => h) (Keeps.refl _ _) fun x cs h => ih m x cs (by omega) h⟩
abbrev anyB : Nat → Prop := fun _ => True
theorem TstM.next {Q : Nat → Prop} {n : Nat} {w w' : World} {t : Tst} {cs : List Value} (h : TstM Q n w t cs) (hb : Below w.heap.size w w') : TstM Q n w' t cs := TstM.imp (fun _ h => h) (Keeps.of_below hb) _ _ _ h
theorem CmdM.next {Q : Nat → Prop} {n : Nat} {w w' : World} {c : Cmd} {cs : List Value} (h : CmdM Q n w c cs) (hb : Below w.heap.size w w') : CmdM Q n w' c cs := CmdM.imp (fun _ h => h) (Keeps.of_below hb) _ _ _ h
theorem TstsM.next {Q : Nat → Prop} {n : Nat} {w w' : World} {v : Value} {l : List Tst} (h : TstsM Q n w v l) (hb : Below w.heap.size w w') : TstsM Q n w' v l := RowM.imp h (fun _ h => h) (Keeps.of_below hb) fun _ _ h => TstM.next h hb
theorem CmdsM.next {Q : Nat → Prop} {n : Nat} {w w' : World} {v : Value} {l : List Cmd} (h : CmdsM Q n w v l) (hb : Below w.heap.size w w') : CmdsM Q n w' v l := RowM.imp h (fun _ h => h) (Keeps.of_below hb) fun _ _ h => CmdM.next h hb
theorem TxtsM.next {Q : Nat → Prop} {w w' : World} {v : Value} {l : List (List UInt8)} (h : TxtsM Q w v l) (hb : Below w.heap.size w w') : TxtsM Q w' v l := h.imp (fun _ h => h) (Keeps.of_below hb)
theorem RowM.slice {A : Type} {Q : Nat → Prop} {k : Nat} {P : A → List Value → Prop} {w : World} {v : Value} {l : List A} (h : RowM Q k P w v l) : ∃ a c, v = .slice a l.length c := by
  obtain ⟨a, c, hv, _⟩ := h; exact ⟨a, c, hv⟩
theorem rowM_nil {A : Type} (Q : Nat → Prop) (k : Nat) (P : A → List Value → Prop) (w : World) (a : Option Addr) (c : Nat) : RowM Q k P w (.slice a 0 c) ([] : List A) := ⟨a, c, rfl, by simp, fun i x h => by simp at h⟩
theorem RowM.small {A : Type} {Q : Nat → Prop} {k : Nat} {P : A → List Value → Prop} {w : World} {v : Value} {l : List A} (h : RowM Q k P w v l) : l.length ≤ maxLen := by
  obtain ⟨_, _, _, hm, _⟩ := h; exact hm
/-- The value of a test, and of a command. -/
def tstV (t : Tst) (vn vk vt : Value) : Value := .agg #[.int .i64 t.kind, .int .i64 t.mat, .int .i64 t.part, vn, vk, .bool t.over, .int .i64 t.limit, vt]
/-- A test lies below a value. -/
def TstV (Q : Nat → Prop) (n : Nat) (w : World) (t : Tst) (v : Value) : Prop := ∃ vn vk vt, v = tstV t vn vk vt ∧ TstM Q n w t [.int .i64 t.kind, .int .i64 t.mat, .int .i64 t.part, vn, vk, .bool t.over, .int .i64 t.limit, vt]
def cmdV (c : Cmd) (vx vn vk vt va ve : Value) : Value := .agg #[.int .i64 c.kind, vx, .int .i64 c.test.kind, .int .i64 c.test.mat, .int .i64 c.test.part, vn, vk, .bool c.test.over, .int .i64 c.test.limit, vt, va, ve]
end Go.Proofs.YtkdngmhcfkfppaaGreatDoor
