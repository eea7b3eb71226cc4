/-
  Raw entries in memory, and states that step on: plain facts.
-/
import Derived.Test.YtkkkbggbeihbnaaDoorBoxAl
import Derived.Test.YtkkkbggbeihbnaaDoorBoxKp
namespace Go.Proofs.YtkkkbggbeihbnaaDoor
open Go.RowKit Go.Proofs

def chrC (c : Chr) : List Value := [.int .i64 c.kind, .int .i64 c.box, .int .i64 c.uid, .int .i64 c.flags, .int .i64 c.goal, .string c.text]
def ChrM (c : Chr) (cs : List Value) : Prop := cs = chrC c
def ChsM (Q : Nat → Prop) (w : World) (v : Value) (l : List Chr) : Prop := RowM Q 6 ChrM w v l
theorem ChsM.next {Q : Nat → Prop} {w w' : World} {v : Value} {l : List Chr} (h : ChsM Q w v l) (hb : Below w.heap.size w w') : ChsM Q w' v l := RowM.imp h (fun _ h => h) (Keeps.of_below hb) fun _ _ h => h
theorem ChsM.at {Q : Nat → Prop} {w : World} {a : Option Addr} {n c : Nat} {l : List Chr} (h : ChsM Q w (.slice a n c) l) {i : Nat} {x : Chr} (hx : l[i]? = some x) : ∃ b o, a = some ⟨b, o, none⟩ ∧ w.cell? ⟨b, o + i * 6, none⟩ = some (.int .i64 x.kind) ∧ w.cell? ⟨b, o + i * 6 + 1, none⟩ = some (.int .i64 x.box) ∧ w.cell? ⟨b, o + i * 6 + 2, none⟩ = some (.int .i64 x.uid) ∧ w.cell? ⟨b, o + i * 6 + 3, none⟩ = some (.int .i64 x.flags) ∧ w.cell? ⟨b, o + i * 6 + 4, none⟩ = some (.int .i64 x.goal) ∧ w.cell? ⟨b, o + i * 6 + 5, none⟩ = some (.string x.text) := by
  obtain ⟨a', c', hv, _, hr⟩ := h
  simp only [Value.slice.injEq] at hv
  obtain ⟨rfl, _, rfl⟩ := hv
  obtain ⟨b, o, cs, rfl, _, _, _, hc, hP⟩ := hr i x hx
  have hcs : cs = _ := hP
  subst hcs
  exact ⟨b, o, rfl, by simpa using hc 0 _ rfl, hc 1 _ rfl, hc 2 _ rfl, hc 3 _ rfl, hc 4 _ rfl, hc 5 _ rfl⟩
def AllR (w : World) (r : Except Int Stt) (vb vs : Value) (z : Int) (w' : World) : Prop := match r with
  | .error e => z = e ∧ vb = .slice none 0 0 ∧ vs = .slice none 0 0
  | .ok s' => z = 0 ∧ ∃ vm, OwnS w.heap.size w' vb vs vm s'
theorem AllP.form {w w' : World} {r : Except Int Stt} {e : Ending} (h : AllP w r e w') : ∃ a1 n1 c1 a2 n2 c2 z, e = .returned (.tuple #[.agg #[.slice a1 n1 c1, .slice a2 n2 c2], .int .i64 z]) ∧ AllR w r (.slice a1 n1 c1) (.slice a2 n2 c2) z w' := by
  obtain ⟨_, h⟩ := h
  cases r with
  | error z => exact ⟨none, 0, 0, none, 0, 0, z, h, rfl, rfl, rfl⟩
  | ok s' =>
    obtain ⟨vb, vs, vm, rfl, hO⟩ := h
    obtain ⟨a1, c1, rfl⟩ := own_slice hO.boxes
    obtain ⟨a2, c2, rfl⟩ := own_slice hO.spool
    exact ⟨_, _, _, _, _, _, _, rfl, rfl, vm, hO⟩
/-- What the next state lies in. -/
def NxP (wr : World) (r : Except Int Stt) (a b : Value) (wx : World) : Prop := ∃ pn a1 n1 c1 a2 n2 c2 z, a = .pointer (some ⟨pn, 0, none⟩) ∧ b = .int .i64 z ∧ wx.heap[pn]? = some (.cells #[.slice a1 n1 c1, .slice a2 n2 c2] 29) ∧ wr.heap.size ≤ pn ∧ Below wr.heap.size wr wx ∧ match r with
  | .error e => z = e
  | .ok s' => z = 0 ∧ ∃ vm, OwnS wr.heap.size wx (.slice a1 n1 c1) (.slice a2 n2 c2) vm s'
theorem nx_end {wr w3 wx u : World} {p n1 c1 n2 c2 : Nat} {a1 a2 : Option Addr} {r : Except Int Stt} {z : Int} (hw : wx.heap[p]? = some (.cells #[.slice a1 n1 c1, .slice a2 n2 c2] 29)) (hoth : ∀ k, k < w3.heap.size → k ≠ p → wx.heap[k]? = w3.heap[k]?) (hbel : Below wr.heap.size wr wx)
    (hR : AllR u r (.slice a1 n1 c1) (.slice a2 n2 c2) z w3) (hu : wr.heap.size ≤ u.heap.size) (hp : wr.heap.size ≤ p) (hpo : ∀ vm s', OwnS u.heap.size w3 (.slice a1 n1 c1) (.slice a2 n2 c2) vm s' → ¬ inS (.slice a1 n1 c1) (.slice a2 n2 c2) vm p) : NxP wr r (.pointer (some ⟨p, 0, none⟩)) (.int .i64 z) wx := by
  refine ⟨p, _, _, _, _, _, _, z, rfl, rfl, hw, hp, hbel, ?_⟩
  cases r with
  | error e => exact hR.1
  | ok s' =>
    obtain ⟨h0, vm, hO⟩ := hR
    exact ⟨h0, vm, (hO.base hu).keep fun k hk => hoth k (hO.lt hk).2 fun e => hpo vm s' hO (by rw [← e]; exact hk)⟩
/-- The state so far, in its variable. -/
def StI (q r0 : Nat) (w wr : World) (s : Stt) : Prop := ∃ ab nb cb ae ns cs, wr.heap[q]? = some (.cells #[.slice ab nb cb, .slice ae ns cs] 29) ∧ wr.heap[r0]? = some (.cells #[.slice none 0 0, .slice none 0 0] 29) ∧ SttM (fun k => k ≠ q ∧ k ≠ r0) wr (.slice ab nb cb) (.slice ae ns cs) s ∧ Below w.heap.size w wr
/-- What State hands back. -/
def StR (w : World) (s : Stt) (e : Ending) (w' : World) : Prop := ∃ a1 n1 c1 a2 n2 c2, e = .returned (.agg #[.slice a1 n1 c1, .slice a2 n2 c2]) ∧ SttM (fun _ => True) w' (.slice a1 n1 c1) (.slice a2 n2 c2) s ∧ Below w.heap.size w w'
theorem init_mem (w : World) (p q r0 : Nat) (h : w.heap[p]? = some (.cells #[.string ⟨#[73, 78, 66, 79, 88]⟩, .int .i64 1, .slice none 0 0] 65)) (hp : p ≠ q ∧ p ≠ r0) : SttM (fun k => k ≠ q ∧ k ≠ r0) w (.slice (some ⟨p, 0, none⟩) 1 1) (.slice none 0 0) initS := by
  refine ⟨⟨some ⟨p, 0, none⟩, 1, rfl, by simp [initS, maxLen], fun i y hy => ?_⟩, rowM_nil _ _ _ _ _ _, fun a n c e => by cases e; exact Nat.le_refl _⟩
  cases i with
  | succ i => simp [initS] at hy
  | zero =>
    simp [initS] at hy
    subst hy
    refine ⟨p, 0, boxC ⟨[73, 78, 66, 79, 88], 1, []⟩ (.slice none 0 0), rfl, (Array.getElem?_eq_some_iff.1 h).1, hp, rfl, fun j u hj => ?_, _, rfl, rowM_nil _ _ _ _ _ _⟩
    simp only [Nat.zero_mul, Nat.zero_add, World.cell?, h]
    simpa [boxC, S] using hj
theorem StI.step {q r0 : Nat} {w wr wx : World} {s s' : Stt} {pn n1 c1 n2 c2 : Nat} {a1 a2 : Option Addr} {vm : List Value} (h : StI q r0 w wr s) (hM : May s') (hb : Below wr.heap.size wr wx) (hO : OwnS wr.heap.size wx (.slice a1 n1 c1) (.slice a2 n2 c2) vm s') (hqr : q ≠ r0) (hw : w.heap.size ≤ q) (_hpn : wr.heap.size ≤ pn) :
    StI q r0 w ((wx.setCell ⟨q, 0, none⟩ (.slice a1 n1 c1)).setCell ⟨q, 1, none⟩ (.slice a2 n2 c2)) s' := by
  obtain ⟨ab, nb, cb, ae, ns, cs, h1, h2, _, h4⟩ := h
  have hql : q < wr.heap.size := (Array.getElem?_eq_some_iff.1 h1).1
  have hrl : r0 < wr.heap.size := (Array.getElem?_eq_some_iff.1 h2).1
  have hS := hO.stt (Q := fun k => k ≠ q ∧ k ≠ r0) hM (fun g hg => by have := (hO.lt hg).1; omega)
  refine ⟨a1, n1, c1, a2, n2, c2, set2_block (low_obj hb h1), (set_other hqr.symm).trans ((set_other hqr.symm).trans (low_obj hb h2)), hS.imp (fun _ h => h) ((Keeps.set wx (p := ⟨q, 0, none⟩) _ fun b hb => hb.1).trans (Keeps.set _ (p := ⟨q, 1, none⟩) _ fun b hb => hb.1)), ?_⟩
  exact (((h4.trans (hb.mono h4.size)).setCell hw _).setCell hw _)
theorem StI.same {q r0 : Nat} {w wr wx : World} {s : Stt} (h : StI q r0 w wr s) (hb : Below wr.heap.size wr wx) : StI q r0 w wx s := by
  obtain ⟨ab, nb, cb, ae, ns, cs, h1, h2, h3, h4⟩ := h
  exact ⟨ab, nb, cb, ae, ns, cs, low_obj hb h1, low_obj hb h2, h3.next hb, h4.trans (hb.mono h4.size)⟩
theorem ne_lt {a b : Nat} (h : a < b) : a ≠ b := Nat.ne_of_lt h
end Go.Proofs.YtkkkbggbeihbnaaDoor
