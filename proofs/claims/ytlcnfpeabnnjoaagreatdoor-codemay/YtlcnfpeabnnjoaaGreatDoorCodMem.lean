/-
  Ops in memory, and the writer of them: the walks.
-/
import Derived.Test.YtlcnfpeabnnjoaaGreatDoorCodPur
import Derived.Test.YtlcnfpeabnnjoaaGreatDoorGenMem
import Derived.Test.YtlcnfpeabnnjoaaGreatDoorAppCmd
import Derived.Deep.RegionLaw
import Derived.Deep.RegionHeld3
import Derived.Deep.DeepCutAuto
namespace Go.Proofs.YtlcnfpeabnnjoaaGreatDoor
open Go.RowKit Go.Proofs

/-- An op lies in 22 cells. -/
def OpM (Q : Nat → Prop) (w : World) (x : Opr) (cs : List Value) : Prop := ∃ ts ds, cs = .int .i64 x.kind :: .int .i64 x.to :: (ts ++ ds) ∧ TstM Q 1 w x.test ts ∧ CmdM Q 2 w x.what ds
theorem firm_op : Firm (fun Q w (x : Opr) cs => OpM Q w x cs) := fun _ _ _ _ _ _ hq hk h => by
  obtain ⟨ts, ds, e, h1, h2⟩ := h
  exact ⟨ts, ds, e, TstM.imp hq hk _ _ _ h1, CmdM.imp hq hk _ _ _ h2⟩
/-- .. and in no block that is to be left alone. -/
theorem firm_opX (X : Nat → Prop) : Firm (fun Q w (x : Opr) cs => OpM (fun p => Q p ∧ ¬ X p) w x cs) := fun _ _ _ _ _ _ hq hk h => firm_op _ _ _ _ _ _ (fun b hb => ⟨hq b hb.1, hb.2⟩) ⟨hk.size, fun b hb hQ => hk.block b hb hQ.1⟩ h
theorem op_len {Q : Nat → Prop} {w : World} {x : Opr} {cs : List Value} (h : OpM Q w x cs) : cs.length = 22 := by
  obtain ⟨ts, ds, rfl, h1, h2⟩ := h
  obtain ⟨_, _, _, _, _, _, _, _, rfl, _⟩ := tst_form h1
  obtain ⟨_, _, _, _, _, _, _, _, _, _, _, _, _, _, rfl, _⟩ := cmd_form h2
  rfl
theorem op_one {Q : Nat → Prop} {w : World} {x : Opr} {cs : List Value} (h : OpM Q w x cs) : ∀ u ∈ cs, u.oneCell' = true := by
  obtain ⟨ts, ds, rfl, h1, h2⟩ := h
  intro u hu
  simp only [List.mem_cons, List.mem_append] at hu
  rcases hu with rfl | rfl | hu | hu
  · rfl
  · rfl
  · exact tst_one h1 u hu
  · exact cmd_one h2 u hu
theorem infoOp : (Tryz.prog.info? 79).map (fun i => (i.zero, i.size, i.bytes)) = some (some (.agg #[.int .i64 0, .int .i64 0, .int .i64 0, .int .i64 0, .int .i64 0, .slice none 0 0, .slice none 0 0, .bool false, .int .i64 0, .slice none 0 0, .int .i64 0, .slice none 0 0, .int .i64 0, .int .i64 0, .int .i64 0, .slice none 0 0, .slice none 0 0, .bool false, .int .i64 0, .slice none 0 0, .slice none 0 0, .slice none 0 0]), 22, 320) := by kernel_rfl
abbrev OwnOs (X : Nat → Prop) (B : Nat) : World → Value → List Opr → Prop := OwnRow B 22 79 (fun Q w x cs => OpM (fun p => Q p ∧ ¬ X p) w x cs)
abbrev OpsM (Q : Nat → Prop) (w : World) (v : Value) (l : List Opr) : Prop := RowM Q 22 (OpM Q w) w v l
/-- A writer lies in a box; its ops in a row of its own, behind it. -/
def WrC (X : Nat → Prop) (w : World) (b : Nat) (acc : List Opr) : Prop := ∃ a k, w.heap[b]? = some (.cells #[.slice a acc.length k] 141) ∧ OwnOs X (b + 1) w (.slice a acc.length k) acc
def WrR (X : Nat → Prop) (w : World) (b : Nat) (acc : List Opr) (e : Ending) (w' : World) : Prop := (∃ v, e = .returned v) ∧ WrC X w' b acc ∧ Below b w w' ∧ FrC b w w'
theorem box1 {w : World} {p : Nat} {v0 : Value} {t : TypeId} (h : w.heap[p]? = some (.cells #[v0] t)) : w.cell? ⟨p, 0, none⟩ = some v0 ∧ w.frozen? ⟨p, 0, none⟩ = false := ⟨Box.cell h, Box.free h⟩
theorem rowC_one {w : World} {b : Nat} {v0 : Value} {t : TypeId} (h : w.heap[b]? = some (.cells #[v0] t)) : rowC w b = v0.ownBlock := by
  unfold rowC
  rw [(box1 h).1]; rfl
theorem WrC.grow {X : Nat → Prop} {w w' : World} {b : Nat} {acc : List Opr} (h : WrC X w b acc) (hb : Below w.heap.size w w') : WrC X w' b acc := by
  obtain ⟨a, k, h1, h2⟩ := h
  exact ⟨a, k, gm_low hb h1, OwnRow.next' (firm_opX X) h2 hb⟩
theorem WrC.lt {X : Nat → Prop} {w : World} {b : Nat} {acc : List Opr} (h : WrC X w b acc) : b < w.heap.size := by
  obtain ⟨a, k, h1, _⟩ := h
  exact (Array.getElem?_eq_some_iff.1 h1).1
theorem FrC.app1 {b g H m cap n k : Nat} {a : Option Addr} {w Wx w5 : World} {u0 : Value} {t t' : TypeId} (h0 : w.heap[b]? = some (.cells #[.slice a n k] t))
    (hal : ∀ p, p < w.heap.size → Wx.heap[p]? = w.heap[p]?) (hsz : w.heap.size ≤ Wx.heap.size) (hg : Wx.grownBy w5 (Value.slice a n k).ownBlock) (hat : (Value.slice a n k).ownBlock = some g ∨ g = H) (hH : w.heap.size ≤ H) (h5 : w5.heap[b]? = some (.cells #[u0] t')) :
    FrC b w (w5.setCell ⟨b, 0, none⟩ (.slice (some ⟨g, 0, none⟩) m cap)) := by
  have hr : rowC (w5.setCell ⟨b, 0, none⟩ (.slice (some ⟨g, 0, none⟩) m cap)) b = some g := by
    unfold rowC
    rw [World.cell?_setCell_same' w5 _ _ (by rw [(box1 h5).1]; rfl)]
    rfl
  refine ⟨by have h2 := hg.size; simp [World.setCell]; omega, fun p hp hn hq => ?_, ?_⟩
  · rw [rowC_one h0] at hq
    rw [Below.heap_setCell _ _ _ _ hn, hg.block p (Nat.lt_of_lt_of_le hp hsz) hq, hal p hp]
  · rw [hr, rowC_one h0]
    rcases hat with e | e
    · exact .inl e.symm
    · exact .inr ⟨g, rfl, by omega⟩
/-- Blocks in which what is handed to the writer may lie. -/
abbrev handQ (X : Nat → Prop) (w : World) (b : Nat) : Nat → Prop := fun p => (b < p ∧ p < w.heap.size ∧ some p ≠ rowC w b) ∧ ¬ X p
theorem OwnOs.set0 {X : Nat → Prop} {b : Nat} {w : World} {v u : Value} {l : List Opr} (h : OwnOs X (b + 1) w v l) : OwnOs X (b + 1) (w.setCell ⟨b, 0, none⟩ u) v l := OwnRow.keep (firm_opX X) h (But.set w u) (by omega)
end Go.Proofs.YtlcnfpeabnnjoaaGreatDoor
