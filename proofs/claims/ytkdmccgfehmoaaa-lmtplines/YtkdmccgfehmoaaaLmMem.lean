/-
  Addresses and texts in memory, for sessions: where they lie, and how they are found.
-/
import Derived.Test.YtkdmccgfehmoaaaLmPur
import Derived.Test.YtkdmccgfehmoaaaScrMem
import Derived.Test.YtkdmccgfehmoaaaRowGen
import Derived.Test.YtkdmccgfehmoaaaTxt
import Derived.Test.YtkdmccgfehmoaaaRows
import Derived.WalkKit
import Derived.Laws.StructEq
import Derived.Lib.SliceRun
import Derived.Deep.AppendLies
namespace Go.Proofs.Ytkdmccgfehmoaaa
open Go.RowKit Go.Proofs

theorem lm_ne {a b : ByteArray} (h : ¬ a = b) : (a.toList == b.toList) = false := by
  rw [beq_eq_false_iff_ne]
  intro e
  rw [Lib.toList_data, Lib.toList_data] at e
  apply h
  obtain ⟨⟨x⟩⟩ := a
  obtain ⟨⟨y⟩⟩ := b
  simp only at e
  rw [e]
theorem lm_eq (a : ByteArray) : (a.toList == a.toList) = true := by simp
theorem lm_beq (a b : List UInt8) : ((S a).toList == (S b).toList) = decide (a = b) := by
  by_cases h : a = b
  · subst h; simp
  · rw [lm_ne fun e => h (S_inj e)]; simp [h]
set_option maxHeartbeats 2000000 in
set_option maxRecDepth 100000 in
/-- Two addresses held against each other. -/
theorem adr_eql (x y : Adr) (w : World) : (binOp .eql 23 (.agg #[.string (S x.1), .string (S x.2)]) (.agg #[.string (S y.1), .string (S y.2)])).run Try.prog w = .ok (.bool (decide (x = y))) w := by
  obtain ⟨a, b⟩ := x
  obtain ⟨c, d⟩ := y
  by_cases h1 : a = c
  · subst h1
    have e1 := lm_eq (S a)
    by_cases h2 : b = d
    · subst h2
      have e2 := lm_eq (S b)
      simp [go_sem, *]
    · have e2 : ((S b).toList == (S d).toList) = false := lm_ne fun e => h2 (S_inj e)
      have e3 : decide ((a, b) = (a, d)) = false := by simp [h2]
      clear h2
      simp only [e3]
      simp [go_sem, *]
  · have e1 : ((S a).toList == (S c).toList) = false := lm_ne fun e => h1 (S_inj e)
    have e3 : decide ((a, b) = (c, d)) = false := by simp [h1]
    clear h1
    simp only [e3]
    simp [go_sem, *]

def AdrM (x : Adr) (cs : List Value) : Prop := cs = [.string (S x.1), .string (S x.2)]
/-- Addresses lie in a row. -/
def AdrsM (Q : Nat → Prop) (w : World) (v : Value) (l : List Adr) : Prop := RowM Q 2 AdrM w v l
def cellsL (l : List Adr) : List Value := (l.map fun x => [Value.string (S x.1), .string (S x.2)]).flatten
/-- A row of addresses that was made from a block on. -/
def OwnL (w : World) (B : Nat) (v : Value) (l : List Adr) : Prop := w.ownsRow B 23 2 v l.length (cellsL l)
theorem adr_get {Q : Nat → Prop} {w : World} {a : Option Addr} {c : Nat} {l : List Adr} (h : AdrsM Q w (.slice a l.length c) l) {i : Nat} {x : Adr} (hx : l[i]? = some x) :
    ∃ b o, a = some ⟨b, o, none⟩ ∧ b < w.heap.size ∧ Q b ∧ w.cell? ⟨b, o + i * 2, none⟩ = some (.string (S x.1)) ∧ w.cell? ⟨b, o + i * 2 + 1, none⟩ = some (.string (S x.2)) := by
  obtain ⟨a', c', hv, _, hr⟩ := h
  simp only [Value.slice.injEq, true_and] at hv
  obtain ⟨rfl, rfl⟩ := hv
  obtain ⟨b, o, cs, rfl, hb, hQ, _, hc, hP⟩ := hr i x hx
  have hcs : cs = _ := hP
  subst hcs
  exact ⟨b, o, rfl, hb, hQ, by simpa using hc 0 _ rfl, by simpa using hc 1 _ rfl⟩
theorem txt_get {Q : Nat → Prop} {w : World} {a : Option Addr} {c : Nat} {l : List (List UInt8)} (h : TxtsM Q w (.slice a l.length c) l) {i : Nat} {x : List UInt8} (hx : l[i]? = some x) :
    ∃ b o, a = some ⟨b, o, none⟩ ∧ b < w.heap.size ∧ Q b ∧ w.cell? ⟨b, o + i, none⟩ = some (.string (S x)) := by
  obtain ⟨a', c', hv, _, hr⟩ := h
  simp only [Value.slice.injEq, true_and] at hv
  obtain ⟨rfl, rfl⟩ := hv
  obtain ⟨b, o, cs, rfl, hb, hQ, _, hc, hP⟩ := hr i x hx
  have hcs : cs = _ := hP
  subst hcs
  exact ⟨b, o, rfl, hb, hQ, by simpa using hc 0 _ rfl⟩
theorem AdrsM.next {Q : Nat → Prop} {w w' : World} {v : Value} {l : List Adr} (h : AdrsM Q w v l) (hb : Below w.heap.size w w') : AdrsM Q w' v l := RowM.imp h (fun _ h => h) (Keeps.of_below hb) fun _ _ h => h
theorem AdrsM.any {Q : Nat → Prop} {w : World} {v : Value} {l : List Adr} (h : AdrsM Q w v l) : AdrsM anyB w v l := RowM.imp h (fun _ _ => trivial) (Keeps.refl _ _) fun _ _ h => h
theorem TxtsM.nextB {w w' : World} {v : Value} {n : Nat} {l : List (List UInt8)} (h : TxtsM (· < n) w v l) (hb : Below n w w') : TxtsM (· < n) w' v l := TxtsM.imp h (fun _ h => h) (Keeps.of_below' hb fun _ h => h)
theorem AdrsM.same {Q : Nat → Prop} {w w' : World} {v : Value} {l : List Adr} (h : AdrsM Q w v l) (he : w'.heap = w.heap) : AdrsM Q w' v l := RowM.imp h (fun _ h => h) ⟨by rw [he]; exact Nat.le_refl _, fun _ _ _ => by rw [he]⟩ fun _ _ h => h
theorem lm_same {w w' : World} {p : Addr} {x : Option Value} (h : w.cell? p = x) (he : w'.heap = w.heap) : w'.cell? p = x := (World.cell?_of_block (w := w) (by rw [he])).trans h
theorem cellsL_length (l : List Adr) : (cellsL l).length = l.length * 2 := by
  induction l with
  | nil => rfl
  | cons x l ih => simp only [cellsL, List.map_cons, List.flatten_cons, List.length_append, List.length_cons, List.length_nil] at *; omega
theorem cellsL_snoc (l : List Adr) (x : Adr) : cellsL (l ++ [x]) = cellsL l ++ [.string (S x.1), .string (S x.2)] := by simp [cellsL]
theorem cellsL_get {l : List Adr} {i : Nat} {x : Adr} (h : l[i]? = some x) : (cellsL l)[i * 2]? = some (.string (S x.1)) ∧ (cellsL l)[i * 2 + 1]? = some (.string (S x.2)) := by
  induction l generalizing i with
  | nil => simp at h
  | cons g l ih =>
    cases i with
    | zero => simp at h; subst h; simp [cellsL]
    | succ i =>
      have := ih (i := i) (by simpa using h)
      have e1 : (i + 1) * 2 = i * 2 + 2 := by omega
      rw [e1]
      simpa [cellsL] using this
theorem OwnL.slice {w : World} {B : Nat} {v : Value} {l : List Adr} (h : OwnL w B v l) : ∃ a c, v = .slice a l.length c := by
  rcases h.2 with ⟨rfl, hn⟩ | ⟨g, cap, cur, rfl, _⟩
  · exact ⟨none, 0, by rw [hn]⟩
  · exact ⟨_, _, rfl⟩
theorem OwnL.row {w : World} {B : Nat} {v : Value} {l : List Adr} (h : OwnL w B v l) (hm : l.length ≤ maxLen) : AdrsM (B ≤ ·) w v l := by
  obtain ⟨a, c, rfl⟩ := h.slice
  refine ⟨a, c, rfl, hm, fun i x hx => ?_⟩
  have hi : i < l.length := (List.getElem?_eq_some_iff.1 hx).1
  obtain ⟨g, cap, e, hb, hg⟩ := World.ownsRow.form h (by omega)
  simp only [Value.slice.injEq, true_and] at e
  obtain ⟨rfl, rfl⟩ := e
  obtain ⟨h1, h2⟩ := cellsL_get hx
  refine ⟨g, 0, _, rfl, hg, hb, rfl, ?_, rfl⟩
  intro j u hj
  match j, hj with
  | 0, hj =>
    simp only [List.getElem?_cons_zero, Option.some.injEq] at hj
    subst hj
    rw [show 0 + i * 2 + 0 = i * 2 by omega, World.ownsRow.cellAt h (i * 2) (by omega)]; exact h1
  | 1, hj =>
    simp only [List.getElem?_cons_succ, List.getElem?_cons_zero, Option.some.injEq] at hj
    subst hj
    rw [show 0 + i * 2 + 1 = i * 2 + 1 by omega, World.ownsRow.cellAt h (i * 2 + 1) (by omega)]; exact h2
theorem OwnL.nil (w : World) (B : Nat) : OwnL w B (.slice none 0 0) [] := World.ownsRow_nil _ _ _ _
end Go.Proofs.Ytkdmccgfehmoaaa
