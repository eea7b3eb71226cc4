
/-
  How an argument that holds fields is read: a slice of pairs of texts; a message; and how great it can be where its bulk is bounded.
  How an argument that holds raw lines is read; what the message that is made of them is.
-/
import Derived.Test.YtkciflocpelhiaaGreatDoorLetPar
import Derived.Deep.SlicePairs
import Derived.Lib.SmallJoins
import Derived.ProofKit
import Derived.OpenShut
import Derived.Test.YtkciflocpelhiaaGreatDoorKeepMsg
import Derived.Test.YtkciflocpelhiaaGreatDoorLetShow
import Derived.Test.YtkciflocpelhiaaGreatDoorPure
namespace Go.Proofs.YtkciflocpelhiaaGreatDoor
open Go.RowKit Go.Deep Go.Joins Go.ChangeShapes Go.WideShapes

def pairD {H : Type} (f : F) : DataW H := .agg [.lit (.string f.1), .lit (.string f.2)]

theorem open_pairs {H : Type} {enc : TypeId × Value → H} {P : Program} {w : World} {base : Nat} {spare : Nat → Bool} {held : Bool} {t e : TypeId} {f0 f1 : Field} {fuel : Nat} {v : Value} {x : DataW H × List MemPlace}
    (ht : P.underlying t = some (.slice e)) (he : P.underlying e = some (.struct #[f0, f1])) (ce : P.cellsOf e = 2) (o0 : f0.offset = 0) (o1 : f1.offset = 1) (c0 : P.cellsOf f0.type = 1) (c1 : P.cellsOf f1.type = 1)
    (s0 : P.underlying f0.type = some .string) (s1 : P.underlying f1.type = some .string)
    (h : DataW.trod enc P w base spare held fuel t [v] = some x) :
    ∃ a c, ∃ fs : List F, v = .slice a fs.length c ∧ FieldsAt w a fs ∧ fs.length ≤ maxLen ∧ (∀ f ∈ fs, f.1.length ≤ maxLen ∧ f.2.length ≤ maxLen) ∧ ((x.1 = .nil ∧ fs = []) ∨ ∃ sp, x.1 = .slice (fs.map pairD) sp) := by
  rcases open_slice_pairs ht he ce o0 o1 c0 c1 h with ⟨hcs, rfl⟩ | ⟨a, len, cap, m, n, V0, V1, D0, D1, P0, P1, hcs, hb, hl, hm, hmm, rfl, hx⟩
  · simp only [List.cons.injEq, and_true] at hcs
    exact ⟨none, 0, [], hcs, by intro i f hf; simp at hf, by simp, by simp, .inl ⟨rfl, rfl⟩⟩
  simp only [List.cons.injEq, and_true] at hcs
  subst hcs
  have hlm : len ≤ m := by rw [hmm]; split <;> omega
  have each : ∀ i, i < len → ∃ f : F, w.cell? (a.add (i * 2)) = some (.string (S f.1)) ∧ w.cell? (a.add (i * 2 + 1)) = some (.string (S f.2)) ∧ D0 i = .lit (.string f.1) ∧ D1 i = .lit (.string f.2) ∧ f.1.length ≤ maxLen ∧ f.2.length ≤ maxLen := by
    intro i hi
    obtain ⟨h1, h2, h3, h4⟩ := hx i (by omega)
    obtain ⟨y0, e0, g0, k0⟩ := DataW.trod_string s0 h3
    obtain ⟨y1, e1, g1, k1⟩ := DataW.trod_string s1 h4
    simp only [List.cons.injEq, and_true] at e0 e1
    simp only [Prod.mk.injEq] at g0 g1
    refine ⟨(y0.data.toList, y1.data.toList), ?_, ?_, g0.1, g1.1, by rw [size_list]; exact k0, by rw [size_list]; exact k1⟩
    · rw [h1, e0, S_list]
    · rw [h2, e1, S_list]
  obtain ⟨q, hq⟩ := choose_lt each
  refine ⟨some a, cap, (List.range len).map q, by simp, ?_, by simp; omega, ?_, .inr ⟨(List.range (m - len)).map fun j => .agg [D0 (len + j), D1 (len + j)], ?_⟩⟩
  · intro i f hf
    have hi : i < len := by
      rcases Nat.lt_or_ge i len with h | h
      · exact h
      · rw [List.getElem?_eq_none (by simpa using h)] at hf; cases hf
    rw [List.getElem?_map, List.getElem?_range hi] at hf
    simp only [Option.map_some, Option.some.injEq] at hf
    subst hf
    obtain ⟨h1, h2, _⟩ := hq i hi
    obtain ⟨b, off, spot⟩ := a
    have hspot : spot = none := by
      have := World.cell?_spot (hq 0 (by omega)).1
      simpa [Addr.add] using this
    subst hspot
    rw [Addr.add_lit] at h1 h2
    exact ⟨b, off, rfl, World.block_lt_of_cell? w _ h1, h1, by rw [Nat.add_assoc]; exact h2⟩
  · intro f hf
    obtain ⟨i, hi, rfl⟩ := List.mem_map.1 hf
    exact (hq i (List.mem_range.1 hi)).2.2.2.2
  · rw [List.map_map]
    show DataW.slice _ _ = DataW.slice _ _
    congr 1
    refine List.map_congr_left fun i hi => ?_
    obtain ⟨_, _, h1, h2, _⟩ := hq i (List.mem_range.1 hi)
    simp [pairD, h1, h2]

/- Bulk. -/
end Go.Proofs.YtkciflocpelhiaaGreatDoor

namespace Go.Proofs.YtkciflocpelhiaaGreatDoor
open Go.RowKit Go.Deep Go.Joins Go.ChangeShapes Go.WideShapes

set_option maxRecDepth 100000 in
theorem wordC_name (c : UInt8) : nameC (wordC c) = true := by
  have h := wordC_nat c
  have h2 : (wordC c).toNat = 97 + c.toNat % 26 := by omega
  have h3 : wordC c ≠ 58 := fun e => by rw [e] at h2; simp at h2; omega
  simp [nameC, h2, h3]; omega
set_option maxRecDepth 100000 in
theorem word_name (l : List UInt8) : nameB (wordL l) = true := by
  unfold wordL
  split
  · decide
  · rename_i h
    have : wordK l 8 ≠ [] := by
      unfold wordK
      intro e
      have := congrArg List.length e
      simp at this
      exact h this
    simp only [nameB, Bool.and_eq_true, Bool.not_eq_true', List.all_eq_true]
    refine ⟨by cases hw : wordK l 8 with | nil => exact absurd hw this | cons a t => rfl, fun x hx => ?_⟩
    obtain ⟨c, _, rfl⟩ := List.mem_map.1 hx
    exact wordC_name c
set_option maxRecDepth 100000 in
theorem valC_edge {n i : Nat} {c : UInt8} (h : i = 0 ∨ i + 1 = n ∨ i = 39) : blankB (valC n i c) = false := by
  unfold valC
  split
  · decide
  · rename_i hn
    simp only [not_or, not_and] at hn
    unfold blankB
    simp only [Bool.or_eq_false_iff, beq_eq_false_iff_ne]
    refine ⟨fun e => ?_, fun e => ?_⟩
    · have := hn.2.2 (.inl e); rcases h with h | h | h
      · exact this.1 h
      · exact this.2.1 h
      · exact this.2.2 h
    · have := hn.2.2 (.inr e); rcases h with h | h | h
      · exact this.1 h
      · exact this.2.1 h
      · exact this.2.2 h
set_option maxRecDepth 100000 in
theorem valK_head {l : List UInt8} {k : Nat} {x : UInt8} (h : (valK l k).head? = some x) : ∃ c, x = valC l.length 0 c := by
  induction k with
  | zero => cases h
  | succ k ih =>
    cases k with
    | zero => simp [valK] at h; exact ⟨_, h.symm⟩
    | succ k =>
      have e : (valK l (k + 1 + 1)).head? = (valK l (k + 1)).head? := by
        show (valK l (k + 1) ++ _).head? = _
        cases hv : valK l (k + 1) with
        | nil => have := valK_len l (k + 1); rw [hv] at this; simp at this
        | cons a t => rfl
      rw [e] at h
      exact ih h
set_option maxRecDepth 100000 in
theorem valL_trim (l : List UInt8) : trimW (valL l) = valL l := by
  have := trim_core (a := []) (m := valL l) (b := []) (by simp) (by simp) ?_ ?_
  · simpa using this
  · intro x hx
    obtain ⟨c, rfl⟩ := valK_head hx
    exact valC_edge (.inl rfl)
  · intro x hx
    unfold valL at hx
    cases hk : min l.length 40 with
    | zero => rw [hk] at hx; cases hx
    | succ k =>
      rw [hk] at hx
      have : x = valC l.length k (l[k]?.getD 0) := by simpa [valK] using hx.symm
      rw [this]
      exact valC_edge (by omega)
set_option maxRecDepth 100000 in
theorem mk_may (f : F) : mayF (mkF f) = true := by
  simp only [mayF, mkF, valueB, word_name, valL_end, valL_trim, Bool.not_false, Bool.true_and, beq_self_eq_true]
set_option maxRecDepth 100000 in
theorem msg_may (fs : List F) : ∀ f ∈ msgK fs 6, mayF f = true := by
  intro f hf
  obtain ⟨g, _, rfl⟩ := List.mem_map.1 hf
  exact mk_may g
set_option maxRecDepth 100000 in
theorem msg_size (fs : List F) : ∀ f ∈ msgK fs 6, f.1.length ≤ 8 ∧ f.2.length ≤ 40 := by
  intro f hf
  obtain ⟨g, _, rfl⟩ := List.mem_map.1 hf
  exact ⟨wordL_len _, valL_len _⟩
set_option maxRecDepth 100000 in
theorem msg_len (fs : List F) : (msgK fs 6).length ≤ 6 := by simp [msgK]; omega
end Go.Proofs.YtkciflocpelhiaaGreatDoor
