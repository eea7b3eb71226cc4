/-
  How an argument that is a slice of persons is read: three texts each.
-/
import Derived.Test.YtmcpipgjckgjgaaDoorWhoMem
import Derived.Deep.SlicePairs
import Derived.Lib.SmallJoins
import Derived.ProofKit
import Derived.OpenShut
namespace Go.Proofs.YtmcpipgjckgjgaaDoor
open Go.RowKit Go.Deep Go.Joins Go.ChangeShapes Go.WideShapes

abbrev Raw := List UInt8 × List UInt8 × List UInt8
/-- The persons lie in memory from a place on, three texts each. -/
def PersonsAt (w : World) (a : Option Addr) (ps : List Raw) : Prop :=
  ∀ (i : Nat) x, ps[i]? = some x → ∃ b off, a = some ⟨b, off, none⟩ ∧ b < w.heap.size ∧ w.cell? ⟨b, off + i * 3, none⟩ = some (.string (S x.1)) ∧ w.cell? ⟨b, off + i * 3 + 1, none⟩ = some (.string (S x.2.1)) ∧ w.cell? ⟨b, off + i * 3 + 2, none⟩ = some (.string (S x.2.2))
theorem PersonsAt.below {w w' : World} {a : Option Addr} {ps : List Raw} (h : PersonsAt w a ps) (hb : Below w.heap.size w w') : PersonsAt w' a ps := by
  intro i x hx
  obtain ⟨b, off, ha, hlt, h1, h2, h3⟩ := h i x hx
  exact ⟨b, off, ha, Nat.lt_of_lt_of_le hlt hb.size, wcell_next h1 hb, wcell_next h2 hb, wcell_next h3 hb⟩

set_option maxRecDepth 100000 in
theorem open_persons {H : Type} {enc : TypeId × Value → H} {w : World} {base b0 : Nat} {spare : Nat → Bool} {held : Bool} {v : Value} {d : DataW H} {p : List MemPlace}
    (hv : Value.okWide Tryd.prog w .any b0 37 v) (h : DataW.Trod enc Tryd.prog w base spare held 37 v d p) :
    ∃ a c, ∃ ps : List Raw, v = .slice a ps.length c ∧ PersonsAt w a ps ∧ ps.length ≤ maxLen ∧ ∀ x ∈ ps, x.1.length ≤ maxLen ∧ x.2.1.length ≤ maxLen ∧ x.2.2.length ≤ maxLen := by
  obtain ⟨a0, len0, cap0, rfl⟩ := okWide_slice Tryd.underlying37 hv
  obtain ⟨fuel, hf0⟩ := h
  have hf : DataW.trod enc Tryd.prog w base spare held fuel 37 [.slice a0 len0 cap0] = some (d, p) := by simpa [Value.cells] using hf0
  have ce : Tryd.prog.cellsOf 29 = 3 := by kernel_rfl
  have cs : Tryd.prog.cellsOf 9 = 1 := by kernel_rfl
  rcases open_slice Tryd.underlying37 hf with ⟨h0, _⟩ | ⟨a, len, cap, m, n, D, Pl, h0, hb, hl, hm, hmm, _, hx⟩
  · simp only [List.cons.injEq, and_true] at h0
    exact ⟨none, 0, [], h0, by intro i x hx; simp at hx, by simp, by simp⟩
  simp only [List.cons.injEq, and_true] at h0
  rw [h0]
  have hlm : len ≤ m := by rw [hmm]; split <;> omega
  have each : ∀ i, i < len → ∃ x : Raw, w.cell? (a.add (i * 3)) = some (.string (S x.1)) ∧ w.cell? (a.add (i * 3 + 1)) = some (.string (S x.2.1)) ∧ w.cell? (a.add (i * 3 + 2)) = some (.string (S x.2.2)) ∧ x.1.length ≤ maxLen ∧ x.2.1.length ≤ maxLen ∧ x.2.2.length ≤ maxLen := by
    intro i hi
    obtain ⟨cs', h1, h2⟩ := hx i (by omega)
    rw [ce] at h1
    obtain ⟨_, hlen, hcell⟩ := World.cells?_some h1
    obtain ⟨xs, k, hk, hxy, _, hxl, hf⟩ := DataW.trod_struct Tryd.underlying29 h2
    match xs, hxl, cs', hlen with
    | [y0, y1, y2], _, [v0, v1, v2], _ =>
      have g0 := hf 0 _ rfl
      have g1 := hf 1 _ rfl
      have g2 := hf 2 _ rfl
      simp [cs] at g0 g1 g2
      have e0 := hcell 0 (by omega)
      have e1 := hcell 1 (by omega)
      have e2 := hcell 2 (by omega)
      rw [add_add] at e0 e1 e2
      obtain ⟨s0, q0, _, k0⟩ := DataW.trod_string Tryd.underlying9 g0
      obtain ⟨s1, q1, _, k1⟩ := DataW.trod_string Tryd.underlying9 g1
      obtain ⟨s2, q2, _, k2⟩ := DataW.trod_string Tryd.underlying9 g2
      simp only [List.cons.injEq, and_true] at q0 q1 q2
      subst q0
      subst q1
      subst q2
      refine ⟨(s0.data.toList, s1.data.toList, s2.data.toList), ?_, ?_, ?_, by rw [size_list]; exact k0, by rw [size_list]; exact k1, by rw [size_list]; exact k2⟩
      · rw [S_list]; simpa using e0
      · rw [S_list]; simpa using e1
      · rw [S_list]; simpa using e2
  obtain ⟨q, hq⟩ := choose_lt each
  refine ⟨some a, cap, (List.range len).map q, by simp, ?_, by simp; omega, ?_⟩
  · intro i x hx
    have hi : i < len := by
      rcases Nat.lt_or_ge i len with h | h
      · exact h
      · rw [List.getElem?_eq_none (by simpa using h)] at hx; cases hx
    rw [List.getElem?_map, List.getElem?_range hi] at hx
    simp only [Option.map_some, Option.some.injEq] at hx
    subst hx
    obtain ⟨h1, h2, h3, _⟩ := hq i hi
    obtain ⟨b, off, spot⟩ := a
    have hspot : spot = none := by
      have := World.cell?_spot (hq 0 (by omega)).1
      simpa [Addr.add] using this
    subst hspot
    rw [Addr.add_lit] at h1 h2 h3
    exact ⟨b, off, rfl, World.block_lt_of_cell? w _ h1, h1, by rw [Nat.add_assoc]; exact h2, by rw [Nat.add_assoc]; exact h3⟩
  · intro x hx
    obtain ⟨i, hi, rfl⟩ := List.mem_map.1 hx
    exact (hq i (List.mem_range.1 hi)).2.2.2
end Go.Proofs.YtmcpipgjckgjgaaDoor
