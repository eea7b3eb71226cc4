/-
  How an argument that is a slice of tokens is read, and how long it can be within the form's reach.
-/
import Derived.Test.YtnjlakengbhokaaDoorTokMem
import Derived.Test.YtnjlakengbhokaaDoorTokWord
import Derived.Deep.SlicePairs
import Derived.Lib.SmallJoins
import Derived.ProofKit
import Derived.OpenShut
import Derived.SizedLaws
namespace Go.Proofs.YtnjlakengbhokaaDoor
open Go.RowKit Go.Deep Go.Joins Go.ChangeShapes Go.WideShapes

set_option maxRecDepth 100000 in
theorem open_tokensW {H : Type} {enc : TypeId × Value → H} {w : World} {base b0 : Nat} {spare : Nat → Bool} {held : Bool} {v : Value} {d : DataW H} {p : List MemPlace}
    (hv : Value.okWide Tryd.prog w .any b0 40 v) (h : DataW.Trod enc Tryd.prog w base spare held 40 v d p) :
    ∃ a c, ∃ ts : List Tok, v = .slice a ts.length c ∧ ToksAt w a ts ∧ ((∀ m ∈ d.weights Tryd.prog 40, m ≤ reachBytes) → ts.length ≤ 4398046511104) ∧ ∀ t ∈ ts, t.text.length ≤ maxLen := by
  obtain ⟨a0, len0, cap0, rfl⟩ := okWide_slice Tryd.underlying40 hv
  obtain ⟨fuel, hf0⟩ := h
  have hf : DataW.trod enc Tryd.prog w base spare held fuel 40 [.slice a0 len0 cap0] = some (d, p) := by simpa [Value.cells] using hf0
  have ce : Tryd.prog.cellsOf 44 = 3 := by kernel_rfl
  have cs : Tryd.prog.cellsOf 9 = 1 := by kernel_rfl
  have ci : Tryd.prog.cellsOf 3 = 1 := by kernel_rfl
  rcases open_slice Tryd.underlying40 hf with ⟨h0, _⟩ | ⟨a, len, cap, m, n, D, Pl, h0, hb, hl, hm, hmm, hD, hx⟩
  · simp only [List.cons.injEq, and_true] at h0
    exact ⟨none, 0, [], h0, by intro i x hx; simp at hx, fun _ => by simp, by simp⟩
  simp only [List.cons.injEq, and_true] at h0
  rw [h0]
  have hlm : len ≤ m := by rw [hmm]; split <;> omega
  have each : ∀ i, i < len → ∃ x : Tok, w.cell? (a.add (i * 3)) = some (.int .i64 x.kind) ∧ w.cell? (a.add (i * 3 + 1)) = some (.string (S x.text)) ∧ w.cell? (a.add (i * 3 + 2)) = some (.int .i64 x.num) ∧ x.text.length ≤ maxLen := by
    intro i hi
    obtain ⟨cs', h1, h2⟩ := hx i (by omega)
    rw [ce] at h1
    obtain ⟨_, hlen, hcell⟩ := World.cells?_some h1
    obtain ⟨xs, k, hk, hxy, hdd, hxl, hf⟩ := DataW.trod_struct Tryd.underlying44 h2
    match xs, hxl, cs', hlen with
    | [y0, y1, y2], _, [v0, v1, v2], _ =>
      have g0 := hf 0 _ rfl
      have g1 := hf 1 _ rfl
      have g2 := hf 2 _ rfl
      simp [cs, ci] at g0 g1 g2
      have e0 := hcell 0 (by omega)
      have e1 := hcell 1 (by omega)
      have e2 := hcell 2 (by omega)
      rw [add_add] at e0 e1 e2
      obtain ⟨s0, q0, _, k0⟩ := DataW.trod_int Tryd.underlying3 g0
      obtain ⟨s1, q1, r1, k1⟩ := DataW.trod_string Tryd.underlying9 g1
      obtain ⟨s2, q2, _, k2⟩ := DataW.trod_int Tryd.underlying3 g2
      simp only [List.cons.injEq, and_true] at q0 q1 q2
      subst q0
      subst q1
      subst q2
      refine ⟨⟨s0, s1.data.toList, s2⟩, ?_, ?_, ?_, ?_⟩
      · simpa using e0
      · rw [S_list]; simpa using e1
      · simpa using e2
      · rw [size_list]; exact k1
  haveI : Inhabited Tok := ⟨⟨0, [], 0⟩⟩
  obtain ⟨q, hq⟩ := choose_lt each
  refine ⟨some a, cap, (List.range len).map q, by simp, ?_, ?_, ?_⟩
  · intro i x hx
    have hi : i < len := by
      rcases Nat.lt_or_ge i len with h | h
      · exact h
      · rw [List.getElem?_eq_none (by simpa using h)] at hx; cases hx
    rw [List.getElem?_map, List.getElem?_range hi] at hx
    simp only [Option.map_some, Option.some.injEq] at hx
    subst hx
    obtain ⟨h1, h2, h3, _⟩ := hq i hi
    obtain ⟨b, off, spot⟩ := a
    have hspot : spot = none := by
      have := World.cell?_spot (hq 0 (by omega)).1
      simpa [Addr.add] using this
    subst hspot
    rw [Addr.add_lit] at h1 h2 h3
    exact ⟨b, off, rfl, World.block_lt_of_cell? w _ h1, h1, by rw [Nat.add_assoc]; exact h2, by rw [Nat.add_assoc]; exact h3⟩
  · intro hk
    have e : d = .slice ((List.range len).map D) ((List.range (m - len)).map fun j => D (len + j)) := congrArg Prod.fst hD
    rw [e] at hk
    have hby : Tryd.prog.bytesOf 44 = 32 := by kernel_rfl
    have h1 := hk ((((List.range len).map D).length + ((List.range (m - len)).map fun j => D (len + j)).length) * Tryd.prog.bytesOf 44) (by simp only [DataW.weights, Tryd.underlying40]; exact List.mem_cons_self)
    rw [hby] at h1
    simp only [List.length_map, List.length_range] at h1 ⊢
    unfold reachBytes at h1
    omega
  · intro t ht
    obtain ⟨i, hi, rfl⟩ := List.mem_map.1 ht
    exact (hq i (List.mem_range.1 hi)).2.2.2
end Go.Proofs.YtnjlakengbhokaaDoor
