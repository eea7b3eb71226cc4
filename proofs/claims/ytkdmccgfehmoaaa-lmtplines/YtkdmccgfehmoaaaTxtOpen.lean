/-
  How an argument that is a slice of texts is read, and how long it can be within the form's reach.
-/
import Derived.Test.YtkdmccgfehmoaaaRows
import Derived.Test.YtkdmccgfehmoaaaScrMem
import Derived.Test.YtkdmccgfehmoaaaScrMemX
import Derived.Test.YtkdmccgfehmoaaaTxt
import Derived.Deep.SlicePairs
import Derived.Lib.SmallJoins
import Derived.ProofKit
import Derived.OpenShut
import Derived.SizedLaws
namespace Go.Proofs.Ytkdmccgfehmoaaa
open Go.RowKit Go.Deep Go.Joins Go.ChangeShapes Go.WideShapes

set_option maxRecDepth 100000 in
theorem open_texts {H : Type} {enc : TypeId × Value → H} {w : World} {base b0 : Nat} {spare : Nat → Bool} {held : Bool} {v : Value} {d : DataW H} {p : List MemPlace}
    (hv : Value.okWide Try.prog w .any b0 31 v) (h : DataW.Trod enc Try.prog w base spare held 31 v d p) :
    ∃ a c, ∃ ls : List (List UInt8), v = .slice a ls.length c ∧ TxtsM anyB w (.slice a ls.length c) ls ∧ ((∀ m ∈ d.weights Try.prog 31, m ≤ reachBytes) → ls.length ≤ 8796093022208) := by
  obtain ⟨a0, len0, cap0, rfl⟩ := okWide_slice Try.underlying31 hv
  obtain ⟨fuel, hf0⟩ := h
  have hf : DataW.trod enc Try.prog w base spare held fuel 31 [.slice a0 len0 cap0] = some (d, p) := by simpa [Value.cells] using hf0
  have cs : Try.prog.cellsOf 9 = 1 := by kernel_rfl
  rcases open_slice Try.underlying31 hf with ⟨h0, _⟩ | ⟨a, len, cap, m, n, D, Pl, h0, hb, hl, hm, hmm, hD, hx⟩
  · simp only [List.cons.injEq, and_true] at h0
    exact ⟨none, 0, [], h0, rowM_nil _ _ _ _ _ _, fun _ => by simp⟩
  simp only [List.cons.injEq, and_true] at h0
  rw [h0]
  have hlm : len ≤ m := by rw [hmm]; split <;> omega
  have each : ∀ i, i < len → ∃ x : List UInt8, w.cell? (a.add i) = some (.string (S x)) := by
    intro i hi
    obtain ⟨cs', h1, h2⟩ := hx i (by omega)
    rw [cs] at h1
    obtain ⟨_, hlen, hcell⟩ := World.cells?_some h1
    obtain ⟨s, q0, _, _⟩ := DataW.trod_string Try.underlying9 h2
    subst q0
    have e0 := hcell 0 (by omega)
    rw [add_add] at e0
    exact ⟨s.data.toList, by rw [S_list]; simpa using e0⟩
  obtain ⟨q, hq⟩ := choose_lt each
  refine ⟨some a, cap, (List.range len).map q, by simp, ⟨some a, cap, by simp, by simp; omega, ?_⟩, ?_⟩
  · intro i x hx
    have hi : i < len := by
      rcases Nat.lt_or_ge i len with h | h
      · exact h
      · rw [List.getElem?_eq_none (by simpa using h)] at hx; cases hx
    rw [List.getElem?_map, List.getElem?_range hi] at hx
    simp only [Option.map_some, Option.some.injEq] at hx
    subst hx
    have h1 := hq i hi
    obtain ⟨b, off, spot⟩ := a
    have hspot : spot = none := by
      have := World.cell?_spot (hq 0 (by omega))
      simpa [Addr.add] using this
    subst hspot
    rw [Addr.add_lit] at h1
    refine ⟨b, off, [.string (S (q i))], rfl, World.block_lt_of_cell? w _ h1, trivial, rfl, fun j u hj => ?_, rfl⟩
    cases j with
    | succ j => simp at hj
    | zero => simp at hj; subst hj; simpa using h1
  · intro hk
    have e : d = .slice ((List.range len).map D) ((List.range (m - len)).map fun j => D (len + j)) := congrArg Prod.fst hD
    rw [e] at hk
    have hby : Try.prog.bytesOf 9 = 16 := by kernel_rfl
    have h1 := hk ((((List.range len).map D).length + ((List.range (m - len)).map fun j => D (len + j)).length) * Try.prog.bytesOf 9) (by simp only [DataW.weights, Try.underlying31]; exact List.mem_cons_self)
    rw [hby] at h1
    have hlt := reachBytes_lt
    simp only [List.length_map, List.length_range] at h1 ⊢
    unfold reachBytes at h1
    omega
end Go.Proofs.Ytkdmccgfehmoaaa
