/-
  How an argument that is a row of bytes is read, and how many bytes it can have within the form's reach.
-/
import Derived.Test.YtkkkbggbeihbnaaDoorBkBz
import Derived.Deep.SlicePairs
import Derived.Lib.SmallJoins
import Derived.ProofKit
import Derived.OpenShut
import Derived.SizedLaws
namespace Go.Proofs.YtkkkbggbeihbnaaDoor
open Go.RowKit Go.Deep Go.Joins Go.ChangeShapes Go.WideShapes

theorem byte_wf {a : Int} (h : (Lit.int .u8 a).wf = true) : ∃ c : UInt8, a = (c.toNat : Int) := by
  have h2 : 0 ≤ a ∧ a ≤ 255 := by simpa [Lit.wf, IntKind.min, IntKind.max, IntKind.signed, IntKind.bits] using h
  refine ⟨UInt8.ofNat a.toNat, ?_⟩
  have h3 : a.toNat < 256 := by omega
  rw [UInt8.toNat_ofNat', Nat.mod_eq_of_lt (by simpa using h3)]
  omega
set_option maxRecDepth 100000 in
theorem open_bytes {H : Type} {enc : TypeId × Value → H} {w : World} {base fuel : Nat} {spare : Nat → Bool} {held : Bool} {v : Value} {x : DataW H × List MemPlace}
    (hf : DataW.trod enc Tryd.prog w base spare held fuel 39 [v] = some x) :
    ∃ a c, ∃ l : List UInt8, v = .slice a l.length c ∧ BysM (fun _ => True) w (.slice a l.length c) l ∧ ((∀ m ∈ x.1.weights Tryd.prog 39, m ≤ reachBytes) → l.length ≤ 140737488351232) := by
  have ce : Tryd.prog.cellsOf 5 = 1 := by kernel_rfl
  rcases open_slice Tryd.underlying39 hf with ⟨h0, _⟩ | ⟨a, len, cap, m, n, D, Pl, h0, hb, hl, hm, hmm, hD, hx⟩
  · simp only [List.cons.injEq, and_true] at h0
    exact ⟨none, 0, [], h0, BysM.nil _ _ _ _, fun _ => by simp⟩
  simp only [List.cons.injEq, and_true] at h0
  rw [h0]
  have hlm : len ≤ m := by rw [hmm]; split <;> omega
  have each : ∀ i, i < len → ∃ y : UInt8, w.cell? (a.add i) = some (.int .u8 y.toNat) := by
    intro i hi
    obtain ⟨cs', h1, h2⟩ := hx i (by omega)
    rw [ce] at h1
    obtain ⟨_, hlen, hcell⟩ := World.cells?_some h1
    match cs', hlen with
    | [v0], _ =>
      obtain ⟨s0, q0, _, k0⟩ := DataW.trod_int Tryd.underlying5 h2
      simp only [List.cons.injEq, and_true] at q0
      subst q0
      obtain ⟨y, rfl⟩ := byte_wf k0
      have e0 := hcell 0 (by simp)
      rw [add_add] at e0
      exact ⟨y, by simpa using e0⟩
  haveI : Inhabited UInt8 := ⟨0⟩
  obtain ⟨q, hq⟩ := choose_lt each
  refine ⟨some a, cap, (List.range len).map q, by simp, ?_, ?_⟩
  · refine ⟨some a, cap, rfl, by simp; omega, by simp; omega, fun i x hx => ?_⟩
    have hi : i < len := by
      rcases Nat.lt_or_ge i len with h | h
      · exact h
      · rw [List.getElem?_eq_none (by simpa using h)] at hx; cases hx
    rw [List.getElem?_map, List.getElem?_range hi] at hx
    simp only [Option.map_some, Option.some.injEq] at hx
    subst hx
    have h1 := hq i hi
    obtain ⟨b, off, spot⟩ := a
    have hspot : spot = none := by
      have := World.cell?_spot (hq 0 (by omega))
      simpa [Addr.add] using this
    subst hspot
    rw [Addr.add_lit] at h1
    exact ⟨b, off, rfl, trivial, h1⟩
  · intro hk
    have e : x.1 = .slice ((List.range len).map D) ((List.range (m - len)).map fun j => D (len + j)) := congrArg Prod.fst hD
    rw [e] at hk
    have hby : Tryd.prog.bytesOf 5 = 1 := by kernel_rfl
    have h1 := hk ((((List.range len).map D).length + ((List.range (m - len)).map fun j => D (len + j)).length) * Tryd.prog.bytesOf 5) (by simp only [DataW.weights, Tryd.underlying39]; exact List.mem_cons_self)
    rw [hby] at h1
    simp only [List.length_map, List.length_range] at h1 ⊢
    unfold reachBytes at h1
    omega
end Go.Proofs.YtkkkbggbeihbnaaDoor
