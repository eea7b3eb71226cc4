/-
  How an argument that holds fields is read: a slice of pairs of texts; a message; and how great it can be where its bulk is bounded.
-/
import Derived.Test.YtgbhaphgojlhaaaDoorLetMem
import Derived.Deep.SlicePairs
import Derived.Lib.SmallJoins
import Derived.ProofKit
import Derived.OpenShut
namespace Go.Proofs.YtgbhaphgojlhaaaDoor
open Go.RowKit Go.Deep Go.Joins Go.ChangeShapes Go.WideShapes

def pairD {H : Type} (f : F) : DataW H := .agg [.lit (.string f.1), .lit (.string f.2)]

theorem open_pairs {H : Type} {enc : TypeId × Value → H} {P : Program} {w : World} {base : Nat} {spare : Nat → Bool} {held : Bool} {t e : TypeId} {f0 f1 : Field} {fuel : Nat} {v : Value} {x : DataW H × List MemPlace}
    (ht : P.underlying t = some (.slice e)) (he : P.underlying e = some (.struct #[f0, f1])) (ce : P.cellsOf e = 2) (o0 : f0.offset = 0) (o1 : f1.offset = 1) (c0 : P.cellsOf f0.type = 1) (c1 : P.cellsOf f1.type = 1)
    (s0 : P.underlying f0.type = some .string) (s1 : P.underlying f1.type = some .string)
    (h : DataW.trod enc P w base spare held fuel t [v] = some x) :
    ∃ a c, ∃ fs : List F, v = .slice a fs.length c ∧ FieldsAt w a fs ∧ fs.length ≤ maxLen ∧ (∀ f ∈ fs, f.1.length ≤ maxLen ∧ f.2.length ≤ maxLen) ∧ ((x.1 = .nil ∧ fs = []) ∨ ∃ sp, x.1 = .slice (fs.map pairD) sp) := by
  rcases open_slice_pairs ht he ce o0 o1 c0 c1 h with ⟨hcs, rfl⟩ | ⟨a, len, cap, m, n, V0, V1, D0, D1, P0, P1, hcs, hb, hl, hm, hmm, rfl, hx⟩
  · simp only [List.cons.injEq, and_true] at hcs
    exact ⟨none, 0, [], hcs, by intro i f hf; simp at hf, by simp, by simp, .inl ⟨rfl, rfl⟩⟩
  simp only [List.cons.injEq, and_true] at hcs
  subst hcs
  have hlm : len ≤ m := by rw [hmm]; split <;> omega
  have each : ∀ i, i < len → ∃ f : F, w.cell? (a.add (i * 2)) = some (.string (S f.1)) ∧ w.cell? (a.add (i * 2 + 1)) = some (.string (S f.2)) ∧ D0 i = .lit (.string f.1) ∧ D1 i = .lit (.string f.2) ∧ f.1.length ≤ maxLen ∧ f.2.length ≤ maxLen := by
    intro i hi
    obtain ⟨h1, h2, h3, h4⟩ := hx i (by omega)
    obtain ⟨y0, e0, g0, k0⟩ := DataW.trod_string s0 h3
    obtain ⟨y1, e1, g1, k1⟩ := DataW.trod_string s1 h4
    simp only [List.cons.injEq, and_true] at e0 e1
    simp only [Prod.mk.injEq] at g0 g1
    refine ⟨(y0.data.toList, y1.data.toList), ?_, ?_, g0.1, g1.1, by rw [size_list]; exact k0, by rw [size_list]; exact k1⟩
    · rw [h1, e0, S_list]
    · rw [h2, e1, S_list]
  obtain ⟨q, hq⟩ := choose_lt each
  refine ⟨some a, cap, (List.range len).map q, by simp, ?_, by simp; omega, ?_, .inr ⟨(List.range (m - len)).map fun j => .agg [D0 (len + j), D1 (len + j)], ?_⟩⟩
  · intro i f hf
    have hi : i < len := by
      rcases Nat.lt_or_ge i len with h | h
      · exact h
      · rw [List.getElem?_eq_none (by simpa using h)] at hf; cases hf
    rw [List.getElem?_map, List.getElem?_range hi] at hf
    simp only [Option.map_some, Option.some.injEq] at hf
    subst hf
    obtain ⟨h1, h2, _⟩ := hq i hi
    obtain ⟨b, off, spot⟩ := a
    have hspot : spot = none := by
      have := World.cell?_spot (hq 0 (by omega)).1
      simpa [Addr.add] using this
    subst hspot
    rw [Addr.add_lit] at h1 h2
    exact ⟨b, off, rfl, World.block_lt_of_cell? w _ h1, h1, by rw [Nat.add_assoc]; exact h2⟩
  · intro f hf
    obtain ⟨i, hi, rfl⟩ := List.mem_map.1 hf
    exact (hq i (List.mem_range.1 hi)).2.2.2.2
  · rw [List.map_map]
    show DataW.slice _ _ = DataW.slice _ _
    congr 1
    refine List.map_congr_left fun i hi => ?_
    obtain ⟨_, _, h1, h2, _⟩ := hq i (List.mem_range.1 hi)
    simp [pairD, h1, h2]

/- Bulk. -/
theorem bulk_one {H : Type} (d : DataW H) : 1 ≤ Rows.uptoBulk d := by
  cases d with
  | lit l => cases l <;> simp [Rows.uptoBulk]
  | nil => simp [Rows.uptoBulk]
  | ptr d => simp [Rows.uptoBulk]
  | slice elems spare => simp [Rows.uptoBulk]
  | agg parts => simp [Rows.uptoBulk]
  | iface t d => simp [Rows.uptoBulk]
  | map entries => simp [Rows.uptoBulk]
  | held h => simp [Rows.uptoBulk]
theorem bulk_part {H : Type} {d : DataW H} {l : List (DataW H)} (h : d ∈ l) : Rows.uptoBulk d ≤ Rows.uptoBulkAll l := by
  induction l with
  | nil => cases h
  | cons x r ih =>
    simp only [Rows.uptoBulkAll]
    cases List.mem_cons.1 h with
    | inl e => subst e; omega
    | inr e => have := ih e; omega
theorem bulk_len {H : Type} (l : List (DataW H)) : l.length ≤ Rows.uptoBulkAll l := by
  induction l with
  | nil => simp [Rows.uptoBulkAll]
  | cons x r ih => have := bulk_one x; simp only [Rows.uptoBulkAll, List.length_cons]; omega
theorem bulk_pair {H : Type} (f : F) : Rows.uptoBulk (pairD (H := H) f) = f.1.length + f.2.length + 3 := by
  simp [pairD, Rows.uptoBulk, Rows.uptoBulkAll]; omega
theorem bulk_fields {H : Type} {d : DataW H} {fs : List F} (h : (d = .nil ∧ fs = []) ∨ ∃ sp, d = .slice (fs.map pairD) sp) (n : Nat) (hn : Rows.uptoBulk d ≤ n) :
    fs.length ≤ n ∧ ∀ f ∈ fs, f.1.length ≤ n ∧ f.2.length ≤ n := by
  rcases h with ⟨rfl, rfl⟩ | ⟨sp, rfl⟩
  · simp
  · simp only [Rows.uptoBulk] at hn
    have h1 := bulk_len (fs.map (pairD (H := H)))
    rw [List.length_map] at h1
    refine ⟨by omega, fun f hf => ?_⟩
    have h2 := bulk_part (List.mem_map_of_mem (f := pairD (H := H)) hf)
    rw [bulk_pair] at h2
    omega

set_option maxRecDepth 100000 in
/-- A message, by value. -/
theorem open_message {H : Type} {enc : TypeId × Value → H} {w : World} {base b0 : Nat} {spare : Nat → Bool} {held : Bool} {v : Value} {d : DataW H} {p : List MemPlace}
    (hv : Value.okWide Tryd.prog w .any b0 46 v) (h : DataW.Trod enc Tryd.prog w base spare held 46 v d p) :
    ∃ a c, ∃ fs : List F, ∃ body : ByteArray, v = .agg #[.slice a fs.length c, .string body] ∧ FieldsAt w a fs ∧ (Rows.uptoBulk d ≤ 1048576 → fs.length ≤ 1048576 ∧ body.size ≤ 1048576 ∧ ∀ f ∈ fs, f.1.length ≤ 1048576 ∧ f.2.length ≤ 1048576) := by
  obtain ⟨v0, v1, y0, y1, m, rfl, rfl, rfl, h0, h1⟩ := open_agg2 Tryd.underlying46 (by kernel_rfl) (by kernel_rfl) hv h
  obtain ⟨s, e1, g1, _⟩ := DataW.trod_string Tryd.underlying9 h1
  simp only [List.cons.injEq, and_true] at e1
  subst e1
  obtain ⟨a, c, fs, rfl, hF, _, _, hd⟩ := open_pairs Tryd.underlying44 Tryd.underlying63 (by kernel_rfl) rfl rfl (by kernel_rfl) (by kernel_rfl) Tryd.underlying9 Tryd.underlying9 h0
  refine ⟨a, c, fs, s, rfl, hF, fun hk => ?_⟩
  have e : y1.1 = .lit (.string s.data.toList) := by rw [g1]
  rw [e] at hk
  simp only [Rows.uptoBulk, Rows.uptoBulkAll] at hk
  rw [size_list] at hk
  obtain ⟨h2, h3⟩ := bulk_fields hd (Rows.uptoBulk y0.1) (Nat.le_refl _)
  exact ⟨by omega, by omega, fun f hf => by have := h3 f hf; omega⟩
end Go.Proofs.YtgbhaphgojlhaaaDoor
