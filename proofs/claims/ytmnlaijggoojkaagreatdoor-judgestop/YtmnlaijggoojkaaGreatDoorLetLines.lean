/-
  How an argument that holds fields is read: a slice of pairs of texts; a message; and how great it can be where its bulk is bounded.
  How an argument that holds raw lines is read; what the message that is made of them is.
-/
import Derived.Test.YtmnlaijggoojkaaGreatDoorLetPar
import Derived.Deep.SlicePairs
import Derived.Lib.SmallJoins
import Derived.ProofKit
import Derived.OpenShut
import Derived.Test.YtmnlaijggoojkaaGreatDoorKeepMsg
import Derived.Test.YtmnlaijggoojkaaGreatDoorLetShow
import Derived.Test.YtmnlaijggoojkaaGreatDoorPure
namespace Go.Proofs.YtmnlaijggoojkaaGreatDoor
open Go.RowKit Go.Deep Go.Joins Go.ChangeShapes Go.WideShapes

def pairD {H : Type} (f : F) : DataW H := .agg [.lit (.string f.1), .lit (.string f.2)]

theorem open_pairs {H : Type} {enc : TypeId × Value → H} {P : Program} {w : World} {base : Nat} {spare : Nat → Bool} {held : Bool} {t e : TypeId} {f0 f1 : Field} {fuel : Nat} {v : Value} {x : DataW H × List MemPlace}
    (ht : P.underlying t = some (.slice e)) (he : P.underlying e = some (.struct #[f0, f1])) (ce : P.cellsOf e = 2) (o0 : f0.offset = 0) (o1 : f1.offset = 1) (c0 : P.cellsOf f0.type = 1) (c1 : P.cellsOf f1.type = 1)
    (s0 : P.underlying f0.type = some .string) (s1 : P.underlying f1.type = some .string)
    (h : DataW.trod enc P w base spare held fuel t [v] = some x) :
    ∃ a c, ∃ fs : List F, v = .slice a fs.length c ∧ FieldsAt w a fs ∧ fs.length ≤ maxLen ∧ (∀ f ∈ fs, f.1.length ≤ maxLen ∧ f.2.length ≤ maxLen) ∧ ((x.1 = .nil ∧ fs = []) ∨ ∃ sp, x.1 = .slice (fs.map pairD) sp) := by
  rcases open_slice_pairs ht he ce o0 o1 c0 c1 h with ⟨hcs, rfl⟩ | ⟨a, len, cap, m, n, V0, V1, D0, D1, P0, P1, hcs, hb, hl, hm, hmm, rfl, hx⟩
  · simp only [List.cons.injEq, and_true] at hcs
    exact ⟨none, 0, [], hcs, by intro i f hf; simp at hf, by simp, by simp, .inl ⟨rfl, rfl⟩⟩
  simp only [List.cons.injEq, and_true] at hcs
  subst hcs
  have hlm : len ≤ m := by rw [hmm]; split <;> omega
  have each : ∀ i, i < len → ∃ f : F, w.cell? (a.add (i * 2)) = some (.string (S f.1)) ∧ w.cell? (a.add (i * 2 + 1)) = some (.string (S f.2)) ∧ D0 i = .lit (.string f.1) ∧ D1 i = .lit (.string f.2) ∧ f.1.length ≤ maxLen ∧ f.2.length ≤ maxLen := by
    intro i hi
    obtain ⟨h1, h2, h3, h4⟩ := hx i (by omega)
    obtain ⟨y0, e0, g0, k0⟩ := DataW.trod_string s0 h3
    obtain ⟨y1, e1, g1, k1⟩ := DataW.trod_string s1 h4
    simp only [List.cons.injEq, and_true] at e0 e1
    simp only [Prod.mk.injEq] at g0 g1
    refine ⟨(y0.data.toList, y1.data.toList), ?_, ?_, g0.1, g1.1, by rw [size_list]; exact k0, by rw [size_list]; exact k1⟩
    · rw [h1, e0, S_list]
    · rw [h2, e1, S_list]
  obtain ⟨q, hq⟩ := choose_lt each
  refine ⟨some a, cap, (List.range len).map q, by simp, ?_, by simp; omega, ?_, .inr ⟨(List.range (m - len)).map fun j => .agg [D0 (len + j), D1 (len + j)], ?_⟩⟩
  · intro i f hf
    have hi : i < len := by
      rcases Nat.lt_or_ge i len with h | h
      · exact h
      · rw [List.getElem?_eq_none (by simpa using h)] at hf; cases hf
    rw [List.getElem?_map, List.getElem?_range hi] at hf
    simp only [Option.map_some, Option.some.injEq] at hf
    subst hf
    obtain ⟨h1, h2, _⟩ := hq i hi
    obtain ⟨b, off, spot⟩ := a
    have hspot : spot = none := by
      have := World.cell?_spot (hq 0 (by omega)).1
      simpa [Addr.add] using this
    subst hspot
    rw [Addr.add_lit] at h1 h2
    exact ⟨b, off, rfl, World.block_lt_of_cell? w _ h1, h1, by rw [Nat.add_assoc]; exact h2⟩
  · intro f hf
    obtain ⟨i, hi, rfl⟩ := List.mem_map.1 hf
    exact (hq i (List.mem_range.1 hi)).2.2.2.2
  · rw [List.map_map]
    show DataW.slice _ _ = DataW.slice _ _
    congr 1
    refine List.map_congr_left fun i hi => ?_
    obtain ⟨_, _, h1, h2, _⟩ := hq i (List.mem_range.1 hi)
    simp [pairD, h1, h2]

/- Bulk. -/
theorem bulk_one {H : Type} (d : DataW H) : 1 ≤ Rows.uptoBulk d := by
  cases d with
  | lit l => cases l <;> simp [Rows.uptoBulk]
  | nil => simp [Rows.uptoBulk]
  | ptr d => simp [Rows.uptoBulk]
  | slice elems spare => simp [Rows.uptoBulk]
  | agg parts => simp [Rows.uptoBulk]
  | iface t d => simp [Rows.uptoBulk]
  | map entries => simp [Rows.uptoBulk]
  | held h => simp [Rows.uptoBulk]
theorem bulk_part {H : Type} {d : DataW H} {l : List (DataW H)} (h : d ∈ l) : Rows.uptoBulk d ≤ Rows.uptoBulkAll l := by
  induction l with
  | nil => cases h
  | cons x r ih =>
    simp only [Rows.uptoBulkAll]
    cases List.mem_cons.1 h with
    | inl e => subst e; omega
    | inr e => have := ih e; omega
theorem bulk_len {H : Type} (l : List (DataW H)) : l.length ≤ Rows.uptoBulkAll l := by
  induction l with
  | nil => simp [Rows.uptoBulkAll]
  | cons x r ih => have := bulk_one x; simp only [Rows.uptoBulkAll, List.length_cons]; omega
theorem bulk_pair {H : Type} (f : F) : Rows.uptoBulk (pairD (H := H) f) = f.1.length + f.2.length + 3 := by
  simp [pairD, Rows.uptoBulk, Rows.uptoBulkAll]; omega
theorem bulk_fields {H : Type} {d : DataW H} {fs : List F} (h : (d = .nil ∧ fs = []) ∨ ∃ sp, d = .slice (fs.map pairD) sp) (n : Nat) (hn : Rows.uptoBulk d ≤ n) :
    fs.length ≤ n ∧ ∀ f ∈ fs, f.1.length ≤ n ∧ f.2.length ≤ n := by
  rcases h with ⟨rfl, rfl⟩ | ⟨sp, rfl⟩
  · simp
  · simp only [Rows.uptoBulk] at hn
    have h1 := bulk_len (fs.map (pairD (H := H)))
    rw [List.length_map] at h1
    refine ⟨by omega, fun f hf => ?_⟩
    have h2 := bulk_part (List.mem_map_of_mem (f := pairD (H := H)) hf)
    rw [bulk_pair] at h2
    omega

set_option maxRecDepth 100000 in
/-- A message, by value. -/
theorem open_message {H : Type} {enc : TypeId × Value → H} {w : World} {base b0 : Nat} {spare : Nat → Bool} {held : Bool} {v : Value} {d : DataW H} {p : List MemPlace}
    (hv : Value.okWide Tryz.prog w .any b0 52 v) (h : DataW.Trod enc Tryz.prog w base spare held 52 v d p) :
    ∃ a c, ∃ fs : List F, ∃ body : ByteArray, v = .agg #[.slice a fs.length c, .string body] ∧ FieldsAt w a fs ∧ (Rows.uptoBulk d ≤ 1048576 → fs.length ≤ 1048576 ∧ body.size ≤ 1048576 ∧ ∀ f ∈ fs, f.1.length ≤ 1048576 ∧ f.2.length ≤ 1048576) := by
  obtain ⟨v0, v1, y0, y1, m, rfl, rfl, rfl, h0, h1⟩ := open_agg2 Tryz.underlying52 (by kernel_rfl) (by kernel_rfl) hv h
  obtain ⟨s, e1, g1, _⟩ := DataW.trod_string Tryz.underlying9 h1
  simp only [List.cons.injEq, and_true] at e1
  subst e1
  obtain ⟨a, c, fs, rfl, hF, _, _, hd⟩ := open_pairs Tryz.underlying50 Tryz.underlying56 (by kernel_rfl) rfl rfl (by kernel_rfl) (by kernel_rfl) Tryz.underlying9 Tryz.underlying9 h0
  refine ⟨a, c, fs, s, rfl, hF, fun hk => ?_⟩
  have e : y1.1 = .lit (.string s.data.toList) := by rw [g1]
  rw [e] at hk
  simp only [Rows.uptoBulk, Rows.uptoBulkAll] at hk
  rw [size_list] at hk
  obtain ⟨h2, h3⟩ := bulk_fields hd (Rows.uptoBulk y0.1) (Nat.le_refl _)
  exact ⟨by omega, by omega, fun f hf => by have := h3 f hf; omega⟩
end Go.Proofs.YtmnlaijggoojkaaGreatDoor

namespace Go.Proofs.YtmnlaijggoojkaaGreatDoor
open Go.RowKit Go.Deep Go.Joins Go.ChangeShapes Go.WideShapes

set_option maxRecDepth 100000 in
theorem open_lines {H : Type} {enc : TypeId × Value → H} {w : World} {base b0 : Nat} {spare : Nat → Bool} {held : Bool} {v : Value} {d : DataW H} {p : List MemPlace}
    (hv : Value.okWide Tryz.prog w .any b0 24 v) (h : DataW.Trod enc Tryz.prog w base spare held 24 v d p) :
    ∃ a c, ∃ fs : List F, v = .slice a fs.length c ∧ FieldsAt w a fs ∧ fs.length ≤ maxLen ∧ ∀ f ∈ fs, f.1.length ≤ maxLen ∧ f.2.length ≤ maxLen := by
  obtain ⟨a0, len, cap, rfl⟩ := okWide_slice Tryz.underlying24 hv
  obtain ⟨fuel, hf⟩ := h
  obtain ⟨a, c, fs, e, hF, h1, h2, _⟩ := open_pairs Tryz.underlying24 Tryz.underlying97 (by kernel_rfl) rfl rfl (by kernel_rfl) (by kernel_rfl) Tryz.underlying9 Tryz.underlying9 (by simpa [Value.cells] using hf)
  exact ⟨a, c, fs, e, hF, h1, h2⟩

set_option maxRecDepth 100000 in
theorem wordC_name (c : UInt8) : nameC (wordC c) = true := by
  have h := wordC_nat c
  have h2 : (wordC c).toNat = 97 + c.toNat % 26 := by omega
  have h3 : wordC c ≠ 58 := fun e => by rw [e] at h2; simp at h2; omega
  simp [nameC, h2, h3]; omega
set_option maxRecDepth 100000 in
theorem word_name (l : List UInt8) : nameB (wordL l) = true := by
  unfold wordL
  split
  · decide
  · rename_i h
    have : wordK l 8 ≠ [] := by
      unfold wordK
      intro e
      have := congrArg List.length e
      simp at this
      exact h this
    simp only [nameB, Bool.and_eq_true, Bool.not_eq_true', List.all_eq_true]
    refine ⟨by cases hw : wordK l 8 with | nil => exact absurd hw this | cons a t => rfl, fun x hx => ?_⟩
    obtain ⟨c, _, rfl⟩ := List.mem_map.1 hx
    exact wordC_name c
set_option maxRecDepth 100000 in
theorem valK_mem {l : List UInt8} {k : Nat} {x : UInt8} (h : x ∈ valK l k) : ∃ i c, i < k ∧ x = valC l.length i c := by
  induction k with
  | zero => cases h
  | succ k ih =>
    rcases List.mem_append.1 h with h | h
    · obtain ⟨i, c, hi, e⟩ := ih h; exact ⟨i, c, by omega, e⟩
    · simp only [List.mem_singleton] at h; exact ⟨k, _, by omega, h⟩
set_option maxRecDepth 100000 in
theorem valC_not13 (n i : Nat) (c : UInt8) : valC n i c ≠ 13 := by
  unfold valC
  split
  · decide
  · rename_i h; intro e; exact h (.inl e)
set_option maxRecDepth 100000 in
theorem valL_end (l : List UInt8) : hasEnd (valL l) = false := by
  refine hasEnd_plain fun h => ?_
  obtain ⟨i, c, _, e⟩ := valK_mem h
  exact valC_not13 _ _ _ e.symm
set_option maxRecDepth 100000 in
theorem valC_edge {n i : Nat} {c : UInt8} (h : i = 0 ∨ i + 1 = n ∨ i = 39) : blankB (valC n i c) = false := by
  unfold valC
  split
  · decide
  · rename_i hn
    simp only [not_or, not_and] at hn
    unfold blankB
    simp only [Bool.or_eq_false_iff, beq_eq_false_iff_ne]
    refine ⟨fun e => ?_, fun e => ?_⟩
    · have := hn.2.2 (.inl e); rcases h with h | h | h
      · exact this.1 h
      · exact this.2.1 h
      · exact this.2.2 h
    · have := hn.2.2 (.inr e); rcases h with h | h | h
      · exact this.1 h
      · exact this.2.1 h
      · exact this.2.2 h
set_option maxRecDepth 100000 in
theorem valK_head {l : List UInt8} {k : Nat} {x : UInt8} (h : (valK l k).head? = some x) : ∃ c, x = valC l.length 0 c := by
  induction k with
  | zero => cases h
  | succ k ih =>
    cases k with
    | zero => simp [valK] at h; exact ⟨_, h.symm⟩
    | succ k =>
      have e : (valK l (k + 1 + 1)).head? = (valK l (k + 1)).head? := by
        show (valK l (k + 1) ++ _).head? = _
        cases hv : valK l (k + 1) with
        | nil => have := valK_len l (k + 1); rw [hv] at this; simp at this
        | cons a t => rfl
      rw [e] at h
      exact ih h
set_option maxRecDepth 100000 in
theorem valL_trim (l : List UInt8) : trimW (valL l) = valL l := by
  have := trim_core (a := []) (m := valL l) (b := []) (by simp) (by simp) ?_ ?_
  · simpa using this
  · intro x hx
    obtain ⟨c, rfl⟩ := valK_head hx
    exact valC_edge (.inl rfl)
  · intro x hx
    unfold valL at hx
    cases hk : min l.length 40 with
    | zero => rw [hk] at hx; cases hx
    | succ k =>
      rw [hk] at hx
      have : x = valC l.length k (l[k]?.getD 0) := by simpa [valK] using hx.symm
      rw [this]
      exact valC_edge (by omega)
set_option maxRecDepth 100000 in
theorem mk_may (f : F) : mayF (mkF f) = true := by
  simp only [mayF, mkF, valueB, word_name, valL_end, valL_trim, Bool.not_false, Bool.true_and, beq_self_eq_true]
set_option maxRecDepth 100000 in
theorem msg_may (fs : List F) : ∀ f ∈ msgK fs 6, mayF f = true := by
  intro f hf
  obtain ⟨g, _, rfl⟩ := List.mem_map.1 hf
  exact mk_may g
set_option maxRecDepth 100000 in
theorem msg_size (fs : List F) : ∀ f ∈ msgK fs 6, f.1.length ≤ 8 ∧ f.2.length ≤ 40 := by
  intro f hf
  obtain ⟨g, _, rfl⟩ := List.mem_map.1 hf
  exact ⟨wordL_len _, valL_len _⟩
set_option maxRecDepth 100000 in
theorem msg_len (fs : List F) : (msgK fs 6).length ≤ 6 := by simp [msgK]; omega
set_option maxRecDepth 100000 in
theorem msg_sum (fs : List F) : sumF (msgK fs 6) ≤ 312 := by
  have key : ∀ l : List F, (∀ f ∈ l, f.1.length ≤ 8 ∧ f.2.length ≤ 40) → sumF l ≤ l.length * 52 := by
    intro l
    induction l with
    | nil => intro _; simp [sumF]
    | cons f l ih =>
      intro h
      have h1 := h f (by simp)
      have h2 := ih fun g hg => h g (by simp [hg])
      have e : sumF (f :: l) = sizeF f + sumF l := by simp [sumF]
      rw [e]; simp only [sizeF, List.length_cons]; omega
  have := key _ (msg_size fs)
  have := msg_len fs
  omega
set_option maxRecDepth 100000 in
theorem msg_mild (fs : List F) (body : ByteArray) (hb : body.size ≤ 2000000) : Mild (msgK fs 6) body :=
  ⟨by have := msg_len fs; omega, hb, fun f hf => by have := msg_size fs f hf; omega⟩
set_option maxRecDepth 100000 in
theorem msg_fault (fs : List F) (body : List UInt8) (hb : body.length ≤ 200) : faultM (msgK fs 6) body = 0 := by
  have h1 := msg_len fs
  have h2 := msg_sum fs
  unfold faultM
  rw [if_neg (by omega), if_neg (by simpa using msg_may fs), if_neg (by omega)]
set_option maxRecDepth 100000 in
theorem msg_parse (fs : List F) (body : List UInt8) (hb : body.length ≤ 200) : parseM (textM (msgK fs 6) body) = (msgK fs 6, body, 0, 0) := by
  have h1 := msg_len fs
  have h2 := msg_sum fs
  unfold parseM
  rw [length_textM, if_neg (by omega)]
  exact parse_text (msg_may fs) (by omega)
set_option maxRecDepth 100000 in
theorem parse_isL (s : ByteArray) (fs : List F) (body : ByteArray) (p e : Int) (h : parseM s.data.toList = (fs, body.data.toList, p, e)) (w : World) (hs : s.size ≤ maxLen) (hm : maxLenCell w) :
    Calls Tryz.prog 32 #[.string s] w fun x w' => ∃ a c, x = .returned (.tuple #[.agg #[.slice a fs.length c, .string body], .int .i64 p, .int .i64 e]) ∧ FieldsAt w' a fs ∧ Below w.heap.size w w' := by
  have := parse_any s w hs hm
  rw [h] at this
  unfold parseV at this
  simp only [S_list] at this
  exact this
set_option maxRecDepth 100000 in
theorem text_size (fs : List F) (body : List UInt8) (hb : body.length ≤ 200) : (S (textM (msgK fs 6) body)).size ≤ maxLen ∧ 2 ≤ (S (textM (msgK fs 6) body)).size := by
  have h2 := msg_sum fs
  rw [size_S, length_textM]; unfold maxLen; omega
end Go.Proofs.YtmnlaijggoojkaaGreatDoor
