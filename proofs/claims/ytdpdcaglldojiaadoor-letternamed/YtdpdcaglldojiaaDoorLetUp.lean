/-
  Plain facts and facts on memory for the law on names: letters that are turned great in a row of bytes; texts that an append beside them leaves alone.
-/
import Derived.Test.YtdpdcaglldojiaaDoorSmall
import Derived.Test.YtdpdcaglldojiaaDoorLetNamed
import Derived.Test.YtdpdcaglldojiaaDoorLetFolded
import Derived.Test.YtdpdcaglldojiaaDoorKeepPick
namespace Go.Proofs.YtdpdcaglldojiaaDoor
open Go.RowKit

theorem msg_small (fs : List F) : ∀ f ∈ msgK fs 6, smallB f.1 := by
  intro f hf
  obtain ⟨g, _, rfl⟩ := List.mem_map.1 hf
  exact word_small _
theorem named_fault {M : List F} {n : List UInt8} (hl : M.length ≤ 6) (hs : sumF M ≤ 312) (hm : ∀ f ∈ M, mayF f = true) (hn : nameB n = true) (hnl : n.length ≤ 8) : faultM (M ++ [(n, [118])]) [] = 0 := by
  have hv : valueB [118] = true := by decide
  unfold faultM
  rw [if_neg (by simp; omega), if_neg ?_, if_neg ?_]
  · rw [sumF_snoc]; simp [sizeF]; omega
  · simp only [Bool.not_eq_false, List.all_eq_true]
    intro f hf
    rcases List.mem_append.1 hf with hf | hf
    · exact hm f hf
    · simp at hf; subst hf; simp [mayF, hn, hv]
theorem cutB_nil (n : Nat) : cutB ⟨#[]⟩ n = ⟨#[]⟩ := by
  have h : (cutB ⟨#[]⟩ n).size = 0 := by rw [cutB_size]; simp [ByteArray.size]
  have : (cutB ⟨#[]⟩ n).data.toList = [] := List.length_eq_zero_iff.1 (by rw [size_list]; exact h)
  rw [← S_list (cutB ⟨#[]⟩ n), this]; rfl

/-- The state of the row of bytes behind k rounds. -/
def Raising (s : ByteArray) (n B k : Nat) (wr : World) : Prop :=
  ∃ cur : Array Value, wr.heap[B]? = some (.cells cur 5 (n, n + 1)) ∧ cur.size = n ∧ s.size ≤ n ∧
    (∀ j (h : j < s.size), j < k → cur[j]? = some (.int .u8 (upC s[j]).toNat)) ∧ (∀ j (h : j < s.size), k ≤ j → cur[j]? = some (.int .u8 s[j].toNat))
theorem raising_start (s : ByteArray) (w : World) (cap : Nat) :
    Raising s (bytesRow s cap).size w.heap.size 0 (w.drew.alloc (.cells (bytesRow s cap) 5 ((bytesRow s cap).size, (bytesRow s cap).size + 1))) := by
  obtain ⟨cur, h1, h2, h3, _, h5⟩ := lowering_start s w cap
  exact ⟨cur, h1, h2, h3, fun j h hj => by omega, h5⟩
theorem raising_cell {s : ByteArray} {n B k : Nat} {wr : World} (h : Raising s n B k wr) (hk : k < s.size) : wr.cell? ⟨B, k, none⟩ = some (.int .u8 s[k].toNat) ∧ wr.frozen? ⟨B, k, none⟩ = false := by
  obtain ⟨cur, h1, h2, h3, h4, h5⟩ := h
  exact ⟨(cell_of_row _ _ _ _ _ _ h1).trans (h5 k hk (Nat.le_refl _)), frozen_mark h1 (by omega)⟩
theorem raising_set {s : ByteArray} {n B k : Nat} {wr : World} (h : Raising s n B k wr) (hk : k < s.size) (x : Int) (hl : ((upC s[k]).toNat : Int) = x) : Raising s n B (k + 1) (wr.setCell ⟨B, k, none⟩ (.int .u8 x)) := by
  obtain ⟨cur, h1, h2, h3, h4, h5⟩ := h
  refine ⟨_, setCell_mark _ h1, by simpa using h2, h3, fun j h hj => ?_, fun j h hj => ?_⟩
  · by_cases e : j = k
    · subst e
      rw [Array.getElem?_setIfInBounds_self_of_lt (by omega), hl]
    · rw [Array.getElem?_setIfInBounds_ne (by omega)]
      exact h4 j h (by omega)
  · rw [Array.getElem?_setIfInBounds_ne (by omega)]
    exact h5 j h (by omega)
theorem raising_below {s : ByteArray} {n B k : Nat} {wr wq : World} (h : Raising s n B k wr) (hb : Below wr.heap.size wr wq) (hB : B < wr.heap.size) : Raising s n B k wq := by
  obtain ⟨cur, h1, r⟩ := h
  exact ⟨cur, (hb.block B hB).trans h1, r⟩
theorem raising_back {l : List UInt8} {n B cap : Nat} {wr : World} (h : Raising (S l) n B (S l).size wr) :
    (convert 42 9 (.slice (some ⟨B, 0, none⟩) (S l).size cap)).run Tryd.prog wr = .ok (.string (S (l.map upC))) wr := by
  obtain ⟨cur, h1, h2, h3, h4, h5⟩ := h
  have hlen : (l.map upC).length = (S l).size := by rw [List.length_map, size_S]
  have := run_convert_bytes_back (P := Tryd.prog) wr 42 9 5 ⟨B, 0, none⟩ cap (l.map upC) Tryd.underlying42 Tryd.underlying5 Tryd.underlying9 (fun j hj => by
    have hj' : j < (S l).size := by omega
    have e : (⟨B, 0, none⟩ : Addr).add j = ⟨B, j, none⟩ := by simp [Addr.add]; omega
    rw [e, cell_of_row _ _ _ _ _ _ h1, h4 j hj' hj']
    congr 2
    simp only [List.getElem_map]
    rfl)
  rw [hlen] at this
  exact this

theorem texts_keep {w w' : World} {B : Nat} {a : Option Addr} {ts : List (List UInt8)} (h : TextsAt w a ts) (hf : TextsFrom B a ts) (hs : w.heap.size ≤ w'.heap.size) (hk : ∀ k, B ≤ k → k < w.heap.size → w'.heap[k]? = w.heap[k]?) : TextsAt w' a ts := by
  intro i t ht
  obtain ⟨b, off, ha, hlt, h1⟩ := h i t ht
  obtain ⟨b', off', ha', hB⟩ := hf i t ht
  obtain ⟨rfl, rfl⟩ : b = b' ∧ off = off' := by rw [ha] at ha'; simpa using ha'
  exact ⟨b, off, ha, Nat.lt_of_lt_of_le hlt hs, (World.cell?_of_block (w := w) (a := ⟨b, off + i, none⟩) (hk b hB hlt)).trans h1⟩
theorem fields_far {w : World} {g : Nat} {fs : List F} (h : FieldsAt w (some ⟨g, 0, none⟩) fs) {p : Addr} (hn : g ≠ p.block) (v : Value) : FieldsAt (w.setCell p v) (some ⟨g, 0, none⟩) fs := by
  intro i f hf
  obtain ⟨b, off, ha, hb, h1, h2⟩ := h i f hf
  have hbg : g = b := by simp only [Option.some.injEq, Addr.mk.injEq, and_true] at ha; exact ha.1
  have hh : (w.setCell p v).heap[b]? = w.heap[b]? := Below.heap_setCell _ _ _ _ (by rw [← hbg]; exact hn)
  exact ⟨b, off, ha, by simpa [World.setCell] using hb, (World.cell?_of_block (w := w) (a := ⟨b, off + i * 2, none⟩) hh).trans h1, (World.cell?_of_block (w := w) (a := ⟨b, off + i * 2 + 1, none⟩) hh).trans h2⟩
theorem fields_first {w : World} {g : Nat} {f : F} {fs : List F} (h : FieldsAt w (some ⟨g, 0, none⟩) fs) (hf : fs[0]? = some f) : w.cell? ⟨g, 0, none⟩ = some (.string (S f.1)) := by
  obtain ⟨b, off, ha, _, h1, _⟩ := h 0 f hf
  simp only [Option.some.injEq, Addr.mk.injEq, and_true] at ha
  obtain ⟨rfl, rfl⟩ := ha
  simpa using h1
end Go.Proofs.YtdpdcaglldojiaaDoor
