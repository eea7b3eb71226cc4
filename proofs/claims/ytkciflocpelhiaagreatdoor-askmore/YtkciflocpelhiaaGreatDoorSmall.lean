/-
  What glob.small does: the walk.
-/
import Derived.Test.YtkciflocpelhiaaGreatDoorRows
import Derived.Test.YtkciflocpelhiaaGreatDoorPure
import Derived.WalkKit
import Derived.WalkSpells
import Derived.WalkLawsBesides
import Derived.Laws.IdiomStrings
namespace Go.Proofs.YtkciflocpelhiaaGreatDoor
open Go.RowKit

/-- The state of the row of bytes behind k rounds. -/
def Lowering (s : ByteArray) (n B k : Nat) (wr : World) : Prop :=
  ∃ cur : Array Value, wr.heap[B]? = some (.cells cur 5 (n, n + 1)) ∧ cur.size = n ∧ s.size ≤ n ∧
    (∀ j (h : j < s.size), j < k → cur[j]? = some (.int .u8 (low1 s[j]).toNat)) ∧ (∀ j (h : j < s.size), k ≤ j → cur[j]? = some (.int .u8 s[j].toNat))

theorem lowering_start (s : ByteArray) (w : World) (cap : Nat) :
    Lowering s (bytesRow s cap).size w.heap.size 0 (w.drew.alloc (.cells (bytesRow s cap) 5 ((bytesRow s cap).size, (bytesRow s cap).size + 1))) := by
  refine ⟨bytesRow s cap, ?_, rfl, ?_, fun j h hj => by omega, fun j h _ => ?_⟩
  · show (w.heap.push _)[w.heap.size]? = _
    simp
  · simp [bytesRow]
  · unfold bytesRow
    have hj : j < (s.data.map (fun b => Value.int .u8 b.toNat)).size := by simpa using h
    rw [Array.getElem?_append_left hj, Array.getElem?_eq_getElem hj]
    simp
    rfl
theorem lowering_cell {s : ByteArray} {n B k : Nat} {wr : World} (h : Lowering s n B k wr) (hk : k < s.size) : wr.cell? ⟨B, k, none⟩ = some (.int .u8 s[k].toNat) ∧ wr.frozen? ⟨B, k, none⟩ = false := by
  obtain ⟨cur, h1, h2, h3, h4, h5⟩ := h
  exact ⟨(cell_of_row _ _ _ _ _ _ h1).trans (h5 k hk (Nat.le_refl _)), frozen_mark h1 (by omega)⟩
theorem lowering_keep {s : ByteArray} {n B k : Nat} {wr : World} (h : Lowering s n B k wr) (hk : k < s.size) (hl : low1 s[k] = s[k]) : Lowering s n B (k + 1) wr := by
  obtain ⟨cur, h1, h2, h3, h4, h5⟩ := h
  refine ⟨cur, h1, h2, h3, fun j h hj => ?_, fun j h hj => h5 j h (by omega)⟩
  by_cases e : j = k
  · subst e
    rw [h5 j h (Nat.le_refl _), hl]
  · exact h4 j h (by omega)
theorem lowering_set {s : ByteArray} {n B k : Nat} {wr : World} (h : Lowering s n B k wr) (hk : k < s.size) (x : Int) (hl : ((low1 s[k]).toNat : Int) = x) : Lowering s n B (k + 1) (wr.setCell ⟨B, k, none⟩ (.int .u8 x)) := by
  obtain ⟨cur, h1, h2, h3, h4, h5⟩ := h
  refine ⟨_, setCell_mark _ h1, by simpa using h2, h3, fun j h hj => ?_, fun j h hj => ?_⟩
  · by_cases e : j = k
    · subst e
      rw [Array.getElem?_setIfInBounds_self_of_lt (by omega), hl]
    · rw [Array.getElem?_setIfInBounds_ne (by omega)]
      exact h4 j h (by omega)
  · rw [Array.getElem?_setIfInBounds_ne (by omega)]
    exact h5 j h (by omega)
theorem lowering_back {s : ByteArray} {n B cap : Nat} {wr : World} (h : Lowering s n B s.size wr) :
    (convert 70 9 (.slice (some ⟨B, 0, none⟩) s.size cap)).run Tryz.prog wr = .ok (.string (low s)) wr := by
  obtain ⟨cur, h1, h2, h3, h4, h5⟩ := h
  have hlen : (lowL s.data.toList).length = s.size := by rw [lowL, List.length_map]; exact size_list s
  have := run_convert_bytes_back (P := Tryz.prog) wr 70 9 5 ⟨B, 0, none⟩ cap (lowL s.data.toList) Tryz.underlying70 Tryz.underlying5 Tryz.underlying9 (fun j hj => by
    have hj' : j < s.size := by omega
    have e : (⟨B, 0, none⟩ : Addr).add j = ⟨B, j, none⟩ := by simp [Addr.add]; omega
    rw [e, cell_of_row _ _ _ _ _ _ h1, h4 j hj' hj']
    congr 2
    simp only [lowL, List.getElem_map]
    rfl)
  rw [hlen] at this
  exact this

set_option maxHeartbeats 400000 in
/-- glob.small: the text with small letters; nothing old turns. -/
theorem small_any (s : ByteArray) (w : World) (hs : s.size ≤ 4611686018427387904) :
    Calls Tryz.prog 80 #[.string s] w fun e w' => e = .returned (.string (low s)) ∧ Below w.heap.size w w' := by
  have hconv := run_bytes_of_string (P := Tryz.prog) w 9 70 5 s Tryz.underlying9 Tryz.underlying70 Tryz.underlying5
  have hst := lowering_start s w (grownCap w s.size 0 5)
  have hbs : Below w.heap.size w (w.drew.alloc (.cells (bytesRow s (grownCap w s.size 0 5)) 5 ((bytesRow s (grownCap w s.size 0 5)).size, (bytesRow s (grownCap w s.size 0 5)).size + 1))) :=
    (Below.refl _ _).drew.alloc (by simp) _
  generalize grownCap w s.size 0 5 = cap at *
  generalize bytesRow s cap = C at *
  go_enter Tryz.func80, Tryz.ntmps80
  go_wp2
  go_loopw [10] (fun i wr => ∃ k : Nat, k ≤ s.size ∧ i = .int .i64 k ∧ Lowering s C.size w.heap.size k wr ∧ Below w.heap.size w wr) (fun i _ => s.size - (intOf i).toNat)
  case atStart => exact ⟨0, Nat.zero_le _, rfl, hst, hbs⟩
  case round =>
    obtain ⟨k, hk, rfl, hL, hB⟩ := hrel
    clear hst hbs hconv
    by_cases hlt : k < s.size
    · obtain ⟨hc, hf⟩ := lowering_cell hL hlt
      have hu := s[k].toNat_lt
      by_cases hg : 65 ≤ (s[k].toNat : Int) ∧ (s[k].toNat : Int) ≤ 90
      · have hnext := lowering_set hL hlt ((s[k].toNat : Int) - 65 + 97) (by have := low1_yes hg; omega)
        obtain ⟨hg1, hg2⟩ := hg
        have hB' := hB.setCell (p := ⟨w.heap.size, k, none⟩) (Nat.le_refl _) (.int .u8 ((s[k].toNat : Int) - 65 + 97))
        have HN : Hid _ := hnext
        have HB : Hid _ := hB'
        clear hnext hB'
        go_wp2
        go_roundw
        case rel => exact ⟨k + 1, by omega, by go_num, HN.out, HB.out⟩
        case measure => simp [intOf]; omega
      · have HN : Hid _ := lowering_keep hL hlt (low1_no hg)
        go_wp2
        all_goals
          go_roundw
          case rel => exact ⟨k + 1, by omega, by go_num, HN.out, hB⟩
          case measure => simp [intOf]; omega
    · obtain rfl : k = s.size := by omega
      have hback := lowering_back (cap := cap) hL
      go_wp2
      go_ret
      exact ⟨rfl, hB⟩
end Go.Proofs.YtkciflocpelhiaaGreatDoor
