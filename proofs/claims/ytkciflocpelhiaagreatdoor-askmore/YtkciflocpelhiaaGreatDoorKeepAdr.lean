/-
  What the laws' makers of a word and of an address do: the walks.
-/
import Derived.Test.YtkciflocpelhiaaGreatDoorKeepWx
import Derived.Test.YtkciflocpelhiaaGreatDoorWhoChk
import Derived.Test.YtkciflocpelhiaaGreatDoorWhoPure
import Derived.Test.YtkciflocpelhiaaGreatDoorKeepWd
import Derived.WalkKit
import Derived.WalkSpells
import Derived.WalkLawsBesides
import Derived.Laws.IdiomStrings
import Derived.Deep.RegionHeld3
namespace Go.Proofs.YtkciflocpelhiaaGreatDoor
open Go.RowKit

theorem word_wordy (l : List UInt8) : wordy (wordL l) := by
  refine ⟨?_, wordL_len l, ?_⟩
  · unfold wordL wordK
    split
    · simp
    · rename_i h
      cases l with
      | nil => exact absurd rfl h
      | cons c t => simp
  · intro c hc
    unfold wordL at hc
    split at hc
    · simp at hc; subst hc; decide
    · obtain ⟨x, _, rfl⟩ := List.mem_map.1 hc
      have := wordC_nat x
      omega
/-- The address that a law makes of raw texts. -/
def adrOf (l d : List UInt8) : Adr := (wordL l, wordL d ++ orgL)
theorem adrOf_lawful (l d : List UInt8) : lawful (adrOf l d) := ⟨word_wordy l, _, word_wordy d, rfl⟩
theorem org_text (l : List UInt8) : S l ++ ⟨#[46, 111, 114, 103]⟩ = S (l ++ orgL) := by
  rw [← S_list (S l ++ ⟨#[46, 111, 114, 103]⟩)]
  simp [list_S, orgL]

set_option maxHeartbeats 8000000 in
set_option maxRecDepth 100000 in
theorem address_any (l d g : ByteArray) (w : World) (hl : l.size ≤ maxLen) (hd : d.size ≤ maxLen) :
    Calls Tryz.prog 12 #[.agg #[.string l, .string d, .string g]] w fun e w' => e = .returned (.agg #[.string (S (adrOf l.data.toList d.data.toList).1), .string (S (adrOf l.data.toList d.data.toList).2)]) ∧ Below w.heap.size w w' := by
  have HL : Hid _ := hl
  have HD : Hid _ := hd
  clear hl hd
  obtain ⟨x, hx⟩ : ∃ x, x = wordL l.data.toList := ⟨_, rfl⟩
  obtain ⟨y, hy⟩ : ∃ y, y = wordL d.data.toList := ⟨_, rfl⟩
  have sx : (S x).size ≤ 8 := by rw [size_S, hx]; exact wordL_len _
  have sy : (S y).size ≤ 8 := by rw [size_S, hy]; exact wordL_len _
  have HA : Hid (adrOf l.data.toList d.data.toList = (x, y ++ orgL)) := by unfold Hid adrOf; rw [hx, hy]
  have HO : Hid (S y ++ ⟨#[46, 111, 114, 103]⟩ = S (y ++ orgL)) := org_text y
  have HX : Hid _ := hx
  have HY : Hid _ := hy
  clear hx hy
  obtain ⟨W0, hW0⟩ : ∃ W0, W0 = (w.alloc (.cells #[.string l, .string d, .string g] 23)).alloc (.cells #[.string ⟨#[]⟩, .string ⟨#[]⟩] 31) := ⟨_, rfl⟩
  have hB0 : Below w.heap.size w W0 := by rw [hW0]; exact ((Below.refl _ _).alloc (Nat.le_refl _) _).alloc (by simp) _
  have hz0 : w.heap.size + 2 = W0.heap.size := by rw [hW0]; simp
  have c0 : W0.cell? ⟨w.heap.size, 0, none⟩ = some (.string l) := by rw [hW0]; simp
  have c1 : W0.cell? ⟨w.heap.size, 1, none⟩ = some (.string d) := by rw [hW0]; simp
  have r0 : W0.cell? ⟨w.heap.size + 1, 0, none⟩ = some (.string ⟨#[]⟩) := by rw [hW0]; simp
  have r1 : W0.cell? ⟨w.heap.size + 1, 1, none⟩ = some (.string ⟨#[]⟩) := by rw [hW0]; simp
  have f0 : W0.frozen? ⟨w.heap.size + 1, 0, none⟩ = false := by rw [hW0]; simp
  have f1 : W0.frozen? ⟨w.heap.size + 1, 1, none⟩ = false := by rw [hW0]; simp
  have HW : Hid _ := hW0
  clear hW0
  go_enter Tryz.func12, Tryz.ntmps12
  go_wp2
  rw [← HW.out]
  have cD0 : W0.drew.cell? ⟨w.heap.size, 0, none⟩ = some (.string l) := c0
  have cD1 : W0.drew.cell? ⟨w.heap.size, 1, none⟩ = some (.string d) := c1
  have hadd : ¬ 9223372036854775807 < (S y).size + 4 := by omega
  have hne : w.heap.size ≠ w.heap.size + 1 := by omega
  have hne' : w.heap.size + 1 ≠ w.heap.size := by omega
  go_region_held3 (fun w' => w'.cell? ⟨w.heap.size, 0, none⟩ = some (.string l) ∧ w'.cell? ⟨w.heap.size, 1, none⟩ = some (.string d)) (go_keep)
    (first
       | (go_at_call_of 13 (Value.string l)
          refine (word_any l _ HL.out).mono ?_
          rintro e w1 ⟨rfl, hb1⟩
          rw [← HX.out]
          have e0 : w1.cell? ⟨w.heap.size, 0, none⟩ = some (.string l) := wcell_next (w := W0.drew) c0 hb1
          have e1 : w1.cell? ⟨w.heap.size, 1, none⟩ = some (.string d) := wcell_next (w := W0.drew) c1 hb1
          have s1 : w.heap.size + 1 < w1.heap.size := by have := hb1.size; have h2 : W0.drew.heap.size = W0.heap.size := rfl; omega)
       | (go_at_call_of 13 (Value.string d)
          refine (word_any d _ HD.out).mono ?_
          rintro e w2 ⟨rfl, hb2⟩
          rw [← HY.out]
          have hz2 := hb2.size
          have i0 : w2.cell? ⟨w.heap.size, 0, none⟩ = some (.string l) := wcell_next e0 hb2
          have i1 : w2.cell? ⟨w.heap.size, 1, none⟩ = some (.string d) := wcell_next e1 hb2
          have g0 : w2.cell? ⟨w.heap.size + 1, 0, none⟩ = some (.string ⟨#[]⟩) := wcell_next (wcell_next (w := W0.drew) r0 hb1) hb2
          have g1 : w2.cell? ⟨w.heap.size + 1, 1, none⟩ = some (.string ⟨#[]⟩) := wcell_next (wcell_next (w := W0.drew) r1 hb1) hb2
          have k0 : w2.frozen? ⟨w.heap.size + 1, 0, none⟩ = false := (hb2.frozen s1).trans ((hb1.frozen (by show w.heap.size + 1 < W0.heap.size; omega)).trans f0)
          have k1 : w2.frozen? ⟨w.heap.size + 1, 1, none⟩ = false := (hb2.frozen s1).trans ((hb1.frozen (by show w.heap.size + 1 < W0.heap.size; omega)).trans f1)))
  rw [HO.out]
  have hB2 : Below w.heap.size w ((w2.setCell ⟨w.heap.size + 1, 0, none⟩ (.string (S x))).setCell ⟨w.heap.size + 1, 1, none⟩ (.string (S (y ++ orgL)))) :=
    ((wnext (wnext hB0.drew hb1 (Nat.le_refl _)) hb2 (Nat.le_refl _)).setCell (by simp) _).setCell (by simp) _
  have HB2 : Hid _ := hB2
  clear hB2
  go_wp2
  refine bodyPost_ret (v := .agg #[.string (S x), .string (S (y ++ orgL))]) (by simp [results, Tryz.results12, go_sem, g0, g1]) rfl ⟨?_, HB2.out⟩
  rw [HA.out]
end Go.Proofs.YtkciflocpelhiaaGreatDoor
