/-
  An address is a list of one; its parts are what it is put together of: walked.
-/
import Derived.Test.YtmcpipgjckgjgaaDoorWhoFace
import Derived.Test.YtmcpipgjckgjgaaDoorWhoWord
import Derived.Deep.RegionHeld3
namespace Go.Proofs.YtmcpipgjckgjgaaDoor
open Go.RowKit

theorem listM_one {s : List UInt8} {l : List Adr} (h : s.length ≤ 2000) (hl : listP s = some l) (h20 : l.length ≤ 20) : listM s = (l, 0) := by
  unfold listM; rw [if_neg (by omega), hl]; simp only; rw [if_neg (by omega)]
theorem part_kinds {a : Adr} (h : lawful a) : partM 1 a.1 a.2 = (textA a, 0) ∧ partM 2 a.1 a.2 = (a.1, 0) ∧ partM 3 a.1 a.2 = (a.2, 0) := by
  have hc : ¬ checkA a.1 a.2 ≠ 0 := by simpa using h.check
  refine ⟨?_, ?_, ?_⟩ <;> (unfold partM; rw [if_neg hc]; rfl)

set_option maxHeartbeats 8000000 in
set_option maxRecDepth 100000 in
theorem whoBack_walk (w : World) (_ : maxLenCell w) (l d g : ByteArray) (hl : l.size ≤ maxLen) (hd : d.size ≤ maxLen) (_ : g.size ≤ maxLen) :
    Calls Tryd.prog 4 #[.agg #[.string l, .string d, .string g]] w fun e w' => e = .returned (.bool true) ∧ Below w.heap.size w w' := by
  have HL : Hid _ := hl
  have HD : Hid _ := hd
  have hA := adrOf_lawful l.data.toList d.data.toList
  obtain ⟨a, ha⟩ : ∃ a, a = adrOf l.data.toList d.data.toList := ⟨_, rfl⟩
  rw [← ha] at hA
  have HA : Hid _ := ha
  have hlen := hA.len
  have hts := hA.size
  have sx : (S a.1).size ≤ 8 := by rw [size_S]; exact hlen.1
  have sy : (S a.2).size ≤ 12 := by rw [size_S]; exact hlen.2
  obtain ⟨x, hx⟩ : ∃ x, x = textA a := ⟨_, rfl⟩
  have st : (S x).size ≤ 21 := by rw [size_S, hx]; exact hts
  have hk := part_kinds hA
  have Q1 : Hid (partM 1 (S a.1).data.toList (S a.2).data.toList = (x, 0)) := by unfold Hid; rw [list_S, list_S, hx]; exact hk.1
  have Q2 : Hid (partM 2 (S a.1).data.toList (S a.2).data.toList = (a.1, 0)) := by unfold Hid; rw [list_S, list_S]; exact hk.2.1
  have Q3 : Hid (partM 3 (S a.1).data.toList (S a.2).data.toList = (a.2, 0)) := by unfold Hid; rw [list_S, list_S]; exact hk.2.2
  have M3 : Hid (listM (S x).data.toList = ([a], 0)) := by unfold Hid; rw [list_S, hx]; exact listM_one (by omega) (listP_text hA) (by simp)
  have Z3 : Hid ((S x).size ≤ maxLen) := by unfold Hid maxLen; omega
  have HC : Hid (checkA (S a.1).data.toList (S a.2).data.toList = 0) := by unfold Hid; rw [list_S, list_S]; exact hA.check
  have HE : Hid (S a.1 ++ ⟨#[64]⟩ ++ S a.2 = S x) := by unfold Hid; rw [at_text, list_S, list_S, hx]; rfl
  clear hl hd hA hlen hts hx hk ha
  go_enter Tryd.func4, Tryd.ntmps4
  go_wp2_with fail
  refine (address_any l d g _ HL.out HD.out).mono ?_
  rintro e w1 ⟨rfl, hb1⟩
  rw [← HA.out]
  have hB1 : Below w.heap.size w w1 := wnext ((Below.refl _ _).alloc (Nat.le_refl _) _) hb1 (Nat.le_refl _)
  clear hb1
  have hT : Two (w1.alloc (.cells #[.string (S a.1), .string (S a.2)] 31)) w1.heap.size a.1 a.2 := by
    unfold Two
    show (w1.heap.push _)[w1.heap.size]? = _
    rw [Array.getElem?_push_size]
  have HT : Hid _ := hT
  have HN1 : Hid (Below w.heap.size w (w1.alloc (.cells #[.string (S a.1), .string (S a.2)] 31))) := wmore hB1 (Nat.le_refl _) _
  clear hT hB1
  go_wp2_with fail
  refine (part_any 1 (S a.1) (S a.2) _ (by omega) (by omega)).mono ?_
  rintro e w2 ⟨rfl, hb2⟩
  rw [Q1.out]
  have HT2 : Hid (Two w2 w1.heap.size a.1 a.2) := Two.below HT.out hb2
  have hB2 := wnext HN1.out hb2 (Nat.le_refl _)
  clear hb2
  go_wp2_with fail
  refine (list_any _ _ Z3.out).mono ?_
  rw [M3.out]
  rintro e w3 ⟨p3, c3, rfl, hA3, hb3⟩
  obtain ⟨b, rfl, hbl, k0, k1⟩ := hA3 0 a rfl
  simp only [Nat.zero_mul, Nat.zero_add] at k0 k1
  have HT3 : Hid (Two w3 w1.heap.size a.1 a.2) := Two.below HT2.out hb3
  have t0 := HT3.out.c0
  have t1 := HT3.out.c1
  have hB3 := wnext hB2 hb3 (Nat.le_refl _)
  clear hb3 hB2 hA3
  go_wp2_with fail
  refine (part_any 2 (S a.1) (S a.2) _ (by omega) (by omega)).mono ?_
  rintro e w4 ⟨rfl, hb4⟩
  rw [Q2.out]
  have HT4 : Hid (Two w4 w1.heap.size a.1 a.2) := Two.below HT3.out hb4
  have t0' := HT4.out.c0
  have t1' := HT4.out.c1
  have m0 := wcell_next k0 hb4
  have m1 := wcell_next k1 hb4
  have hB4 := wnext hB3 hb4 (Nat.le_refl _)
  clear hb4 hB3 t0 t1 k0 k1
  go_wp2_with fail
  refine (part_any 3 (S a.1) (S a.2) _ (by omega) (by omega)).mono ?_
  rintro e w5 ⟨rfl, hb5⟩
  rw [Q3.out]
  have HT5 : Hid (Two w5 w1.heap.size a.1 a.2) := Two.below HT4.out hb5
  have t0 := HT5.out.c0
  have t1 := HT5.out.c1
  have k0 := wcell_next m0 hb5
  have k1 := wcell_next m1 hb5
  have hB5 := wnext hB4 hb5 (Nat.le_refl _)
  have he := HE.out
  have a1 : ¬ 9223372036854775807 < (S a.1).size + 1 := by omega
  have a2 : ¬ 9223372036854775807 < (S a.1).size + 1 + (S a.2).size := by omega
  clear hb5 hB4 t0' t1' m0 m1 hbl
  go_wp2
  go_region_held3 (fun w' => w'.cell? ⟨w1.heap.size, 0, none⟩ = some (.string (S a.1)) ∧ w'.cell? ⟨w1.heap.size, 1, none⟩ = some (.string (S a.2)) ∧ w'.cell? ⟨b, 0, none⟩ = some (.string (S a.1)) ∧ w'.cell? ⟨b, 1, none⟩ = some (.string (S a.2))) (go_keep)
    (first
      | (go_at_call 12
         refine (check_any (S a.1) (S a.2) _ (by omega) (by omega)).mono ?_
         rintro e w6 ⟨rfl, hb6⟩
         rw [HC.out]
         have n0 : w6.cell? ⟨w1.heap.size, 0, none⟩ = some (.string (S a.1)) := wcell_next (w := w5.drew) t0 hb6
         have n1 : w6.cell? ⟨w1.heap.size, 1, none⟩ = some (.string (S a.2)) := wcell_next (w := w5.drew) t1 hb6
         have n2 : w6.cell? ⟨b, 0, none⟩ = some (.string (S a.1)) := wcell_next (w := w5.drew) k0 hb6
         have n3 : w6.cell? ⟨b, 1, none⟩ = some (.string (S a.2)) := wcell_next (w := w5.drew) k1 hb6))
  go_wp2
  go_ret
  exact ⟨rfl, wnext hB5.drew hb6 (Nat.le_refl _)⟩
end Go.Proofs.YtmcpipgjckgjgaaDoor
