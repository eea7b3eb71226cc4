/-
  What is no address spoils a list: walked.
-/
import Derived.Test.YtmcpipgjckgjgaaDoorWhoFace
import Derived.Test.YtmcpipgjckgjgaaDoorWhoWord
import Derived.Test.YtmcpipgjckgjgaaDoorWhoBads
import Derived.Test.YtmcpipgjckgjgaaDoorKeepPick
namespace Go.Proofs.YtmcpipgjckgjgaaDoor
open Go.RowKit

theorem S_join (a b : List UInt8) : S a ++ S b = S (a ++ b) := by
  rw [← S_list (S a ++ S b)]
  simp [list_S]
def badsV : Array Value := (badsL.map fun b => Value.string (S b)).toArray
theorem bads_cell (w : World) (j : Nat) (b : List UInt8) (h : badsL[j]? = some b) (t : TypeId) : (w.alloc (.cells badsV t)).cell? ⟨w.heap.size, j, none⟩ = some (.string (S b)) := by
  simp [badsV, h]
theorem bads_short : ∀ b ∈ badsL, b.length ≤ 8 := by decide
theorem listM_none {s : List UInt8} (h : s.length ≤ 2000) (hl : listP s = none) : listM s = ([], 3) := by
  unfold listM; rw [if_neg (by omega), hl]
theorem listM_some {s : List UInt8} {l : List Adr} (h : s.length ≤ 2000) (hl : listP s = some l) (h20 : l.length ≤ 20) : listM s = (l, 0) := by
  unfold listM; rw [if_neg (by omega), hl]; simp only; rw [if_neg (by omega)]
theorem part_all {a : Adr} (h : lawful a) : partM 1 a.1 a.2 = (textA a, 0) := by
  unfold partM
  rw [if_neg (by simpa using h.check)]
  rfl

set_option maxHeartbeats 8000000 in
set_option maxRecDepth 100000 in
theorem whoBad_walk (w : World) (_ : maxLenCell w) (l d g : ByteArray) (hl : l.size ≤ maxLen) (hd : d.size ≤ maxLen) (_ : g.size ≤ maxLen) (n : Int) (hn : (Lit.int .i64 n).wf = true) :
    Calls Tryd.prog 6 #[.agg #[.string l, .string d, .string g], .int .i64 n] w fun e w' => e = .returned (.bool true) ∧ Below w.heap.size w w' := by
  have HL : Hid _ := hl
  have HD : Hid _ := hd
  have HK : Hid _ := hn
  have hA := adrOf_lawful l.data.toList d.data.toList
  obtain ⟨a, ha⟩ : ∃ a, a = adrOf l.data.toList d.data.toList := ⟨_, rfl⟩
  rw [← ha] at hA
  have HA : Hid _ := ha
  have HLW : Hid (lawful a) := hA
  have hlen := hA.len
  have hts := hA.size
  have sx : (S a.1).size ≤ 8 := by rw [size_S]; exact hlen.1
  have sy : (S a.2).size ≤ 12 := by rw [size_S]; exact hlen.2
  obtain ⟨x, hx⟩ : ∃ x, x = textA a := ⟨_, rfl⟩
  have st : (S x).size ≤ 21 := by rw [size_S, hx]; exact hts
  have HQ : Hid (partM 1 (S a.1).data.toList (S a.2).data.toList = (x, 0)) := by unfold Hid; rw [list_S, list_S, hx]; exact part_all hA
  obtain ⟨j, hj⟩ : ∃ j : Nat, j = pickN n 17 := ⟨_, rfl⟩
  have hj1 : j < 17 := by have := pickN_lt n 17 (by omega); omega
  obtain ⟨b, hb⟩ : ∃ b, badsL[j]? = some b := ⟨_, List.getElem?_eq_getElem (by exact hj1)⟩
  have hbm : b ∈ badsL := List.mem_of_getElem? hb
  have hbl := bads_short b hbm
  have sb : (S b).size ≤ 8 := by rw [size_S]; exact hbl
  have HJ : Hid _ := hj
  have HBC : Hid (∀ (w : World) (t : TypeId), (w.alloc (.cells badsV t)).cell? ⟨w.heap.size, j, none⟩ = some (.string (S b))) := fun w t => bads_cell w j b hb t
  have E1 : Hid (S b ++ (⟨#[44]⟩ : ByteArray) ++ S x = S (b ++ 44 :: x)) := by unfold Hid; show S b ++ S [44] ++ S x = _; rw [S_join, S_join]; simp
  have E2 : Hid (S x ++ (⟨#[44]⟩ : ByteArray) ++ S b = S (x ++ 44 :: b)) := by unfold Hid; show S x ++ S [44] ++ S b = _; rw [S_join, S_join]; simp
  have M1 : Hid (listM (S (b ++ 44 :: x)).data.toList = ([], 3)) := by unfold Hid; rw [list_S, hx]; exact listM_none (by simp; omega) (bad_first hA hbm)
  have M2 : Hid (listM (S (x ++ 44 :: b)).data.toList = ([], 3)) := by unfold Hid; rw [list_S, hx]; exact listM_none (by simp; omega) (bad_last hA hbm)
  have M3 : Hid (listM (S x).data.toList = ([a], 0)) := by unfold Hid; rw [list_S, hx]; exact listM_some (by omega) (listP_text hA) (by simp)
  have Z1 : Hid ((S (b ++ 44 :: x)).size ≤ maxLen) := by unfold Hid maxLen; rw [size_S] at sb st ⊢; simp; omega
  have Z2 : Hid ((S (x ++ 44 :: b)).size ≤ maxLen) := by unfold Hid maxLen; rw [size_S] at sb st ⊢; simp; omega
  have Z3 : Hid ((S x).size ≤ maxLen) := by unfold Hid maxLen; omega
  have i1 : (0 : Int) ≤ (j : Int) := by omega
  have i2 : (j : Int) < 17 := by omega
  clear hl hd hn hA hlen hts hx hj hb hbm hbl ha
  go_enter Tryd.func6, Tryd.ntmps6
  go_wp2_with fail
  refine (address_any l d g _ HL.out HD.out).mono ?_
  rintro e w1 ⟨rfl, hb1⟩
  rw [← HA.out]
  have hB1 : Below w.heap.size w w1 := wnext ((Below.refl _ _).alloc (Nat.le_refl _) _) hb1 (Nat.le_refl _)
  clear hb1
  go_wp2_with fail
  refine (part_any 1 (S a.1) (S a.2) _ (by omega) (by omega)).mono ?_
  rintro e w2 ⟨rfl, hb2⟩
  rw [HQ.out]
  have hB2 := wnext hB1 hb2 (Nat.le_refl _)
  clear hb2 hB1
  go_wp2_with fail
  refine (picked_any n 17 _ HK.out (by omega) (by omega)).mono ?_
  rintro e w3 ⟨rfl, hw3⟩
  rw [← HJ.out]
  have hw3' : w3 = w2.alloc (.cells badsV 9) := hw3
  have hcell : w3.cell? ⟨w2.heap.size, j, none⟩ = some (.string (S b)) := by rw [hw3']; exact HBC.out w2 _
  have hB3 : Below w.heap.size w w3 := by rw [hw3']; exact wmore hB2 (Nat.le_refl _) _
  have a1 : ¬ 9223372036854775807 < (S b).size + 1 := by omega
  have a2 : ¬ 9223372036854775807 < (S x).size + 1 := by omega
  clear hw3 hw3' hB2
  go_wp2_with fail
  rw [E1.out]
  refine (list_any _ _ Z1.out).mono ?_
  rw [M1.out]
  rintro e w4 ⟨p4, c4, rfl, _, hb4⟩
  have hB4 := wnext hB3 hb4 (Nat.le_refl _)
  clear hb4 hB3 hcell
  go_wp2_with fail
  rw [E2.out]
  refine (list_any _ _ Z2.out).mono ?_
  rw [M2.out]
  rintro e w5 ⟨p5, c5, rfl, _, hb5⟩
  have hB5 := wnext hB4 hb5 (Nat.le_refl _)
  clear hb5 hB4
  go_wp2_with fail
  refine (list_any _ _ Z3.out).mono ?_
  rw [M3.out]
  rintro e w6 ⟨p6, c6, rfl, _, hb6⟩
  have hB6 := wnext hB5 hb6 (Nat.le_refl _)
  clear hb6 hB5
  go_wp2
  go_ret
  exact ⟨rfl, hB6⟩
end Go.Proofs.YtmcpipgjckgjgaaDoor
