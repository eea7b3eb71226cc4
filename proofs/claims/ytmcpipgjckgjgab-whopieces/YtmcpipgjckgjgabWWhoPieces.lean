/-
  Parts that there are not are refused, and so are addresses that may not be: walked.
-/
import Derived.Test.YtmcpipgjckgjgabWhoWord
import Derived.Test.YtmcpipgjckgjgabKeepPick
namespace Go.Proofs.Ytmcpipgjckgjgab
open Go.RowKit

theorem part_kind {l d : List UInt8} (h : checkA l d = 0) (k : Int) (hk : 3 < k) : partM k l d = ([], 2) := by
  unfold partM
  rw [if_neg (by simpa using h), if_neg (by omega), if_neg (by omega), if_neg (by omega)]
theorem part_empty {l : List UInt8} (k : Int) : partM k l [] = ([], 3) := by
  have e : dottedB ([] : List UInt8) = false := rfl
  have : checkA l [] = 3 := by unfold checkA; rw [e]; simp
  unfold partM
  rw [this, if_pos (by decide)]
theorem dotted_letters {l : List UInt8} (h0 : l ≠ []) (h : ∀ c ∈ l, 97 ≤ c.toNat ∧ c.toNat ≤ 122) : dottedB l = true := by
  rw [dotted_plain (fun hc => by have := h 46 hc; simp at this)]
  unfold atomL
  have e : l.isEmpty = false := by cases l <;> simp_all
  rw [e]
  simp only [Bool.not_false, Bool.true_and, List.all_eq_true]
  exact fun c hc => letter_atom (h c hc)
theorem long_check {a : Adr} (h : lawful a) (j : Nat) (hj : 100 ≤ a.1.length + j) : checkA (a.1 ++ List.replicate j 120) a.2 = 1 := by
  obtain ⟨⟨h1, _, h2⟩, d, h3, h4⟩ := h
  have e1 : dottedB (a.1 ++ List.replicate j 120) = true := by
    refine dotted_letters (by simp [h1]) fun c hc => ?_
    rcases List.mem_append.1 hc with hc | hc
    · exact h2 c hc
    · rw [(List.mem_replicate.1 hc).2]; decide
  unfold checkA
  rw [e1, h4, wordy_org h3]
  simp only [Bool.and_self, Bool.true_eq_false, if_false, List.length_append, List.length_replicate]
  rw [if_pos (by omega)]
theorem x_text (z : List UInt8) : S z ++ ⟨#[120]⟩ = S (z ++ [120]) := by
  rw [← S_list (S z ++ ⟨#[120]⟩)]
  simp [list_S]

set_option maxHeartbeats 8000000 in
set_option maxRecDepth 100000 in
theorem whoPieces_walk (l d g : ByteArray) (hl : l.size ≤ maxLen) (hd : d.size ≤ maxLen) (_ : g.size ≤ maxLen) (k : Int) (hk : (Lit.int .i64 k).wf = true) (w : World) :
    Calls Try.prog 3 #[.agg #[.string l, .string d, .string g], .int .i64 k] w fun e w' => e = .returned (.bool true) ∧ Below w.heap.size w w' := by
  have HL : Hid _ := hl
  have HD : Hid _ := hd
  have HK : Hid _ := hk
  have hA := adrOf_lawful l.data.toList d.data.toList
  obtain ⟨a, ha⟩ : ∃ a, a = adrOf l.data.toList d.data.toList := ⟨_, rfl⟩
  rw [← ha] at hA
  have HA : Hid _ := ha
  have HLW : Hid _ := hA
  have hlen := hA.len
  have sx : (S a.1).size ≤ 8 := by rw [size_S]; exact hlen.1
  have sy : (S a.2).size ≤ 12 := by rw [size_S]; exact hlen.2
  obtain ⟨p, hp⟩ : ∃ p : Int, p = (pickN k 9 : Int) := ⟨_, rfl⟩
  have hp0 : 0 ≤ p := by omega
  have hp1 : p ≤ 8 := by have := pickN_lt k 9 (by omega); omega
  have HP : Hid _ := hp
  have hw4 : IntKind.i64.wrap (4 + p) = 4 + p := by rw [IntKind.wrap_i64]; omega
  have HQ1 : Hid (partM (4 + p) (S a.1).data.toList (S a.2).data.toList = ([], 2)) := by unfold Hid; rw [list_S, list_S]; exact part_kind hA.check _ (by omega)
  have HQ2 : Hid (partM 2 (S a.1).data.toList (⟨#[]⟩ : ByteArray).data.toList = ([], 3)) := part_empty 2
  clear hl hd hk hA hlen hp ha
  go_enter Try.func3, Try.ntmps3
  go_wp2_with fail
  refine (address_any l d g _ HL.out HD.out).mono ?_
  rintro e w1 ⟨rfl, hb1⟩
  rw [← HA.out]
  have hB1 : Below w.heap.size w w1 := wnext ((Below.refl _ _).alloc (Nat.le_refl _) _) hb1 (Nat.le_refl _)
  clear hb1
  go_wp2
  obtain ⟨W0, hW0⟩ : ∃ W0, W0 = w1.alloc (.cells #[.string (S a.1), .string (S a.2)] 25) := ⟨_, rfl⟩
  rw [← hW0]
  have hB0 : Below w.heap.size w W0 := by rw [hW0]; exact wmore hB1 (Nat.le_refl _) _
  have hz0 : w1.heap.size + 1 = W0.heap.size := by rw [hW0]; simp
  have c0 : W0.cell? ⟨w1.heap.size, 0, none⟩ = some (.string (S a.1)) := by rw [hW0]; simp
  have c1 : W0.cell? ⟨w1.heap.size, 1, none⟩ = some (.string (S a.2)) := by rw [hW0]; simp
  clear hW0
  go_region_held3 (fun w' => w'.cell? ⟨w1.heap.size, 0, none⟩ = some (.string (S a.1)) ∧ w'.cell? ⟨w1.heap.size, 1, none⟩ = some (.string (S a.2))) (go_keep)
    (first
       | (go_at_call 6
          refine (picked_any k 9 _ HK.out (by omega) (by omega)).mono ?_
          rintro e w2 ⟨rfl, hw2⟩
          have hw2' := hw2.symm
          subst hw2'
          rw [← HP.out])
       | (go_at_call 5
          refine (part_any (4 + p) (S a.1) (S a.2) _ (by omega) (by omega)).mono ?_
          rintro e w3 ⟨rfl, hb3⟩
          rw [HQ1.out]
          have i0 : w3.cell? ⟨w1.heap.size, 0, none⟩ = some (.string (S a.1)) := wcell_next (w := W0.drew) c0 hb3
          have i1 : w3.cell? ⟨w1.heap.size, 1, none⟩ = some (.string (S a.2)) := wcell_next (w := W0.drew) c1 hb3))
  have hB3 : Below w.heap.size w w3 := wnext hB0.drew hb3 (Nat.le_refl _)
  have hz3 := hb3.size
  have hz3' : W0.drew.heap.size = W0.heap.size := rfl
  go_wp2_with fail
  refine (part_any 2 (S a.1) ⟨#[]⟩ _ (by omega) (by decide)).mono ?_
  rintro e w4 ⟨rfl, hb4⟩
  rw [HQ2.out]
  have hN4 : Below w3.heap.size w3 (w3.alloc (.cells #[.string (S a.1), .string ⟨#[]⟩] 25)) := (Below.refl _ _).alloc (Nat.le_refl _) _
  have hB4 : Below w.heap.size w w4 := wnext (wnext hB3 hN4 (Nat.le_refl _)) hb4 (Nat.le_refl _)
  have j0 := wcell_next (wcell_next i0 hN4) hb4
  have j1 := wcell_next (wcell_next i1 hN4) hb4
  clear c0 c1 i0 i1 hb3 hb4 hN4 hz3 hz3' hB3 hB0 hz0 hw4 hp0 hp1 HP HQ1 HQ2
  go_wp2
  obtain ⟨W5, hW5⟩ : ∃ W5, W5 = w4.alloc (.cells #[.string (S a.1), .string (S a.2)] 25) := ⟨_, rfl⟩
  rw [← hW5]
  have hB5 : Below w.heap.size w W5 := by rw [hW5]; exact wmore hB4 (Nat.le_refl _) _
  have q0 : W5.cell? ⟨w4.heap.size, 0, none⟩ = some (.string (S a.1)) := by rw [hW5]; simp
  have q1 : W5.cell? ⟨w4.heap.size, 1, none⟩ = some (.string (S a.2)) := by rw [hW5]; simp
  have fz : W5.frozen? ⟨w4.heap.size, 0, none⟩ = false := by rw [hW5]; simp
  have hle : w.heap.size ≤ w4.heap.size := hB4.size
  clear hW5 j0 j1 hB1
  go_loopw [33] (fun _ wr => ∃ j : Nat, (S (a.1 ++ List.replicate j 120)).size ≤ 100 ∧ wr.cell? ⟨w4.heap.size, 0, none⟩ = some (.string (S (a.1 ++ List.replicate j 120))) ∧ wr.cell? ⟨w4.heap.size, 1, none⟩ = some (.string (S a.2)) ∧ wr.frozen? ⟨w4.heap.size, 0, none⟩ = false ∧ Below w.heap.size w wr) (fun _ wr => 100 - (txtOf ((wr.cell? ⟨w4.heap.size, 0, none⟩).getD undef)).size)
  case atStart => exact ⟨0, by simp; omega, by simpa using q0, q1, fz, hB5⟩
  case round =>
    obtain ⟨j, hz, m0, m1, mf, hBr⟩ := hrel
    clear q0 q1 fz hB5
    obtain ⟨z, hzz⟩ : ∃ z, z = a.1 ++ List.replicate j 120 := ⟨_, rfl⟩
    have hstep : a.1 ++ List.replicate (j + 1) 120 = z ++ [120] := by rw [hzz, List.replicate_succ']; simp
    rw [← hzz] at hz m0
    have HS : Hid _ := hstep
    have HZ : Hid _ := hzz
    clear hstep hzz
    by_cases hlt : (S z).size < 100
    · have HT : Hid _ := x_text z
      have hadd : ¬ 9223372036854775807 < (S z).size + 1 := by omega
      have hlt' : ((S z).size : Int) < 100 := by omega
      have hc : (wr.setCell ⟨w4.heap.size, 0, none⟩ (.string (S (z ++ [120])))).cell? ⟨w4.heap.size, 0, none⟩ = some (.string (S (z ++ [120]))) := World.cell?_setCell_same' wr _ _ (by rw [m0]; rfl)
      have hc1 : (wr.setCell ⟨w4.heap.size, 0, none⟩ (.string (S (z ++ [120])))).cell? ⟨w4.heap.size, 1, none⟩ = some (.string (S a.2)) := (World.cell?_setCell_other wr _ _ _ (by simp)).trans m1
      have hcf : (wr.setCell ⟨w4.heap.size, 0, none⟩ (.string (S (z ++ [120])))).frozen? ⟨w4.heap.size, 0, none⟩ = false := by simpa using mf
      have HM0 : Hid _ := m0
      have HH : Hid _ := And.intro hc (And.intro hc1 hcf)
      clear hc hc1 hcf
      go_wp2
      rw [HT.out]
      refine ⟨⟨j + 1, ?_, ?_, HH.out.2.1, HH.out.2.2, hBr.setCell hle _⟩, ?_⟩
      · rw [HS.out, size_S, List.length_append]; rw [size_S] at hlt; simp; omega
      · rw [HS.out]; exact HH.out.1
      · rw [HH.out.1, HM0.out]
        show 100 - (S (z ++ [120])).size < 100 - (S z).size
        rw [size_S, size_S, List.length_append]
        rw [size_S] at hlt
        simp; omega
    · have hz' : (S z).size = 100 := by omega
      have hge : ¬ ((S z).size : Int) < 100 := by omega
      have HC : Hid (checkA (S z).data.toList (S a.2).data.toList = 1) := by
        unfold Hid
        rw [list_S, list_S, HZ.out]
        refine long_check HLW.out j ?_
        rw [HZ.out, size_S] at hz'
        simp only [List.length_append, List.length_replicate] at hz'
        omega
      go_wp2_with fail
      refine (check_any (S z) (S a.2) _ (by omega) (by omega)).mono ?_
      rintro e w6 ⟨rfl, hb6⟩
      rw [HC.out]
      go_wp2
      go_ret
      exact ⟨rfl, wnext hBr hb6 (Nat.le_refl _)⟩
end Go.Proofs.Ytmcpipgjckgjgab
