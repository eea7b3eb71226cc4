/-
  A list has its addresses in order, whatever words stand beside them: walked.
-/
import Derived.Test.YtmcpipgjckgjgaaDoorWhoFace
import Derived.Test.YtmcpipgjckgjgaaDoorWhoWord
import Derived.Test.YtmcpipgjckgjgaaDoorWhoOpens
import Derived.Test.YtmcpipgjckgjgaaDoorKeepPick
import Derived.Deep.RegionHeld3
import Derived.WalkArith
namespace Go.Proofs.YtmcpipgjckgjgaaDoor
open Go.RowKit

theorem S_plus (a b : List UInt8) : S a ++ S b = S (a ++ b) := by
  rw [← S_list (S a ++ S b)]
  simp [list_S]
def manOf (x : Raw) : Man := { adr := adrOf x.1 x.2.1, word := wordL x.2.2, kind := pickN (x.1.length : Int) 4, sep := pickN (x.2.2.length : Int) 3 }
theorem manOf_ok (x : Raw) : (manOf x).ok := ⟨adrOf_lawful _ _, word_wordy _⟩
def manK (ps : List Raw) (k : Nat) : List Man := (ps.take k).map manOf
theorem manK_ok (ps : List Raw) (k : Nat) : ∀ y ∈ manK ps k, y.ok := by
  intro y hy
  obtain ⟨x, _, rfl⟩ := List.mem_map.1 hy
  exact manOf_ok x
theorem manK_step {ps : List Raw} {k : Nat} {x : Raw} (h : ps[k]? = some x) : manK ps (k + 1) = manK ps k ++ [manOf x] := by
  unfold manK; rw [take_some h, List.map_append]; rfl
theorem manK_len {ps : List Raw} {k : Nat} (hk : k ≤ ps.length) : (manK ps k).length = k := by simp [manK]; omega
theorem many_listM {ps : List Raw} {k : Nat} (hk : k ≤ ps.length) (h0 : 0 < k) (h12 : k ≤ 12) : listM (joinL (manK ps k)) = ((manK ps k).map Man.adr, 0) := by
  have hl := manK_len hk
  have hj := join_len (manK_ok ps k)
  rw [hl] at hj
  unfold listM
  rw [if_neg (by omega)]
  cases hm : manK ps k with
  | nil => rw [hm] at hl; simp at hl; omega
  | cons y ys =>
    have hok := manK_ok ps k
    rw [hm] at hok hl
    rw [join_list ys y (hok y (by simp)) (fun z hz => hok z (by simp [hz]))]
    simp only [List.length_cons, List.length_map, List.map_cons] at hl ⊢
    rw [if_neg (by omega)]
theorem listP_empty : listP [] = none := by
  refine listP_none ?_
  unfold addressP namedP
  have e : wblanks [] = [] := rfl
  rw [e, wordsP_nil]
  rfl
def sepsV : Array Value := ([sepL 0, sepL 1, sepL 2].map fun b => Value.string (S b)).toArray
theorem seps_cell (w : World) (j : Nat) (hj : j < 3) (t : TypeId) : (w.alloc (.cells sepsV t)).cell? ⟨w.heap.size, j, none⟩ = some (.string (S (sepL j))) := by
  have h : j = 0 ∨ j = 1 ∨ j = 2 := by omega
  rcases h with rfl | rfl | rfl <;> simp [sepsV]
theorem list_wf {n : Nat} (h : n ≤ maxLen) : (Lit.int .i64 (n : Int)).wf = true := by
  unfold maxLen at h
  exact WalkArith.wf_i64 (by omega)

set_option maxHeartbeats 8000000 in
set_option maxRecDepth 100000 in
theorem whoMany_walk (w : World) (_ : maxLenCell w) (a : Option Addr) (c : Nat) (ps : List Raw) (hF : PersonsAt w a ps) (hL : ps.length ≤ maxLen) (hX : ∀ x ∈ ps, x.1.length ≤ maxLen ∧ x.2.1.length ≤ maxLen ∧ x.2.2.length ≤ maxLen) :
    Calls Tryd.prog 5 #[.slice a ps.length c] w fun e w' => e = .returned (.bool true) ∧ Below w.heap.size w w' := by
  have HX : Hid _ := hX
  have HF : Hid (PersonsAt w a ps) := hF
  have hL' := hL
  unfold maxLen at hL'
  clear hX hF hL
  by_cases h0 : ps.length = 0
  · have hz : (ps.length : Int) = 0 := by omega
    have M0 : Hid (listM (⟨#[]⟩ : ByteArray).data.toList = ([], 3)) := by unfold Hid listM; rw [if_neg (by decide), show listP (⟨#[]⟩ : ByteArray).data.toList = none from listP_empty]
    go_enter Tryd.func5, Tryd.ntmps5
    go_wp2_with fail
    refine (list_any ⟨#[]⟩ _ (by unfold maxLen; decide)).mono ?_
    rw [M0.out]
    rintro e w1 ⟨p1, c1, rfl, _, hb1⟩
    go_wp2
    go_ret
    exact ⟨rfl, hb1⟩
  · have hzb : ((ps.length : Int) == 0) = false := by rw [beq_eq_false_iff_ne]; omega
    obtain ⟨n, hn⟩ : ∃ n, min ps.length 12 = n := ⟨_, rfl⟩
    have hn1 : n ≤ ps.length := by omega
    have hn2 : n ≤ 12 := by omega
    have hn3 : 0 < n := by omega
    have hmin : min (ps.length : Int) 12 = (n : Int) := by omega
    go_enter Tryd.func5, Tryd.ntmps5
    go_wp2
    go_loopw [5, 7] (fun s i wr => ∃ k : Nat, k ≤ n ∧ i = .int .i64 k ∧ s = .string (S (joinL (manK ps k))) ∧ Below w.heap.size w wr) (fun _ i _ => 12 - (intOf i).toNat)
    case atStart => exact ⟨0, Nat.zero_le _, rfl, rfl, Below.refl _ _⟩
    case round =>
      obtain ⟨k, hk, rfl, rfl, hB⟩ := hrel
      by_cases hlt : k < n
      · have hlt' : (k : Int) < (n : Int) := by omega
        have hkl : (k : Int) < (ps.length : Int) := by omega
        have hk0 : (0 : Int) ≤ (k : Int) := by omega
        obtain ⟨x, hx⟩ : ∃ x, ps[k]? = some x := ⟨_, List.getElem?_eq_getElem (by omega)⟩
        have hxm := HX.out x (List.mem_of_getElem? hx)
        obtain ⟨b, off, rfl, hbl, c0, c1, c2⟩ := (HF.out.below hB) k x hx
        have hstep := manK_step hx
        have hlk := manK_len (ps := ps) (k := k) (by omega)
        obtain ⟨m, hm⟩ : ∃ m, m = manOf x := ⟨_, rfl⟩
        have hok : m.ok := by rw [hm]; exact manOf_ok x
        have hjl := join_len (manK_ok ps k)
        obtain ⟨J, hJ⟩ : ∃ J, J = joinL (manK ps k) := ⟨_, rfl⟩
        rw [hlk, ← hJ] at hjl
        rw [← hJ]
        have sJ : (S J).size ≤ 516 := by rw [size_S]; omega
        obtain ⟨t, ht⟩ : ∃ t, t = textA m.adr := ⟨_, rfl⟩
        have st : (S t).size ≤ 21 := by rw [size_S, ht]; exact hok.1.size
        have hal := hok.1.len
        have sx : (S m.adr.1).size ≤ 8 := by rw [size_S]; exact hal.1
        have sy : (S m.adr.2).size ≤ 12 := by rw [size_S]; exact hal.2
        have sw : (S m.word).size ≤ 8 := by rw [size_S]; exact hok.2.2.1
        have Z1 : Hid ((S x.1).size ≤ maxLen) := by unfold Hid; rw [size_S]; exact hxm.1
        have Z2 : Hid ((S x.2.1).size ≤ maxLen) := by unfold Hid; rw [size_S]; exact hxm.2.1
        have Z3 : Hid ((S x.2.2).size ≤ maxLen) := by unfold Hid; rw [size_S]; exact hxm.2.2
        have F1 : Hid ((Lit.int .i64 ((S x.1).size : Int)).wf = true) := list_wf Z1.out
        have F3 : Hid ((Lit.int .i64 ((S x.2.2).size : Int)).wf = true) := list_wf Z3.out
        have HA : Hid (adrOf (S x.1).data.toList (S x.2.1).data.toList = m.adr) := by unfold Hid; rw [list_S, list_S, hm]; rfl
        have HW : Hid (wordL (S x.2.2).data.toList = m.word) := by unfold Hid; rw [list_S, hm]; rfl
        have HK : Hid (pickN ((S x.1).size : Int) 4 = m.kind) := by unfold Hid; rw [size_S, hm]; rfl
        have HS : Hid (pickN ((S x.2.2).size : Int) 3 = m.sep) := by unfold Hid; rw [size_S, hm]; rfl
        have hkind : m.kind < 4 := by rw [hm]; exact pickN_lt (x.1.length : Int) 4 (by decide)
        have hsep : m.sep < 3 := by rw [hm]; exact pickN_lt (x.2.2.length : Int) 3 (by decide)
        have HP : Hid (partM 1 (S m.adr.1).data.toList (S m.adr.2).data.toList = (t, 0)) := by
          unfold Hid
          have hc : ¬ checkA m.adr.1 m.adr.2 ≠ 0 := by simpa using hok.1.check
          rw [list_S, list_S, ht]; unfold partM; rw [if_neg hc]; rfl
        have HT : Hid _ := ht
        have HN : Hid (joinL (manK ps (k + 1)) = (if k = 0 then [] else J ++ sepL m.sep) ++ itemL m) := by
          unfold Hid
          rw [hstep, ← hm]
          by_cases hk0' : k = 0
          · subst hk0'
            rw [if_pos rfl]
            have e : manK ps 0 = [] := rfl
            rw [e]
            simp [joinL, tailL]
          · rw [if_neg hk0', join_snoc _ (by intro e; rw [e] at hlk; simp at hlk; omega), ← hJ]
        have HJ0 : Hid (k = 0 → [] = J) := by intro e; rw [hJ, e]; rfl
        have HB : Hid _ := hB
        clear hx hxm hstep hlk hm hok hjl hJ ht hal
        go_wp2_with fail
        refine (address_any (S x.1) (S x.2.1) (S x.2.2) _ Z1.out Z2.out).mono ?_
        rintro e w1 ⟨rfl, hb1⟩
        rw [HA.out]
        have e0 := wcell_next c0 hb1
        have e1 := wcell_next c1 hb1
        have e2 := wcell_next c2 hb1
        have hB1 := wnext HB.out hb1 (Nat.le_refl _)
        clear hb1 c0 c1 c2 hB
        go_wp2_with fail
        refine (part_any 1 (S m.adr.1) (S m.adr.2) _ (by omega) (by omega)).mono ?_
        rintro e w2 ⟨rfl, hb2⟩
        rw [HP.out]
        have c0 := wcell_next e0 hb2
        have c1 := wcell_next e1 hb2
        have c2 := wcell_next e2 hb2
        have hB2 := wnext hB1 hb2 (Nat.le_refl _)
        clear hb2 e0 e1 e2 hB1
        have hb2l : b < w2.heap.size := World.block_lt_of_cell? w2 _ c0
        have hbne : b ≠ w2.heap.size := by omega
        by_cases hk0' : k = 0
        · have HNP : Hid (joinL (manK ps (k + 1)) = J ++ itemL m) := by unfold Hid; rw [HN.out, if_pos hk0', HJ0.out hk0']
          have HBQ : Hid (Below w.heap.size w w2) := hB2
          clear hB2
          subst hk0'
          simp only [Nat.zero_mul, Nat.add_zero] at c0 c1 c2
          go_wp2_with fail
          refine (picked_any _ 4 _ F1.out (by omega) (by omega)).mono ?_
          rintro e w4 ⟨rfl, hw4⟩
          have hw4' := hw4.symm
          subst hw4'
          rw [HK.out]
          have hk4 : m.kind = 0 ∨ m.kind = 1 ∨ m.kind = 2 ∨ m.kind = 3 := by omega
          rcases hk4 with hkk | hkk | hkk | hkk
          · have HE : Hid (S J ++ S t = S (joinL (manK ps (0 + 1)))) := by
              unfold Hid; rw [HNP.out, S_plus]; congr 2; unfold itemL; rw [hkk, HT.out]; rfl
            rw [hkk]
            clear hkk hkind hsep
            go_wp2
            rw [HE.out]
            go_roundw
            case rel => first | exact ⟨0 + 1, by omega, by go_num, rfl, HBQ.out⟩ | ((repeat apply Exists.intro); exact ⟨⟨0 + 1, by omega, by go_num, rfl, HBQ.out⟩, rfl⟩) | (refine ⟨trivial, ?_⟩; (repeat apply Exists.intro); exact ⟨⟨0 + 1, by omega, by go_num, rfl, HBQ.out⟩, rfl⟩)
            case measure => simp [intOf]
          · have HE : Hid (S J ++ (⟨#[60]⟩ ++ S t ++ ⟨#[62]⟩) = S (joinL (manK ps (0 + 1)))) := by
              unfold Hid; rw [HNP.out]; show S J ++ (S [60] ++ S t ++ S [62]) = _; rw [S_plus, S_plus, S_plus]; congr 2; unfold itemL; rw [hkk, HT.out]; rfl
            rw [hkk]
            clear hkk hkind hsep
            go_wp2
            rw [HE.out]
            go_roundw
            case rel => first | exact ⟨0 + 1, by omega, by go_num, rfl, HBQ.out⟩ | ((repeat apply Exists.intro); exact ⟨⟨0 + 1, by omega, by go_num, rfl, HBQ.out⟩, rfl⟩) | (refine ⟨trivial, ?_⟩; (repeat apply Exists.intro); exact ⟨⟨0 + 1, by omega, by go_num, rfl, HBQ.out⟩, rfl⟩)
            case measure => simp [intOf]
          · have HE : Hid (S J ++ (S m.word ++ ⟨#[32, 98, 46, 32, 60]⟩ ++ S t ++ ⟨#[62, 32]⟩) = S (joinL (manK ps (0 + 1)))) := by
              unfold Hid; rw [HNP.out]; show S J ++ (S m.word ++ S [32, 98, 46, 32, 60] ++ S t ++ S [62, 32]) = _; rw [S_plus, S_plus, S_plus, S_plus]; congr 2; unfold itemL; rw [hkk, HT.out]; rfl
            rw [hkk]
            clear hkk hkind hsep
            go_wp2_with fail
            refine (word_any (S x.2.2) _ Z3.out).mono ?_
            rintro e w5 ⟨rfl, hb5⟩
            rw [HW.out]
            have HB5 : Hid (Below w.heap.size w w5) := wnext HBQ.out hb5 (Nat.le_refl _)
            clear hb5
            go_wp2
            rw [HE.out]
            go_roundw
            case rel => first | exact ⟨0 + 1, by omega, by go_num, rfl, HB5.out⟩ | ((repeat apply Exists.intro); exact ⟨⟨0 + 1, by omega, by go_num, rfl, HB5.out⟩, rfl⟩) | (refine ⟨trivial, ?_⟩; (repeat apply Exists.intro); exact ⟨⟨0 + 1, by omega, by go_num, rfl, HB5.out⟩, rfl⟩)
            case measure => simp [intOf]
          · have HE : Hid (S J ++ (⟨#[34, 120, 44, 32, 92, 34, 32]⟩ ++ S m.word ++ ⟨#[64, 34, 60]⟩ ++ S t ++ ⟨#[62]⟩) = S (joinL (manK ps (0 + 1)))) := by
              unfold Hid; rw [HNP.out]; show S J ++ (S [34, 120, 44, 32, 92, 34, 32] ++ S m.word ++ S [64, 34, 60] ++ S t ++ S [62]) = _; rw [S_plus, S_plus, S_plus, S_plus, S_plus]; congr 2; unfold itemL; rw [hkk, HT.out]; rfl
            rw [hkk]
            clear hkk hkind hsep
            go_wp2_with fail
            refine (word_any (S x.2.2) _ Z3.out).mono ?_
            rintro e w5 ⟨rfl, hb5⟩
            rw [HW.out]
            have HB5 : Hid (Below w.heap.size w w5) := wnext HBQ.out hb5 (Nat.le_refl _)
            clear hb5
            go_wp2
            rw [HE.out]
            go_roundw
            case rel => first | exact ⟨0 + 1, by omega, by go_num, rfl, HB5.out⟩ | ((repeat apply Exists.intro); exact ⟨⟨0 + 1, by omega, by go_num, rfl, HB5.out⟩, rfl⟩) | (refine ⟨trivial, ?_⟩; (repeat apply Exists.intro); exact ⟨⟨0 + 1, by omega, by go_num, rfl, HB5.out⟩, rfl⟩)
            case measure => simp [intOf]
        · have hkp : (0 : Int) < (k : Int) := by omega
          have hkp' : 0 < k := by omega
          go_wp2_with fail
          refine (picked_any _ 3 _ F3.out (by omega) (by omega)).mono ?_
          rintro e w3 ⟨rfl, hw3⟩
          rw [HS.out]
          have hw3' : w3 = w2.alloc (.cells sepsV 9) := hw3
          have hN3 : Below w2.heap.size w2 w3 := by rw [hw3']; exact (Below.refl _ _).alloc (Nat.le_refl _) _
          have hcell : w3.cell? ⟨w2.heap.size, m.sep, none⟩ = some (.string (S (sepL m.sep))) := by rw [hw3']; exact seps_cell w2 m.sep hsep _
          have d0 := wcell_next c0 hN3
          have d1 := wcell_next c1 hN3
          have d2 := wcell_next c2 hN3
          have HBQ : Hid (Below w.heap.size w w3) := wnext hB2 hN3 (Nat.le_refl _)
          have hs0 : (0 : Int) ≤ (m.sep : Int) := by omega
          have hs1 : (m.sep : Int) < 3 := by omega
          have ssep : (S (sepL m.sep)).size ≤ 3 := by rw [size_S]; exact sepL_len _
          obtain ⟨Q, hQ⟩ : ∃ Q, Q = J ++ sepL m.sep := ⟨_, rfl⟩
          have HQ : Hid (S J ++ S (sepL m.sep) = S Q) := by unfold Hid; rw [S_plus, hQ]
          have sQ : (S Q).size ≤ 519 := by rw [size_S] at sJ ssep ⊢; rw [hQ, List.length_append]; omega
          have HNP : Hid (joinL (manK ps (k + 1)) = Q ++ itemL m) := by unfold Hid; rw [HN.out, if_neg hk0', hQ]
          clear hw3 hw3' hN3 c0 c1 c2 hB2 hQ
          go_wp2_with fail
          rw [HQ.out]
          refine (picked_any _ 4 _ F1.out (by omega) (by omega)).mono ?_
          rintro e w4 ⟨rfl, hw4⟩
          have hw4' := hw4.symm
          subst hw4'
          rw [HK.out]
          have hk4 : m.kind = 0 ∨ m.kind = 1 ∨ m.kind = 2 ∨ m.kind = 3 := by omega
          rcases hk4 with hkk | hkk | hkk | hkk
          · have HE : Hid (S Q ++ S t = S (joinL (manK ps (k + 1)))) := by
              unfold Hid; rw [HNP.out, S_plus]; congr 2; unfold itemL; rw [hkk, HT.out]; rfl
            rw [hkk]
            clear hkk hkind hsep
            go_wp2
            rw [HE.out]
            go_roundw
            case rel => first | exact ⟨k + 1, by omega, by go_num, rfl, HBQ.out⟩ | ((repeat apply Exists.intro); exact ⟨⟨k + 1, by omega, by go_num, rfl, HBQ.out⟩, rfl⟩) | (refine ⟨trivial, ?_⟩; (repeat apply Exists.intro); exact ⟨⟨k + 1, by omega, by go_num, rfl, HBQ.out⟩, rfl⟩)
            case measure => simp [intOf]; omega
          · have HE : Hid (S Q ++ (⟨#[60]⟩ ++ S t ++ ⟨#[62]⟩) = S (joinL (manK ps (k + 1)))) := by
              unfold Hid; rw [HNP.out]; show S Q ++ (S [60] ++ S t ++ S [62]) = _; rw [S_plus, S_plus, S_plus]; congr 2; unfold itemL; rw [hkk, HT.out]; rfl
            rw [hkk]
            clear hkk hkind hsep
            go_wp2
            rw [HE.out]
            go_roundw
            case rel => first | exact ⟨k + 1, by omega, by go_num, rfl, HBQ.out⟩ | ((repeat apply Exists.intro); exact ⟨⟨k + 1, by omega, by go_num, rfl, HBQ.out⟩, rfl⟩) | (refine ⟨trivial, ?_⟩; (repeat apply Exists.intro); exact ⟨⟨k + 1, by omega, by go_num, rfl, HBQ.out⟩, rfl⟩)
            case measure => simp [intOf]; omega
          · have HE : Hid (S Q ++ (S m.word ++ ⟨#[32, 98, 46, 32, 60]⟩ ++ S t ++ ⟨#[62, 32]⟩) = S (joinL (manK ps (k + 1)))) := by
              unfold Hid; rw [HNP.out]; show S Q ++ (S m.word ++ S [32, 98, 46, 32, 60] ++ S t ++ S [62, 32]) = _; rw [S_plus, S_plus, S_plus, S_plus]; congr 2; unfold itemL; rw [hkk, HT.out]; rfl
            rw [hkk]
            clear hkk hkind hsep
            go_wp2_with fail
            refine (word_any (S x.2.2) _ Z3.out).mono ?_
            rintro e w5 ⟨rfl, hb5⟩
            rw [HW.out]
            have HB5 : Hid (Below w.heap.size w w5) := wnext HBQ.out hb5 (Nat.le_refl _)
            clear hb5
            go_wp2
            rw [HE.out]
            go_roundw
            case rel => first | exact ⟨k + 1, by omega, by go_num, rfl, HB5.out⟩ | ((repeat apply Exists.intro); exact ⟨⟨k + 1, by omega, by go_num, rfl, HB5.out⟩, rfl⟩) | (refine ⟨trivial, ?_⟩; (repeat apply Exists.intro); exact ⟨⟨k + 1, by omega, by go_num, rfl, HB5.out⟩, rfl⟩)
            case measure => simp [intOf]; omega
          · have HE : Hid (S Q ++ (⟨#[34, 120, 44, 32, 92, 34, 32]⟩ ++ S m.word ++ ⟨#[64, 34, 60]⟩ ++ S t ++ ⟨#[62]⟩) = S (joinL (manK ps (k + 1)))) := by
              unfold Hid; rw [HNP.out]; show S Q ++ (S [34, 120, 44, 32, 92, 34, 32] ++ S m.word ++ S [64, 34, 60] ++ S t ++ S [62]) = _; rw [S_plus, S_plus, S_plus, S_plus, S_plus]; congr 2; unfold itemL; rw [hkk, HT.out]; rfl
            rw [hkk]
            clear hkk hkind hsep
            go_wp2_with fail
            refine (word_any (S x.2.2) _ Z3.out).mono ?_
            rintro e w5 ⟨rfl, hb5⟩
            rw [HW.out]
            have HB5 : Hid (Below w.heap.size w w5) := wnext HBQ.out hb5 (Nat.le_refl _)
            clear hb5
            go_wp2
            rw [HE.out]
            go_roundw
            case rel => first | exact ⟨k + 1, by omega, by go_num, rfl, HB5.out⟩ | ((repeat apply Exists.intro); exact ⟨⟨k + 1, by omega, by go_num, rfl, HB5.out⟩, rfl⟩) | (refine ⟨trivial, ?_⟩; (repeat apply Exists.intro); exact ⟨⟨k + 1, by omega, by go_num, rfl, HB5.out⟩, rfl⟩)
            case measure => simp [intOf]; omega
      · obtain rfl : k = n := by omega
        have hge : ¬ (k : Int) < (k : Int) := by omega
        have hjl := join_len (manK_ok ps k)
        have hlk := manK_len (ps := ps) (k := k) (by omega)
        rw [hlk] at hjl
        have HZ : Hid ((S (joinL (manK ps k))).size ≤ maxLen) := by unfold Hid maxLen; rw [size_S]; omega
        obtain ⟨l, hl⟩ : ∃ l, l = (manK ps k).map Man.adr := ⟨_, rfl⟩
        have HM : Hid (listM (S (joinL (manK ps k))).data.toList = (l, 0)) := by unfold Hid; rw [list_S, hl]; exact many_listM hn1 hn3 hn2
        have HLn : Hid (l.length = k) := by unfold Hid; rw [hl, List.length_map]; exact hlk
        have HG : Hid (∀ (j : Nat) x, ps[j]? = some x → j < k → l[j]? = some (adrOf x.1 x.2.1)) := by
          intro j x hx hj
          rw [hl]
          unfold manK
          rw [List.map_map, List.getElem?_map, List.getElem?_take, if_pos hj, hx]
          rfl
        clear hjl hlk hl
        go_wp2_with fail
        refine (list_any (S (joinL (manK ps k))) _ HZ.out).mono ?_
        rw [HM.out]
        rintro e w1 ⟨p1, c1, rfl, hA1, hb1⟩
        have hkq : ((k : Int) != (k : Int)) = false := by simp
        have hB1 : Below w.heap.size w w1 := wnext hB hb1 (Nat.le_refl _)
        have HB1 : Hid _ := hB1
        have HA1 : Hid (AdrsAt w1 p1 l) := hA1
        clear hb1 hB hB1 hA1
        simp only [HLn.out]
        go_wp2
        go_loopw [12] (fun i wr => ∃ j : Nat, j ≤ k ∧ i = .int .i64 j ∧ Below w1.heap.size w1 wr) (fun i _ => 12 - (intOf i).toNat)
        case atStart => exact ⟨0, Nat.zero_le _, rfl, Below.refl _ _⟩
        case round =>
          obtain ⟨j, hj, rfl, hBr⟩ := hrel
          by_cases hlt2 : j < k
          · have i1 : (j : Int) < (k : Int) := by omega
            have i2 : (j : Int) < (ps.length : Int) := by omega
            have i0 : (0 : Int) ≤ (j : Int) := by omega
            obtain ⟨x, hx⟩ : ∃ x, ps[j]? = some x := ⟨_, List.getElem?_eq_getElem (by omega)⟩
            have hxm := HX.out x (List.mem_of_getElem? hx)
            obtain ⟨b, off, rfl, hbl, q0, q1, q2⟩ := ((HF.out.below HB1.out).below hBr) j x hx
            obtain ⟨b1, rfl, hbl1, r0, r1⟩ := (HA1.out.below hBr) j _ (HG.out j x hx hlt2)
            have Z1 : Hid ((S x.1).size ≤ maxLen) := by unfold Hid; rw [size_S]; exact hxm.1
            have Z2 : Hid ((S x.2.1).size ≤ maxLen) := by unfold Hid; rw [size_S]; exact hxm.2.1
            obtain ⟨y, hy⟩ : ∃ y, y = adrOf x.1 x.2.1 := ⟨_, rfl⟩
            have HY : Hid (adrOf (S x.1).data.toList (S x.2.1).data.toList = y) := by unfold Hid; rw [list_S, list_S, hy]
            rw [← hy] at r0 r1
            clear hx hxm hy
            go_wp2
            go_region_held3 (fun w' => w'.cell? ⟨b, off + j * 3, none⟩ = some (.string (S x.1)) ∧ w'.cell? ⟨b, off + j * 3 + 1, none⟩ = some (.string (S x.2.1)) ∧ w'.cell? ⟨b, off + j * 3 + 2, none⟩ = some (.string (S x.2.2)) ∧ w'.cell? ⟨b1, j * 2, none⟩ = some (.string (S y.1)) ∧ w'.cell? ⟨b1, j * 2 + 1, none⟩ = some (.string (S y.2))) (go_keep)
              (first
                | (go_at_call 10
                   refine (address_any (S x.1) (S x.2.1) (S x.2.2) _ Z1.out Z2.out).mono ?_
                   rintro e w3 ⟨rfl, hb3⟩
                   rw [HY.out]
                   have m0 : w3.cell? ⟨b, off + j * 3, none⟩ = some (.string (S x.1)) := wcell_next (w := wr.drew) q0 hb3
                   have m1 : w3.cell? ⟨b, off + j * 3 + 1, none⟩ = some (.string (S x.2.1)) := wcell_next (w := wr.drew) q1 hb3
                   have m2 : w3.cell? ⟨b, off + j * 3 + 2, none⟩ = some (.string (S x.2.2)) := wcell_next (w := wr.drew) q2 hb3
                   have n0 : w3.cell? ⟨b1, j * 2, none⟩ = some (.string (S y.1)) := wcell_next (w := wr.drew) r0 hb3
                   have n1 : w3.cell? ⟨b1, j * 2 + 1, none⟩ = some (.string (S y.2)) := wcell_next (w := wr.drew) r1 hb3))
            have HB3 : Hid (Below w1.heap.size w1 w3) := wnext hBr.drew hb3 (Nat.le_refl _)
            clear hb3 q0 q1 q2 r0 r1 m0 m1 m2 n0 n1
            go_wp2
            go_roundw
            case rel => first | exact ⟨j + 1, by omega, by go_num, HB3.out⟩ | ((repeat apply Exists.intro); exact ⟨⟨j + 1, by omega, by go_num, HB3.out⟩, rfl⟩) | (refine ⟨trivial, ?_⟩; (repeat apply Exists.intro); exact ⟨⟨j + 1, by omega, by go_num, HB3.out⟩, rfl⟩)
            case measure => simp [intOf]; omega
          · have hjk : ¬ (j : Int) < (k : Int) := by omega
            go_wp2
            go_ret
            exact ⟨rfl, HB1.out.trans (hBr.mono (HB1.out.size))⟩
end Go.Proofs.YtmcpipgjckgjgaaDoor
