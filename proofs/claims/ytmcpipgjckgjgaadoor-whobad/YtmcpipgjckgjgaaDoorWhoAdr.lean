/-
  What the reader's address does: the walk.
-/
import Derived.Test.YtmcpipgjckgjgaaDoorWhoWords
namespace Go.Proofs.YtmcpipgjckgjgaaDoor
open Go.RowKit

set_option maxHeartbeats 8000000 in
set_option maxRecDepth 100000 in
theorem radr_any (b : Nat) (s : List UInt8) (w : World) (hR : RB w b s) (hs : s.length ≤ 1048576) :
    Calls Tryd.prog 19 #[.pointer (some ⟨b, 0, none⟩)] w (Rd b w ((addressP s).map fun x => (adrV x.1, x.2))) := by
  have hbw := hR.lt
  have hne0 : b ≠ w.heap.size := by omega
  obtain ⟨W0, hW0⟩ : ∃ W0, W0 = w.alloc (.cells #[.string ⟨#[]⟩, .string ⟨#[]⟩] 31) := ⟨_, rfl⟩
  have HP0 : Hid (Two W0 w.heap.size [] []) := by rw [hW0]; exact two_new w
  have HR0 : Hid (RB W0 b s) := by rw [hW0]; exact hR.more _
  have HB0 : Hid (But b w W0) := by rw [hW0]; exact (But.refl b w).more _
  have HW : Hid _ := hW0
  obtain ⟨s1, hs1⟩ : ∃ s1, s1 = wblanks s := ⟨_, rfl⟩
  have hl1 : s1.length ≤ 1048576 := by rw [hs1]; have := wblanks_len s; omega
  have HA : Hid (addressP s = (if (takeP 64 (wrest s1)).isSome then plainP s1 else namedP s1).map fun x => (x.1, wblanks x.2)) := by unfold Hid addressP; rw [hs1]
  have HS1 : Hid _ := hs1
  clear hW0 hs1 hR
  go_enter Tryd.func19, Tryd.ntmps19
  go_wp2_with fail
  rw [← HW.out]
  refine (blanks_any b s _ HR0.out).mono ?_
  rw [← HS1.out]
  rintro e w1 ⟨rfl, hR1, hB1⟩
  have hsz1 : w.heap.size < w1.heap.size := by
    have h1 := HP0.out.lt
    have h2 := hB1.size
    omega
  have hnq : b ≠ w1.heap.size := by omega
  have hpq : w.heap.size ≠ w1.heap.size := by omega
  have hwq : w.heap.size ≤ w1.heap.size := by omega
  obtain ⟨W1, hW1⟩ : ∃ W1, W1 = w1.alloc (.cells #[.string ⟨#[]⟩, .string ⟨#[]⟩] 31) := ⟨_, rfl⟩
  have HT1 : Hid (Two W1 w1.heap.size [] []) := by rw [hW1]; exact two_new w1
  have HP1 : Hid (Two W1 w.heap.size [] []) := by rw [hW1]; exact (HP0.out.but hB1 hne0.symm).below ((Below.refl _ _).alloc (Nat.le_refl _) _)
  have HR1 : Hid (RB W1 b s1) := by rw [hW1]; exact hR1.more _
  have HB1 : Hid (But b w W1) := by rw [hW1]; exact (HB0.out.trans hB1).more _
  have HW1 : Hid _ := hW1
  clear hW1 hR1 hB1
  go_wp2_with fail
  rw [← HW1.out]
  refine (beginsPlain_any b s1 _ HR1.out hl1).mono ?_
  rintro e w2 ⟨rfl, hR2, hB2⟩
  have HT2 : Hid (Two w2 w1.heap.size [] []) := HT1.out.but hB2 hnq.symm
  have HP2 : Hid (Two w2 w.heap.size [] []) := HP1.out.but hB2 hne0.symm
  have HR2 : Hid (RB w2 b s1) := hR2
  have HB2 : Hid (But b w w2) := HB1.out.trans hB2
  clear hR2 hB2
  cases ht : (takeP 64 (wrest s1)).isSome with
  | true =>
    have HA2 : Hid (addressP s = (plainP s1).map fun x => (x.1, wblanks x.2)) := by unfold Hid; rw [HA.out, ht]; rfl
    clear ht
    go_wp2_with fail
    refine (plain_any b s1 _ HR2.out hl1).mono ?_
    cases hp : plainP s1 with
    | none =>
      have HE : Hid (addressP s = none) := by unfold Hid; rw [HA2.out, hp]; rfl
      clear hp
      rintro e w3 ⟨rfl, hB3⟩
      go_wp2
      rw [HE.out]
      exact ⟨rfl, rfl, HB2.out.trans hB3⟩
    | some x =>
      obtain ⟨a, r⟩ := x
      have HE : Hid (addressP s = some (a, wblanks r)) := by unfold Hid; rw [HA2.out, hp]; rfl
      clear hp
      rintro e W3 ⟨rfl, hR3, hB3'⟩
      have hT3 : Two W3 w1.heap.size [] [] := HT2.out.but hB3' hnq.symm
      have hP3 : Two W3 w.heap.size [] [] := HP2.out.but hB3' hne0.symm
      have hB3 : But b w W3 := HB2.out.trans hB3'
      clear hB3'
      rw [adrV]
      have q0 := hT3.c0
      have q1 := hT3.c1
      have z0 := hT3.free 0
      have z1 := hT3.free 1
      have hT4 : Two ((W3.setCell ⟨w1.heap.size, 0, none⟩ (.string (S a.1))).setCell ⟨w1.heap.size, 1, none⟩ (.string (S a.2))) w1.heap.size a.1 a.2 := (hT3.set0 a.1).set1 a.2
      have hP4 : Two ((W3.setCell ⟨w1.heap.size, 0, none⟩ (.string (S a.1))).setCell ⟨w1.heap.size, 1, none⟩ (.string (S a.2))) w.heap.size [] [] := (hP3.far hpq _).far hpq _
      have hR4 : RB ((W3.setCell ⟨w1.heap.size, 0, none⟩ (.string (S a.1))).setCell ⟨w1.heap.size, 1, none⟩ (.string (S a.2))) b r := (hR3.far hnq _).far hnq _
      have hB4 : But b w ((W3.setCell ⟨w1.heap.size, 0, none⟩ (.string (S a.1))).setCell ⟨w1.heap.size, 1, none⟩ (.string (S a.2))) := (hB3.far hwq _).far hwq _
      have HT4 : Hid _ := hT4
      have HP4 : Hid _ := hP4
      have HR4 : Hid _ := hR4
      have HB4 : Hid _ := hB4
      clear hT4 hP4 hR4 hB4 hT3 hP3 hR3 hB3
      go_wp2_with fail
      refine (blanks_any b r _ HR4.out).mono ?_
      rintro e w5 ⟨rfl, hR5, hB5⟩
      have hT5 := Two.but HT4.out hB5 hnq.symm
      have hP5 := Two.but HP4.out hB5 hne0.symm
      have hW5 : But b w w5 := But.trans HB4.out hB5
      have d0 := hT5.c0
      have d1 := hT5.c1
      have e0 := hP5.c0
      have e1 := hP5.c1
      have g0 := hP5.free 0
      have g1 := hP5.free 1
      have hP6 := (hP5.set0 a.1).set1 a.2
      have hR6 : RB ((w5.setCell ⟨w.heap.size, 0, none⟩ (.string (S a.1))).setCell ⟨w.heap.size, 1, none⟩ (.string (S a.2))) b (wblanks r) := (hR5.far hne0 _).far hne0 _
      have hB6 : But b w ((w5.setCell ⟨w.heap.size, 0, none⟩ (.string (S a.1))).setCell ⟨w.heap.size, 1, none⟩ (.string (S a.2))) := (hW5.far (Nat.le_refl _) _).far (Nat.le_refl _) _
      have k0 := hP6.c0
      have k1 := hP6.c1
      have HR6 : Hid _ := hR6
      have HB6 : Hid _ := hB6
      have HK : Hid _ := And.intro k0 k1
      clear hP6 hR6 hB6 hT5 hP5 hR5 hB5 hW5 k0 k1 q0 q1 z0 z1
      go_wp2
      refine bodyPost_ret (v := .agg #[.string (S a.1), .string (S a.2)]) (by simp [results, Tryd.results19, go_sem, HK.out.1, HK.out.2]) rfl ?_
      rw [HE.out]
      exact ⟨rfl, HR6.out, HB6.out⟩
  | false =>
    have HA2 : Hid (addressP s = (namedP s1).map fun x => (x.1, wblanks x.2)) := by unfold Hid; rw [HA.out, ht]; rfl
    clear ht
    go_wp2_with fail
    refine (words_any b s1 _ HR2.out hl1).mono ?_
    cases hw : wordsP s1 with
    | none =>
      have HE : Hid (addressP s = none) := by unfold Hid; rw [HA2.out, namedP, hw]; rfl
      clear hw
      rintro e w3 ⟨rfl, hB3⟩
      go_wp2
      rw [HE.out]
      exact ⟨rfl, rfl, HB2.out.trans hB3⟩
    | some r1 =>
      have hl2 : r1.length ≤ 1048576 := by have := wordsP_len _ _ _ (Nat.le_refl _) hw; omega
      have HA3 : Hid (addressP s = ((takeP 60 r1).bind fun r => (plainP r).bind fun x => (takeP 62 x.2).map fun r => (x.1, r)).map fun x => (x.1, wblanks x.2)) := by unfold Hid; rw [HA2.out, namedP, hw]; rfl
      clear hw
      rintro e wa ⟨rfl, hRa, hBa⟩
      have HTa : Hid (Two wa w1.heap.size [] []) := HT2.out.but hBa hnq.symm
      have HPa : Hid (Two wa w.heap.size [] []) := HP2.out.but hBa hne0.symm
      have HRa : Hid (RB wa b r1) := hRa
      have HBa : Hid (But b w wa) := HB2.out.trans hBa
      clear hRa hBa
      go_wp2_with fail
      refine (take_any b 60 r1 _ HRa.out).mono ?_
      cases h60 : takeP 60 r1 with
      | none =>
        have HE : Hid (addressP s = none) := by unfold Hid; rw [HA3.out, h60]; rfl
        clear h60
        rintro e w3 ⟨rfl, hB3⟩
        go_wp2
        rw [HE.out]
        exact ⟨rfl, rfl, HBa.out.trans hB3⟩
      | some r2 =>
        have hl3 : r2.length ≤ 1048576 := by have := congrArg List.length (takeP_some h60); simp at this; omega
        have HA4 : Hid (addressP s = ((plainP r2).bind fun x => (takeP 62 x.2).map fun r => (x.1, r)).map fun x => (x.1, wblanks x.2)) := by unfold Hid; rw [HA3.out, h60]; rfl
        clear h60
        rintro e wb ⟨rfl, hRb, hBb⟩
        have HTb : Hid (Two wb w1.heap.size [] []) := HTa.out.but hBb hnq.symm
        have HPb : Hid (Two wb w.heap.size [] []) := HPa.out.but hBb hne0.symm
        have HRb : Hid (RB wb b r2) := hRb
        have HBb : Hid (But b w wb) := HBa.out.trans hBb
        clear hRb hBb
        go_wp2_with fail
        refine (plain_any b r2 _ HRb.out hl3).mono ?_
        cases hp : plainP r2 with
        | none =>
          have HE : Hid (addressP s = none) := by unfold Hid; rw [HA4.out, hp]; rfl
          clear hp
          rintro e w3 ⟨rfl, hB3⟩
          go_wp2
          rw [HE.out]
          exact ⟨rfl, rfl, HBb.out.trans hB3⟩
        | some x =>
          obtain ⟨a, r⟩ := x
          have HA5 : Hid (addressP s = ((takeP 62 r).map fun r => (a, r)).map fun x => (x.1, wblanks x.2)) := by unfold Hid; rw [HA4.out, hp]; rfl
          clear hp
          rintro e W3 ⟨rfl, hR3, hB3'⟩
          have hT3 : Two W3 w1.heap.size [] [] := HTb.out.but hB3' hnq.symm
          have hP3 : Two W3 w.heap.size [] [] := HPb.out.but hB3' hne0.symm
          have hB3 : But b w W3 := HBb.out.trans hB3'
          clear hB3'
          rw [adrV]
          have q0 := hT3.c0
          have q1 := hT3.c1
          have z0 := hT3.free 0
          have z1 := hT3.free 1
          have hT4 : Two ((W3.setCell ⟨w1.heap.size, 0, none⟩ (.string (S a.1))).setCell ⟨w1.heap.size, 1, none⟩ (.string (S a.2))) w1.heap.size a.1 a.2 := (hT3.set0 a.1).set1 a.2
          have hP4 : Two ((W3.setCell ⟨w1.heap.size, 0, none⟩ (.string (S a.1))).setCell ⟨w1.heap.size, 1, none⟩ (.string (S a.2))) w.heap.size [] [] := (hP3.far hpq _).far hpq _
          have hR4 : RB ((W3.setCell ⟨w1.heap.size, 0, none⟩ (.string (S a.1))).setCell ⟨w1.heap.size, 1, none⟩ (.string (S a.2))) b r := (hR3.far hnq _).far hnq _
          have hB4 : But b w ((W3.setCell ⟨w1.heap.size, 0, none⟩ (.string (S a.1))).setCell ⟨w1.heap.size, 1, none⟩ (.string (S a.2))) := (hB3.far hwq _).far hwq _
          have HT4 : Hid _ := hT4
          have HP4 : Hid _ := hP4
          have HR4 : Hid _ := hR4
          have HB4 : Hid _ := hB4
          clear hT4 hP4 hR4 hB4 hT3 hP3 hR3 hB3
          go_wp2_with fail
          refine (take_any b 62 r _ HR4.out).mono ?_
          cases h62 : takeP 62 r with
          | none =>
            have HE : Hid (addressP s = none) := by unfold Hid; rw [HA5.out, h62]; rfl
            clear h62
            rintro e w4 ⟨rfl, hB4⟩
            go_wp2
            rw [HE.out]
            exact ⟨rfl, rfl, But.trans HB4.out hB4⟩
          | some r3 =>
            have HE : Hid (addressP s = some (a, wblanks r3)) := by unfold Hid; rw [HA5.out, h62]; rfl
            clear h62
            rintro e w4 ⟨rfl, hRc, hBc⟩
            have HTc : Hid (Two w4 w1.heap.size a.1 a.2) := Two.but HT4.out hBc hnq.symm
            have HPc : Hid (Two w4 w.heap.size [] []) := Two.but HP4.out hBc hne0.symm
            have HRc : Hid (RB w4 b r3) := hRc
            have HBc : Hid (But b w w4) := But.trans HB4.out hBc
            clear hRc hBc q0 q1 z0 z1
            go_wp2_with fail
            refine (blanks_any b r3 _ HRc.out).mono ?_
            rintro e w5 ⟨rfl, hR5, hB5⟩
            have hT5 := Two.but HTc.out hB5 hnq.symm
            have hP5 := Two.but HPc.out hB5 hne0.symm
            have hW5 : But b w w5 := But.trans HBc.out hB5
            have d0 := hT5.c0
            have d1 := hT5.c1
            have e0 := hP5.c0
            have e1 := hP5.c1
            have g0 := hP5.free 0
            have g1 := hP5.free 1
            have hP6 := (hP5.set0 a.1).set1 a.2
            have hR6 : RB ((w5.setCell ⟨w.heap.size, 0, none⟩ (.string (S a.1))).setCell ⟨w.heap.size, 1, none⟩ (.string (S a.2))) b (wblanks r3) := (hR5.far hne0 _).far hne0 _
            have hB6 : But b w ((w5.setCell ⟨w.heap.size, 0, none⟩ (.string (S a.1))).setCell ⟨w.heap.size, 1, none⟩ (.string (S a.2))) := (hW5.far (Nat.le_refl _) _).far (Nat.le_refl _) _
            have k0 := hP6.c0
            have k1 := hP6.c1
            have HR6 : Hid _ := hR6
            have HB6 : Hid _ := hB6
            have HK : Hid _ := And.intro k0 k1
            clear hP6 hR6 hB6 hT5 hP5 hR5 hB5 hW5 k0 k1
            go_wp2
            refine bodyPost_ret (v := .agg #[.string (S a.1), .string (S a.2)]) (by simp [results, Tryd.results19, go_sem, HK.out.1, HK.out.2]) rfl ?_
            rw [HE.out]
            exact ⟨rfl, HR6.out, HB6.out⟩
end Go.Proofs.YtmcpipgjckgjgaaDoor
