/-
  What token's kindOfFirst does: the walk.
-/
import Derived.Test.YtdmiidbncpgfpabDoorTokStr2
import Derived.Test.YtdmiidbncpgfpabDoorTokMark
namespace Go.Proofs.YtdmiidbncpgfpabDoor
open Go.RowKit Go.Proofs

theorem S_head_int {c : UInt8} {t : List UInt8} {n : Nat} (hz : 0 < (S (c :: t)).size) (hn : n < 256) : (((((S (c :: t))[0]'hz).toNat : Nat) : Int) = (n : Int)) ↔ c = UInt8.ofNat n := by
  rw [S_head]
  constructor
  · intro e
    refine UInt8.toNat_inj.1 ?_
    rw [UInt8.toNat_ofNat_of_lt' hn]; omega
  · intro e
    rw [e, UInt8.toNat_ofNat_of_lt' hn]

set_option maxHeartbeats 8000000 in
set_option maxRecDepth 100000 in
theorem kindOfFirst_any (c : UInt8) (t : List UInt8) (w : World) (hs : (c :: t).length ≤ 2000) :
    Calls Tryd.prog 17 #[.string (S (c :: t))] w fun e w' => e = .returned (.int .i64 (kindM (c :: t))) ∧ Below w.heap.size w w' := by
  have hz := S_pos c t
  have HZ : Hid ((c :: t).length ≤ maxLen) := by unfold Hid maxLen; omega
  have HZ2 : Hid (t.length ≤ maxLen) := by unfold Hid maxLen; simp at hs; omega
  have hz1 : (1 : Int) ≤ ((S (c :: t)).size : Int) := by omega
  have hz2 : (S (c :: t)).size ≤ 2000 := by rw [size_S]; exact hs
  have HX : Hid ((S (c :: t)).extract 1 (S (c :: t)).size = S t) := by unfold Hid; rw [S_drop]; rfl
  have HY : Hid ((S (c :: t)).extract 0 1 = S [c]) := by unfold Hid; rw [S_take]; rfl
  have e0 : kindM (c :: t) = if letterC c then 1 else if c = 58 ∧ (t.head?.map letterC).getD false = true then 2 else if digitC c then 3 else if c = 34 then 4 else if markC c then 5 else 0 := rfl
  cases h1 : letterC c with
  | true =>
    have HK : Hid (kindM (c :: t) = 1) := by unfold Hid; rw [e0, h1]; rfl
    have hw : (0 : Int) < (wlen (c :: t) : Int) := by have := (wlen_pos (c :: t)).2 (by simpa using h1); omega
    clear e0 h1 hs
    go_enter Tryd.func17, Tryd.ntmps17
    go_wp2_with fail
    refine (wordLength_any (c :: t) _ HZ.out).mono ?_
    rintro e u ⟨rfl, hu⟩
    have hu' := hu.symm
    subst hu'
    go_wp2
    go_ret
    exact ⟨ret_int HK.out.symm, Below.refl _ _⟩
  | false =>
    have hw : (wlen (c :: t) : Int) = 0 := by rw [wlen_not t h1]; rfl
    have HW : Hid _ := hw
    rw [h1, if_neg (by simp)] at e0
    clear hw hs
    by_cases h2 : c = 58
    · have q2 : ((((S (c :: t))[0]'hz).toNat : Nat) : Int) = 58 := (S_head_int hz (n := 58) (by decide)).2 h2
      cases h3 : (t.head?.map letterC).getD false with
      | true =>
        have HK : Hid (kindM (c :: t) = 2) := by unfold Hid; rw [e0, if_pos ⟨h2, h3⟩]
        have hp : (0 : Int) < (wlen t : Int) := by have := (wlen_pos t).2 h3; omega
        clear e0 h1 h2 h3
        go_enter Tryd.func17, Tryd.ntmps17
        go_wp2_with fail
        refine (wordLength_any (c :: t) _ HZ.out).mono ?_
        rintro e u ⟨rfl, hu⟩
        have hu' := hu.symm
        subst hu'
        rw [HW.out]
        go_wp2_with fail
        rw [HX.out]
        refine (wordLength_any t _ HZ2.out).mono ?_
        rintro e u ⟨rfl, hu⟩
        have hu' := hu.symm
        subst hu'
        go_wp2
        go_ret
        exact ⟨ret_int HK.out.symm, Below.refl _ _⟩
      | false =>
        have HK : Hid (kindM (c :: t) = 0) := by
          unfold Hid; rw [e0, if_neg (by rintro ⟨_, h⟩; rw [h3] at h; cases h), h2]; decide
        have hp : (wlen t : Int) = 0 := by have := wlen_pos t; rw [h3] at this; simp at this; omega
        have HP : Hid _ := hp
        have HD : Hid (digitC 58 = false) := by unfold Hid; decide
        have HM : Hid (markB [c] = false) := by unfold Hid; rw [h2]; decide
        clear e0 h1 h2 h3 hp
        go_enter Tryd.func17, Tryd.ntmps17
        go_wp2_with fail
        refine (wordLength_any (c :: t) _ HZ.out).mono ?_
        rintro e u ⟨rfl, hu⟩
        have hu' := hu.symm
        subst hu'
        rw [HW.out]
        go_wp2_with fail
        rw [HX.out]
        refine (wordLength_any t _ HZ2.out).mono ?_
        rintro e u ⟨rfl, hu⟩
        have hu' := hu.symm
        subst hu'
        rw [HP.out]
        go_wp2_with fail
        refine (isDigit_any 58 _).mono ?_
        rintro e u ⟨rfl, hu⟩
        have hu' := hu.symm
        subst hu'
        rw [HD.out]
        go_wp2_with fail
        rw [HY.out]
        refine (isMark_any [c] _).mono ?_
        rintro e u ⟨rfl, hu⟩
        have hu' := hu.symm
        subst hu'
        rw [HM.out]
        go_wp2
        go_ret
        exact ⟨ret_int HK.out.symm, Below.refl _ _⟩
    · have q2 : ¬ ((((S (c :: t))[0]'hz).toNat : Nat) : Int) = 58 := fun e => h2 ((S_head_int hz (n := 58) (by decide)).1 e)
      rw [if_neg (fun h => h2 h.1)] at e0
      cases h3 : digitC c with
      | true =>
        have HK : Hid (kindM (c :: t) = 3) := by unfold Hid; rw [e0, h3]; rfl
        have HD : Hid (digitC ((S (c :: t))[0]'hz) = true) := by unfold Hid; rw [S_head]; exact h3
        clear e0 h1 h2 h3
        go_enter Tryd.func17, Tryd.ntmps17
        go_wp2_with fail
        refine (wordLength_any (c :: t) _ HZ.out).mono ?_
        rintro e u ⟨rfl, hu⟩
        have hu' := hu.symm
        subst hu'
        rw [HW.out]
        go_wp2_with fail
        refine (isDigit_any ((S (c :: t))[0]'hz) _).mono ?_
        rintro e u ⟨rfl, hu⟩
        have hu' := hu.symm
        subst hu'
        rw [HD.out]
        go_wp2
        go_ret
        exact ⟨ret_int HK.out.symm, Below.refl _ _⟩
      | false =>
        have HD : Hid (digitC ((S (c :: t))[0]'hz) = false) := by unfold Hid; rw [S_head]; exact h3
        rw [h3, if_neg (by simp)] at e0
        by_cases h4 : c = 34
        · have HK : Hid (kindM (c :: t) = 4) := by unfold Hid; rw [e0, if_pos h4]
          have q4 : ((((S (c :: t))[0]'hz).toNat : Nat) : Int) = 34 := (S_head_int hz (n := 34) (by decide)).2 h4
          have HD4 : Hid (digitC 34 = false) := by unfold Hid; decide
          clear e0 h1 h2 h3 h4
          go_enter Tryd.func17, Tryd.ntmps17
          go_wp2_with fail
          refine (wordLength_any (c :: t) _ HZ.out).mono ?_
          rintro e u ⟨rfl, hu⟩
          have hu' := hu.symm
          subst hu'
          rw [HW.out]
          go_wp2_with fail
          refine (isDigit_any 34 _).mono ?_
          rintro e u ⟨rfl, hu⟩
          have hu' := hu.symm
          subst hu'
          rw [HD4.out]
          go_wp2
          go_ret
          exact ⟨ret_int HK.out.symm, Below.refl _ _⟩
        · have q4 : ¬ ((((S (c :: t))[0]'hz).toNat : Nat) : Int) = 34 := fun e => h4 ((S_head_int hz (n := 34) (by decide)).1 e)
          rw [if_neg h4] at e0
          cases h5 : markC c with
          | true =>
            have HK : Hid (kindM (c :: t) = 5) := by unfold Hid; rw [e0, h5]; rfl
            have HM : Hid (markB [c] = true) := h5
            clear e0 h1 h2 h3 h4 h5
            go_enter Tryd.func17, Tryd.ntmps17
            go_wp2_with fail
            refine (wordLength_any (c :: t) _ HZ.out).mono ?_
            rintro e u ⟨rfl, hu⟩
            have hu' := hu.symm
            subst hu'
            rw [HW.out]
            go_wp2_with fail
            refine (isDigit_any ((S (c :: t))[0]'hz) _).mono ?_
            rintro e u ⟨rfl, hu⟩
            have hu' := hu.symm
            subst hu'
            rw [HD.out]
            go_wp2_with fail
            rw [HY.out]
            refine (isMark_any [c] _).mono ?_
            rintro e u ⟨rfl, hu⟩
            have hu' := hu.symm
            subst hu'
            rw [HM.out]
            go_wp2
            go_ret
            exact ⟨ret_int HK.out.symm, Below.refl _ _⟩
          | false =>
            have HK : Hid (kindM (c :: t) = 0) := by unfold Hid; rw [e0, h5]; rfl
            have HM : Hid (markB [c] = false) := h5
            clear e0 h1 h2 h3 h4 h5
            go_enter Tryd.func17, Tryd.ntmps17
            go_wp2_with fail
            refine (wordLength_any (c :: t) _ HZ.out).mono ?_
            rintro e u ⟨rfl, hu⟩
            have hu' := hu.symm
            subst hu'
            rw [HW.out]
            go_wp2_with fail
            refine (isDigit_any ((S (c :: t))[0]'hz) _).mono ?_
            rintro e u ⟨rfl, hu⟩
            have hu' := hu.symm
            subst hu'
            rw [HD.out]
            go_wp2_with fail
            rw [HY.out]
            refine (isMark_any [c] _).mono ?_
            rintro e u ⟨rfl, hu⟩
            have hu' := hu.symm
            subst hu'
            rw [HM.out]
            go_wp2
            go_ret
            exact ⟨ret_int HK.out.symm, Below.refl _ _⟩
end Go.Proofs.YtdmiidbncpgfpabDoor
