/-
  What postroomref's letterByte, digitByte, markByte, wordEnd and TokenFault do: the walks.
-/
import Derived.Test.YtfdkeodfkapncaaDoorTokChk
import Derived.Deep.QuietTactic
import Derived.BigQuiet
namespace Go.Proofs.YtfdkeodfkapncaaDoor
open Go.RowKit Go.Proofs

set_option maxHeartbeats 400000 in
theorem within_any (n a b : Int) (w : World) :
    Calls Tryd.prog 34 #[.int .i64 n, .int .i64 a, .int .i64 b] w fun e w' => e = .returned (.bool (decide (a ≤ n ∧ n ≤ b))) ∧ w' = w := by
  go_enter Tryd.func34, Tryd.ntmps34
  go_wp2
  all_goals
    go_ret
    exact ⟨ret_bool (by simp; omega), rfl⟩
set_option maxHeartbeats 400000 in
theorem within_is (n a b : Int) (r : Bool) (hr : decide (a ≤ n ∧ n ≤ b) = r) (w : World) :
    Calls Tryd.prog 34 #[.int .i64 n, .int .i64 a, .int .i64 b] w fun e w' => e = .returned (.bool r) ∧ w' = w := by
  rw [← hr]; exact within_any n a b w

set_option maxHeartbeats 1000000 in
theorem rdigit_any (c : UInt8) (w : World) :
    Calls Tryd.prog 54 #[.int .u8 c.toNat] w fun e w' => e = .returned (.bool (digitC c)) ∧ w' = w := by
  have hu := c.toNat_lt
  have hx0 : (0 : Int) ≤ (c.toNat : Int) := by omega
  have hx1 : (c.toNat : Int) ≤ 255 := by omega
  have HA : Hid (decide ((48 : Int) ≤ (c.toNat : Int) ∧ (c.toNat : Int) ≤ 57) = digitC c) := by
    unfold Hid digitC
    rw [Bool.eq_iff_iff]; simp; omega
  go_enter Tryd.func54, Tryd.ntmps54
  go_wp2_with fail
  refine (within_is _ _ _ _ HA.out _).mono ?_
  rintro e u ⟨rfl, hu⟩
  have hu' := hu.symm
  subst hu'
  go_wp2
  go_ret
  exact ⟨rfl, rfl⟩

theorem letter_low {c : UInt8} (h : 97 ≤ c.toNat ∧ c.toNat ≤ 122) : letterC c = true := by unfold letterC; simp [h.1, h.2]
theorem letter_up {c : UInt8} (h : 65 ≤ c.toNat ∧ c.toNat ≤ 90) : letterC c = true := by unfold letterC; simp [h.1, h.2]
theorem letter_else {c : UInt8} (h1 : ¬ (97 ≤ c.toNat ∧ c.toNat ≤ 122)) (h2 : ¬ (65 ≤ c.toNat ∧ c.toNat ≤ 90)) : letterC c = decide ((c.toNat : Int) = 95) := by
  unfold letterC
  have e1 : (decide (97 ≤ c.toNat) && decide (c.toNat ≤ 122)) = false := by rw [Bool.and_eq_false_iff, decide_eq_false_iff_not, decide_eq_false_iff_not]; omega
  have e2 : (decide (65 ≤ c.toNat) && decide (c.toNat ≤ 90)) = false := by rw [Bool.and_eq_false_iff, decide_eq_false_iff_not, decide_eq_false_iff_not]; omega
  rw [e1, e2]
  simp only [Bool.false_or]
  by_cases h : c = 95
  · subst h; rfl
  · have : ¬ (c.toNat : Int) = 95 := fun e => h (UInt8.toNat_inj.1 (by show c.toNat = 95; omega))
    simp [h, this]
set_option maxHeartbeats 2000000 in
theorem rletter_any (c : UInt8) (w : World) :
    Calls Tryd.prog 36 #[.int .u8 c.toNat] w fun e w' => e = .returned (.bool (letterC c)) ∧ w' = w := by
  have hu := c.toNat_lt
  have hx0 : (0 : Int) ≤ (c.toNat : Int) := by omega
  have hx1 : (c.toNat : Int) ≤ 255 := by omega
  by_cases h1 : 97 ≤ c.toNat ∧ c.toNat ≤ 122
  · have HA : Hid _ := letter_low h1
    have H1 : Hid (decide ((97 : Int) ≤ (c.toNat : Int) ∧ (c.toNat : Int) ≤ 122) = true) := by unfold Hid; simp; omega
    clear h1
    go_enter Tryd.func36, Tryd.ntmps36
    go_wp2_with fail
    refine (within_is _ _ _ _ H1.out _).mono ?_
    rintro e u ⟨rfl, hu⟩
    have hu' := hu.symm
    subst hu'
    go_wp2
    go_ret
    exact ⟨ret_bool HA.out.symm, rfl⟩
  have H1 : Hid (decide ((97 : Int) ≤ (c.toNat : Int) ∧ (c.toNat : Int) ≤ 122) = false) := by unfold Hid; simp; omega
  by_cases h2 : 65 ≤ c.toNat ∧ c.toNat ≤ 90
  · have HA : Hid _ := letter_up h2
    have H2 : Hid (decide ((65 : Int) ≤ (c.toNat : Int) ∧ (c.toNat : Int) ≤ 90) = true) := by unfold Hid; simp; omega
    clear h1 h2
    go_enter Tryd.func36, Tryd.ntmps36
    go_wp2_with fail
    refine (within_is _ _ _ _ H1.out _).mono ?_
    rintro e u ⟨rfl, hu⟩
    have hu' := hu.symm
    subst hu'
    go_wp2_with fail
    refine (within_is _ _ _ _ H2.out _).mono ?_
    rintro e u ⟨rfl, hu⟩
    have hu' := hu.symm
    subst hu'
    go_wp2
    go_ret
    exact ⟨ret_bool HA.out.symm, rfl⟩
  have H2 : Hid (decide ((65 : Int) ≤ (c.toNat : Int) ∧ (c.toNat : Int) ≤ 90) = false) := by unfold Hid; simp; omega
  have HA : Hid _ := letter_else h1 h2
  clear h1 h2
  go_enter Tryd.func36, Tryd.ntmps36
  go_wp2_with fail
  refine (within_is _ _ _ _ H1.out _).mono ?_
  rintro e u ⟨rfl, hu⟩
  have hu' := hu.symm
  subst hu'
  go_wp2_with fail
  refine (within_is _ _ _ _ H2.out _).mono ?_
  rintro e u ⟨rfl, hu⟩
  have hu' := hu.symm
  subst hu'
  go_wp2
  go_ret
  exact ⟨ret_bool (by rw [HA.out]; first | rfl | simp), rfl⟩

theorem byte_ne {c : UInt8} {n : Nat} (hn : n < 256) (h : ¬ c = UInt8.ofNat n) : ¬ (c.toNat : Int) = (n : Int) := fun e => h (UInt8.toNat_inj.1 (by rw [UInt8.toNat_ofNat_of_lt' hn]; omega))
set_option maxHeartbeats 8000000 in
set_option maxRecDepth 100000 in
theorem rmark_any (c : UInt8) (w : World) :
    Calls Tryd.prog 35 #[.int .u8 c.toNat] w fun e w' => e = .returned (.bool (markC c)) ∧ w' = w := by
  cases h : markC c with
  | true =>
    have h' := h
    unfold markC at h'
    rw [List.contains_iff_mem] at h'
    simp only [markL, List.mem_cons, List.not_mem_nil, or_false] at h'
    clear h
    rcases h' with rfl | rfl | rfl | rfl | rfl | rfl | rfl | rfl
    all_goals
      show Calls Tryd.prog 35 #[.int .u8 _] w _
      go_enter Tryd.func35, Tryd.ntmps35
      go_wp2
      go_ret
      exact ⟨rfl, rfl⟩
  | false =>
    have h' : ¬ c ∈ markL := by rw [← List.contains_iff_mem]; unfold markC at h; rw [h]; simp
    simp only [markL, List.mem_cons, List.not_mem_nil, or_false, not_or] at h'
    obtain ⟨a1, a2, a3, a4, a5, a6, a7, a8⟩ := h'
    have b1 : ¬ (c.toNat : Int) = 123 := byte_ne (n := 123) (by decide) a1
    have b2 : ¬ (c.toNat : Int) = 125 := byte_ne (n := 125) (by decide) a2
    have b3 : ¬ (c.toNat : Int) = 40 := byte_ne (n := 40) (by decide) a3
    have b4 : ¬ (c.toNat : Int) = 41 := byte_ne (n := 41) (by decide) a4
    have b5 : ¬ (c.toNat : Int) = 91 := byte_ne (n := 91) (by decide) a5
    have b6 : ¬ (c.toNat : Int) = 93 := byte_ne (n := 93) (by decide) a6
    have b7 : ¬ (c.toNat : Int) = 59 := byte_ne (n := 59) (by decide) a7
    have b8 : ¬ (c.toNat : Int) = 44 := byte_ne (n := 44) (by decide) a8
    clear a1 a2 a3 a4 a5 a6 a7 a8 h
    go_enter Tryd.func35, Tryd.ntmps35
    go_wp2
    go_ret
    exact ⟨ret_bool (by first | rfl | simp [b1, b2, b3, b4, b5, b6, b7, b8]), rfl⟩

set_option maxHeartbeats 4000000 in
set_option maxRecDepth 100000 in
theorem wordEnd_any (s : List UInt8) (w : World) (hs : s.length ≤ maxLen) :
    Calls Tryd.prog 37 #[.string (S s), .int .i64 0] w fun e w' => e = .returned (.int .i64 ((s.takeWhile wordyC).length : Nat)) ∧ w' = w := by
  have hz : (S s).size ≤ 9223372036854775807 := by rw [size_S]; unfold maxLen at hs; omega
  obtain ⟨n, hn⟩ : ∃ n, n = (s.takeWhile wordyC).length := ⟨_, rfl⟩
  have hnl : n ≤ (S s).size := by rw [size_S, hn]; exact (List.takeWhile_prefix _).length_le
  have HN : Hid _ := hn
  have HS : Hid ((S s).size = s.length) := size_S s
  rw [← hn]
  clear hn hs
  go_enter Tryd.func37, Tryd.ntmps37
  go_wp2
  go_loopw [1] (fun i wr => ∃ k : Nat, k ≤ n ∧ i = .int .i64 k ∧ wr = w) (fun i _ => n - (intOf i).toNat)
  case atStart => exact ⟨0, Nat.zero_le _, rfl, rfl⟩
  case round =>
    obtain ⟨k, hk, rfl, rfl⟩ := hrel
    by_cases hlt : k < n
    · have hks : k < (S s).size := by omega
      have hk' : k < s.length := by have := HS.out; omega
      have hg : (S s)[k]'hks = s[k]'hk' := S_get s k hks hk'
      have hw : wordyC ((S s)[k]'hks) = true := by rw [hg]; exact takeW_yes hk' (by rw [← HN.out]; exact hlt)
      cases hl : letterC ((S s)[k]'hks) with
      | true =>
        have HL : Hid _ := hl
        clear hg hw hl hk'
        go_wp2_with fail
        refine (rletter_any ((S s)[k]'hks) _).mono ?_
        rintro e u ⟨rfl, hu⟩
        have hu' := hu.symm
        subst hu'
        rw [HL.out]
        go_wp2
        go_roundw
        case rel => exact ⟨k + 1, by omega, by go_num, by first | rfl | trivial⟩
        case measure => simp [intOf]; omega
      | false =>
        have hd : digitC ((S s)[k]'hks) = true := by unfold wordyC at hw; rw [hl] at hw; simpa using hw
        have HL : Hid _ := hl
        have HD : Hid _ := hd
        clear hg hw hl hk' hd
        go_wp2_with fail
        refine (rletter_any ((S s)[k]'hks) _).mono ?_
        rintro e u ⟨rfl, hu⟩
        have hu' := hu.symm
        subst hu'
        rw [HL.out]
        go_wp2_with fail
        refine (rdigit_any ((S s)[k]'hks) _).mono ?_
        rintro e u ⟨rfl, hu⟩
        have hu' := hu.symm
        subst hu'
        rw [HD.out]
        go_wp2
        go_roundw
        case rel => exact ⟨k + 1, by omega, by go_num, by first | rfl | trivial⟩
        case measure => simp [intOf]; omega
    · have hkn : k = n := by omega
      subst hkn
      by_cases hks : k < (S s).size
      · have hk' : k < s.length := by have := HS.out; omega
        have hg : (S s)[k]'hks = s[k]'hk' := S_get s k hks hk'
        have hw : wordyC ((S s)[k]'hks) = false := by
          rw [hg]
          have h2 := HN.out
          subst h2
          exact takeW_no hk'
        have hl : letterC ((S s)[k]'hks) = false := by unfold wordyC at hw; simp only [Bool.or_eq_false_iff] at hw; exact hw.1
        have hd : digitC ((S s)[k]'hks) = false := by unfold wordyC at hw; simp only [Bool.or_eq_false_iff] at hw; exact hw.2
        have HL : Hid _ := hl
        have HD : Hid _ := hd
        clear hg hw hl hk' hd
        go_wp2_with fail
        refine (rletter_any ((S s)[k]'hks) _).mono ?_
        rintro e u ⟨rfl, hu⟩
        have hu' := hu.symm
        subst hu'
        rw [HL.out]
        go_wp2_with fail
        refine (rdigit_any ((S s)[k]'hks) _).mono ?_
        rintro e u ⟨rfl, hu⟩
        have hu' := hu.symm
        subst hu'
        rw [HD.out]
        go_wp2
        go_ret
        exact ⟨rfl, rfl⟩
      · go_wp2
        go_ret
        exact ⟨rfl, rfl⟩
theorem rletter_is (c : UInt8) (r : Bool) (hr : letterC c = r) (w : World) :
    Calls Tryd.prog 36 #[.int .u8 c.toNat] w fun e w' => e = .returned (.bool r) ∧ w' = w := by
  rw [← hr]; exact rletter_any c w
theorem wordEnd_is (s : List UInt8) (n : Nat) (hn : (s.takeWhile wordyC).length = n) (hs : s.length ≤ maxLen) (w : World) :
    Calls Tryd.prog 37 #[.string (S s), .int .i64 0] w fun e w' => e = .returned (.int .i64 (n : Nat)) ∧ w' = w := by
  rw [← hn]; exact wordEnd_any s w hs

set_option maxHeartbeats 16000000 in
set_option maxRecDepth 100000 in
theorem rfault_any (t : Tok) (w : World) (hs : t.text.length ≤ maxLen) :
    Calls Tryd.prog 21 #[.agg #[.int .i64 t.kind, .string (S t.text), .int .i64 t.num]] w fun e w' => e = .returned (.int .i64 (faultT t)) ∧ Below w.heap.size w w' := by
  obtain ⟨k, x, n⟩ := t
  simp only at hs ⊢
  have HS : Hid _ := hs
  clear hs
  by_cases hk : ¬ (1 ≤ k ∧ k ≤ 5)
  · have HF : Hid (faultT ⟨k, x, n⟩ = 2) := fault_none hk
    have HI : Hid (decide ((1 : Int) ≤ k ∧ k ≤ 5) = false) := by unfold Hid; rw [decide_eq_false_iff_not]; exact hk
    clear hk
    go_enter Tryd.func21, Tryd.ntmps21
    go_wp2_with fail
    refine (within_is _ _ _ _ HI.out _).mono ?_
    rintro e u ⟨rfl, hu⟩
    have hu' := hu.symm
    subst hu'
    go_wp2
    go_ret
    exact ⟨ret_int HF.out.symm, (Below.refl _ _).alloc (Nat.le_refl _) _⟩
  by_cases h3 : k = 3
  · subst h3
    have HF : Hid (faultT ⟨3, x, n⟩ = numN ⟨3, x, n⟩) := fault_three rfl
    by_cases hn : 0 ≤ n ∧ n ≤ 2147483647
    · have HI : Hid (decide ((0 : Int) ≤ n ∧ n ≤ 2147483647) = true) := by unfold Hid; rw [decide_eq_true_iff]; exact hn
      cases x with
      | nil =>
        have HF2 : Hid (faultT ⟨3, [], n⟩ = 0) := by unfold Hid; rw [HF.out]; unfold numN; simp only; rw [if_neg (by omega)]; rfl
        have hz : ((S []).size : Int) = 0 := rfl
        clear HF hn hk
        go_enter Tryd.func21, Tryd.ntmps21
        go_wp2_with fail
        refine (within_is _ _ _ true (by decide) _).mono ?_
        rintro e u ⟨rfl, hu⟩
        have hu' := hu.symm
        subst hu'
        go_wp2_with fail
        refine (within_is _ _ _ _ HI.out _).mono ?_
        rintro e u ⟨rfl, hu⟩
        have hu' := hu.symm
        subst hu'
        go_wp2
        go_ret
        exact ⟨ret_int HF2.out.symm, (Below.refl _ _).alloc (Nat.le_refl _) _⟩
      | cons c x =>
        have HF2 : Hid (faultT ⟨3, c :: x, n⟩ = 3) := by unfold Hid; rw [HF.out]; unfold numN; simp only; rw [if_neg (by omega)]; rfl
        have hz := S_pos c x
        have hz' : (0 : Int) < ((S (c :: x)).size : Int) := by omega
        clear HF hn hk
        go_enter Tryd.func21, Tryd.ntmps21
        go_wp2_with fail
        refine (within_is _ _ _ true (by decide) _).mono ?_
        rintro e u ⟨rfl, hu⟩
        have hu' := hu.symm
        subst hu'
        go_wp2_with fail
        refine (within_is _ _ _ _ HI.out _).mono ?_
        rintro e u ⟨rfl, hu⟩
        have hu' := hu.symm
        subst hu'
        go_wp2
        go_ret
        exact ⟨ret_int HF2.out.symm, (Below.refl _ _).alloc (Nat.le_refl _) _⟩
    · have HI : Hid (decide ((0 : Int) ≤ n ∧ n ≤ 2147483647) = false) := by unfold Hid; rw [decide_eq_false_iff_not]; exact hn
      have HF2 : Hid (faultT ⟨3, x, n⟩ = 6) := by unfold Hid; rw [HF.out]; unfold numN; simp only; rw [if_pos hn]
      clear HF hn hk
      go_enter Tryd.func21, Tryd.ntmps21
      go_wp2_with fail
      refine (within_is _ _ _ true (by decide) _).mono ?_
      rintro e u ⟨rfl, hu⟩
      have hu' := hu.symm
      subst hu'
      go_wp2_with fail
      refine (within_is _ _ _ _ HI.out _).mono ?_
      rintro e u ⟨rfl, hu⟩
      have hu' := hu.symm
      subst hu'
      go_wp2
      go_ret
      exact ⟨ret_int HF2.out.symm, (Below.refl _ _).alloc (Nat.le_refl _) _⟩
  by_cases h4 : k = 4
  · subst h4
    have HF : Hid (faultT ⟨4, x, n⟩ = formN n true) := fault_str (t := ⟨4, x, n⟩) rfl
    by_cases hn : n = 0
    · subst hn
      have HF2 : Hid (faultT ⟨4, x, 0⟩ = 0) := by unfold Hid; rw [HF.out]; rfl
      clear HF hk h3
      go_enter Tryd.func21, Tryd.ntmps21
      go_wp2_with fail
      refine (within_is _ _ _ true (by decide) _).mono ?_
      rintro e u ⟨rfl, hu⟩
      have hu' := hu.symm
      subst hu'
      go_wp2
      go_ret
      exact ⟨ret_int HF2.out.symm, (Below.refl _ _).alloc (Nat.le_refl _) _⟩
    · have HF2 : Hid (faultT ⟨4, x, n⟩ = 3) := by unfold Hid; rw [HF.out]; unfold formN; simp [hn]
      have hq : (n == 0) = false := by simp [hn]
      clear HF hk h3
      go_enter Tryd.func21, Tryd.ntmps21
      go_wp2_with fail
      refine (within_is _ _ _ true (by decide) _).mono ?_
      rintro e u ⟨rfl, hu⟩
      have hu' := hu.symm
      subst hu'
      go_wp2
      go_ret
      exact ⟨ret_int HF2.out.symm, (Below.refl _ _).alloc (Nat.le_refl _) _⟩
  by_cases h5 : k = 5
  · subst h5
    have HF : Hid (faultT ⟨5, x, n⟩ = formN n (markB x)) := fault_mark (t := ⟨5, x, n⟩) rfl
    by_cases hn : n = 0
    · subst hn
      by_cases hl : x.length = 1
      · obtain ⟨c, rfl⟩ := List.length_eq_one_iff.1 hl
        have hz : 0 < (S [c]).size := S_pos c []
        have hz1 : ((S [c]).size : Int) = 1 := rfl
        have HF2 : Hid (faultT ⟨5, [c], 0⟩ = if markC c then 0 else 3) := by
          unfold Hid; rw [HF.out]; unfold formN
          show (if (0 : Int) ≠ 0 ∨ markC c = false then (3 : Int) else 0) = _
          cases markC c <;> simp
        have HM : Hid (markC ((S [c])[0]'hz) = markC c) := by unfold Hid; rw [S_head]
        clear HF hk h3 h4 hl
        go_enter Tryd.func21, Tryd.ntmps21
        go_wp2_with fail
        refine (within_is _ _ _ true (by decide) _).mono ?_
        rintro e u ⟨rfl, hu⟩
        have hu' := hu.symm
        subst hu'
        go_wp2_with fail
        refine (rmark_any ((S [c])[0]'hz) _).mono ?_
        rintro e u ⟨rfl, hu⟩
        have hu' := hu.symm
        subst hu'
        rw [HM.out]
        cases hm : markC c with
        | true =>
          have HG : Hid (faultT ⟨5, [c], 0⟩ = 0) := by unfold Hid; rw [HF2.out, hm]; rfl
          go_wp2
          go_ret
          exact ⟨ret_int HG.out.symm, (Below.refl _ _).alloc (Nat.le_refl _) _⟩
        | false =>
          have HG : Hid (faultT ⟨5, [c], 0⟩ = 3) := by unfold Hid; rw [HF2.out, hm]; rfl
          go_wp2
          go_ret
          exact ⟨ret_int HG.out.symm, (Below.refl _ _).alloc (Nat.le_refl _) _⟩
      · have HF2 : Hid (faultT ⟨5, x, 0⟩ = 3) := by
          unfold Hid; rw [HF.out]
          have : markB x = false := by
            match x, hl with
            | [], _ => rfl
            | [c], h => exact absurd rfl h
            | a :: b :: r, _ => rfl
          rw [this]; rfl
        have hz : ¬ ((S x).size : Int) = 1 := by rw [size_S]; omega
        clear HF hk h3 h4 hl
        go_enter Tryd.func21, Tryd.ntmps21
        go_wp2_with fail
        refine (within_is _ _ _ true (by decide) _).mono ?_
        rintro e u ⟨rfl, hu⟩
        have hu' := hu.symm
        subst hu'
        go_wp2
        go_ret
        exact ⟨ret_int HF2.out.symm, (Below.refl _ _).alloc (Nat.le_refl _) _⟩
    · have HF2 : Hid (faultT ⟨5, x, n⟩ = 3) := by unfold Hid; rw [HF.out]; unfold formN; simp [hn]
      have hq : (n == 0) = false := by simp [hn]
      clear HF hk h3 h4
      go_enter Tryd.func21, Tryd.ntmps21
      go_wp2_with fail
      refine (within_is _ _ _ true (by decide) _).mono ?_
      rintro e u ⟨rfl, hu⟩
      have hu' := hu.symm
      subst hu'
      go_wp2
      go_ret
      exact ⟨ret_int HF2.out.symm, (Below.refl _ _).alloc (Nat.le_refl _) _⟩
  by_cases h1 : k = 1
  · subst h1
    have HF : Hid (faultT ⟨1, x, n⟩ = formN n (wordB x)) := fault_word (t := ⟨1, x, n⟩) (Or.inl rfl)
    by_cases hn : n = 0
    · subst hn
      cases x with
      | nil =>
        have HF2 : Hid (faultT ⟨1, [], 0⟩ = 3) := by unfold Hid; rw [HF.out]; rfl
        have hz : ((S []).size : Int) = 0 := rfl
        clear HF
        go_enter Tryd.func21, Tryd.ntmps21
        go_wp2_with fail
        refine (within_is _ _ _ true (by decide) _).mono ?_
        rintro e u ⟨rfl, hu⟩
        have hu' := hu.symm
        subst hu'
        go_wp2
        go_quiet (fail)
        go_wp2
        go_ret
        exact ⟨ret_int HF2.out.symm, wdrew ((Below.refl _ _).alloc (Nat.le_refl _) _) nq⟩
      | cons c x =>
        have hz := S_pos c x
        cases hl : letterC c with
        | false =>
          have HF2 : Hid (faultT ⟨1, c :: x, 0⟩ = 3) := by unfold Hid; rw [HF.out]; unfold formN wordB; simp [hl]
          have HL : Hid (letterC ((S (c :: x))[0]'hz) = false) := by unfold Hid; rw [S_head]; exact hl
          clear HF hl
          go_enter Tryd.func21, Tryd.ntmps21
          go_wp2_with fail
          refine (within_is _ _ _ true (by decide) _).mono ?_
          rintro e u ⟨rfl, hu⟩
          have hu' := hu.symm
          subst hu'
          go_wp2
          go_quiet ((go_at_call 36; exact Calls.quiet_of_same (rletter_is ((S (c :: x))[0]'hz) false HL.out _)))
          go_wp2
          go_ret
          exact ⟨ret_int HF2.out.symm, wdrew ((Below.refl _ _).alloc (Nat.le_refl _) _) nq⟩
        | true =>
          have HL : Hid (letterC ((S (c :: x))[0]'hz) = true) := by unfold Hid; rw [S_head]; exact hl
          obtain ⟨m, hm⟩ : ∃ m, m = ((c :: x).takeWhile wordyC).length := ⟨_, rfl⟩
          have hw := wlen_all (c :: x)
          have hwl : wlen (c :: x) = m := by rw [hm]; show (if digitC c then 0 else _) = _; rw [letter_not_digit hl]; rfl
          rw [hwl] at hw
          have HM : Hid _ := hm.symm
          have hsz : (S (c :: x)).size = (c :: x).length := size_S _
          cases hb : wordB (c :: x) with
          | true =>
            have HF2 : Hid (faultT ⟨1, c :: x, 0⟩ = 0) := by unfold Hid; rw [HF.out, hb]; rfl
            have he : (m : Int) = ((S (c :: x)).size : Int) := by rw [hsz]; have := (hw.2 hb).2; omega
            clear HF hl hw hwl hm hb hsz
            go_enter Tryd.func21, Tryd.ntmps21
            go_wp2_with fail
            refine (within_is _ _ _ true (by decide) _).mono ?_
            rintro e u ⟨rfl, hu⟩
            have hu' := hu.symm
            subst hu'
            go_wp2
            go_quiet ((first | (go_at_call 36; exact Calls.quiet_of_same (rletter_is ((S (c :: x))[0]'hz) true HL.out _)) | (go_at_call 37; exact Calls.quiet_of_same (wordEnd_is (c :: x) m HM.out HS.out _))))
            go_wp2
            go_ret
            exact ⟨ret_int HF2.out.symm, wdrew ((Below.refl _ _).alloc (Nat.le_refl _) _) nq⟩
          | false =>
            have HF2 : Hid (faultT ⟨1, c :: x, 0⟩ = 3) := by unfold Hid; rw [HF.out, hb]; rfl
            have he : ¬ (m : Int) = ((S (c :: x)).size : Int) := by rw [hsz]; intro e; have := hw.1 ⟨by simp, by omega⟩; rw [hb] at this; cases this
            have heb : ((m : Int) == ((S (c :: x)).size : Int)) = false := by simpa using he
            clear HF hl hw hwl hm hb hsz
            go_enter Tryd.func21, Tryd.ntmps21
            go_wp2_with fail
            refine (within_is _ _ _ true (by decide) _).mono ?_
            rintro e u ⟨rfl, hu⟩
            have hu' := hu.symm
            subst hu'
            go_wp2
            go_quiet ((first | (go_at_call 36; exact Calls.quiet_of_same (rletter_is ((S (c :: x))[0]'hz) true HL.out _)) | (go_at_call 37; exact Calls.quiet_of_same (wordEnd_is (c :: x) m HM.out HS.out _))))
            go_wp2
            go_ret
            exact ⟨ret_int HF2.out.symm, wdrew ((Below.refl _ _).alloc (Nat.le_refl _) _) nq⟩
    · have HF2 : Hid (faultT ⟨1, x, n⟩ = 3) := by unfold Hid; rw [HF.out]; unfold formN; simp [hn]
      have hq : (n == 0) = false := by simp [hn]
      clear HF
      go_enter Tryd.func21, Tryd.ntmps21
      go_wp2_with fail
      refine (within_is _ _ _ true (by decide) _).mono ?_
      rintro e u ⟨rfl, hu⟩
      have hu' := hu.symm
      subst hu'
      go_wp2
      go_quiet (fail)
      go_wp2
      go_ret
      exact ⟨ret_int HF2.out.symm, wdrew ((Below.refl _ _).alloc (Nat.le_refl _) _) nq⟩
  by_cases h2 : k = 2
  · subst h2
    have HF : Hid (faultT ⟨2, x, n⟩ = formN n (wordB x)) := fault_word (t := ⟨2, x, n⟩) (Or.inr rfl)
    by_cases hn : n = 0
    · subst hn
      cases x with
      | nil =>
        have HF2 : Hid (faultT ⟨2, [], 0⟩ = 3) := by unfold Hid; rw [HF.out]; rfl
        have hz : ((S []).size : Int) = 0 := rfl
        clear HF
        go_enter Tryd.func21, Tryd.ntmps21
        go_wp2_with fail
        refine (within_is _ _ _ true (by decide) _).mono ?_
        rintro e u ⟨rfl, hu⟩
        have hu' := hu.symm
        subst hu'
        go_wp2
        go_quiet (fail)
        go_wp2
        go_ret
        exact ⟨ret_int HF2.out.symm, wdrew ((Below.refl _ _).alloc (Nat.le_refl _) _) nq⟩
      | cons c x =>
        have hz := S_pos c x
        cases hl : letterC c with
        | false =>
          have HF2 : Hid (faultT ⟨2, c :: x, 0⟩ = 3) := by unfold Hid; rw [HF.out]; unfold formN wordB; simp [hl]
          have HL : Hid (letterC ((S (c :: x))[0]'hz) = false) := by unfold Hid; rw [S_head]; exact hl
          clear HF hl
          go_enter Tryd.func21, Tryd.ntmps21
          go_wp2_with fail
          refine (within_is _ _ _ true (by decide) _).mono ?_
          rintro e u ⟨rfl, hu⟩
          have hu' := hu.symm
          subst hu'
          go_wp2
          go_quiet ((go_at_call 36; exact Calls.quiet_of_same (rletter_is ((S (c :: x))[0]'hz) false HL.out _)))
          go_wp2
          go_ret
          exact ⟨ret_int HF2.out.symm, wdrew ((Below.refl _ _).alloc (Nat.le_refl _) _) nq⟩
        | true =>
          have HL : Hid (letterC ((S (c :: x))[0]'hz) = true) := by unfold Hid; rw [S_head]; exact hl
          obtain ⟨m, hm⟩ : ∃ m, m = ((c :: x).takeWhile wordyC).length := ⟨_, rfl⟩
          have hw := wlen_all (c :: x)
          have hwl : wlen (c :: x) = m := by rw [hm]; show (if digitC c then 0 else _) = _; rw [letter_not_digit hl]; rfl
          rw [hwl] at hw
          have HM : Hid _ := hm.symm
          have hsz : (S (c :: x)).size = (c :: x).length := size_S _
          cases hb : wordB (c :: x) with
          | true =>
            have HF2 : Hid (faultT ⟨2, c :: x, 0⟩ = 0) := by unfold Hid; rw [HF.out, hb]; rfl
            have he : (m : Int) = ((S (c :: x)).size : Int) := by rw [hsz]; have := (hw.2 hb).2; omega
            clear HF hl hw hwl hm hb hsz
            go_enter Tryd.func21, Tryd.ntmps21
            go_wp2_with fail
            refine (within_is _ _ _ true (by decide) _).mono ?_
            rintro e u ⟨rfl, hu⟩
            have hu' := hu.symm
            subst hu'
            go_wp2
            go_quiet ((first | (go_at_call 36; exact Calls.quiet_of_same (rletter_is ((S (c :: x))[0]'hz) true HL.out _)) | (go_at_call 37; exact Calls.quiet_of_same (wordEnd_is (c :: x) m HM.out HS.out _))))
            go_wp2
            go_ret
            exact ⟨ret_int HF2.out.symm, wdrew ((Below.refl _ _).alloc (Nat.le_refl _) _) nq⟩
          | false =>
            have HF2 : Hid (faultT ⟨2, c :: x, 0⟩ = 3) := by unfold Hid; rw [HF.out, hb]; rfl
            have he : ¬ (m : Int) = ((S (c :: x)).size : Int) := by rw [hsz]; intro e; have := hw.1 ⟨by simp, by omega⟩; rw [hb] at this; cases this
            have heb : ((m : Int) == ((S (c :: x)).size : Int)) = false := by simpa using he
            clear HF hl hw hwl hm hb hsz
            go_enter Tryd.func21, Tryd.ntmps21
            go_wp2_with fail
            refine (within_is _ _ _ true (by decide) _).mono ?_
            rintro e u ⟨rfl, hu⟩
            have hu' := hu.symm
            subst hu'
            go_wp2
            go_quiet ((first | (go_at_call 36; exact Calls.quiet_of_same (rletter_is ((S (c :: x))[0]'hz) true HL.out _)) | (go_at_call 37; exact Calls.quiet_of_same (wordEnd_is (c :: x) m HM.out HS.out _))))
            go_wp2
            go_ret
            exact ⟨ret_int HF2.out.symm, wdrew ((Below.refl _ _).alloc (Nat.le_refl _) _) nq⟩
    · have HF2 : Hid (faultT ⟨2, x, n⟩ = 3) := by unfold Hid; rw [HF.out]; unfold formN; simp [hn]
      have hq : (n == 0) = false := by simp [hn]
      clear HF
      go_enter Tryd.func21, Tryd.ntmps21
      go_wp2_with fail
      refine (within_is _ _ _ true (by decide) _).mono ?_
      rintro e u ⟨rfl, hu⟩
      have hu' := hu.symm
      subst hu'
      go_wp2
      go_quiet (fail)
      go_wp2
      go_ret
      exact ⟨ret_int HF2.out.symm, wdrew ((Below.refl _ _).alloc (Nat.le_refl _) _) nq⟩
  exact absurd hk (by omega)
end Go.Proofs.YtfdkeodfkapncaaDoor
