/-
  What the small functions of package token do (digits, letters, spans): the walks.
  What token.span does, whatever function it is handed: the walk.
  What token's wordLength, isWord, unit do: the walks.
  What token.unit does: the walk.
  Plain facts on tokens that the keeping laws lean on. No program is named here.
  What token.readNumber does: the walk. Its closure counts in a variable that it has captured.
  What token.readString does: the walk. Its closure gathers bytes in a row of the call's own, and keeps in mind whether a backslash is ahead.
-/
import Derived.Test.YtepfniiojjefhaaGreatDoorRows
import Derived.Test.YtepfniiojjefhaaGreatDoorQPure6
import Derived.Test.YtepfniiojjefhaaGreatDoorQBoxKp6
import Derived.WalkKit
import Derived.WalkSpells
import Derived.WalkLawsBesides
import Derived.Shelf.Abstract
import Derived.Laws.IdiomStrings
import Derived.Test.YtepfniiojjefhaaGreatDoorQScrMemX2
import Derived.Test.YtepfniiojjefhaaGreatDoorTokMem
import Derived.Test.YtepfniiojjefhaaGreatDoorQScrCard9
namespace Go.Proofs.YtepfniiojjefhaaGreatDoor
open Go.RowKit Go.Proofs

theorem digitC_yes {c : UInt8} (h1 : 48 ≤ c.toNat) (h2 : c.toNat ≤ 57) : digitC c = true := by unfold digitC; simp [h1, h2]
theorem digitC_no {c : UInt8} (h : ¬ (48 ≤ c.toNat ∧ c.toNat ≤ 57)) : digitC c = false := by
  unfold digitC
  rw [Bool.and_eq_false_iff, decide_eq_false_iff_not, decide_eq_false_iff_not]
  omega

set_option maxHeartbeats 1000000 in
theorem isDigit_any (c : UInt8) (w : World) :
    Calls Tryz.prog 115 #[.int .u8 c.toNat] w fun e w' => e = .returned (.bool (digitC c)) ∧ w' = w := by
  have hu := c.toNat_lt
  by_cases h1 : 48 ≤ c.toNat
  · by_cases h2 : c.toNat ≤ 57
    · have HA : Hid _ := digitC_yes h1 h2
      have b1 : (48 : Int) ≤ (c.toNat : Int) := by omega
      have b2 : (c.toNat : Int) ≤ 57 := by omega
      clear h1 h2
      go_enter Tryz.func115, Tryz.ntmps115
      go_wp2
      go_ret
      exact ⟨ret_bool HA.out.symm, rfl⟩
    · have HA : Hid (digitC c = false) := digitC_no (by omega)
      have b1 : (48 : Int) ≤ (c.toNat : Int) := by omega
      have b2 : ¬ (c.toNat : Int) ≤ 57 := by omega
      clear h1 h2
      go_enter Tryz.func115, Tryz.ntmps115
      go_wp2
      go_ret
      exact ⟨ret_bool HA.out.symm, rfl⟩
  · have HA : Hid (digitC c = false) := digitC_no (by omega)
    have b1 : ¬ (48 : Int) ≤ (c.toNat : Int) := by omega
    clear h1
    go_enter Tryz.func115, Tryz.ntmps115
    go_wp2
    go_ret
    exact ⟨ret_bool HA.out.symm, rfl⟩

theorem wordy_low {c : UInt8} (h1 : 97 ≤ c.toNat) (h2 : c.toNat ≤ 122) : wordyC c = true := by unfold wordyC letterC; simp [h1, h2]
theorem wordy_up {c : UInt8} (h1 : 65 ≤ c.toNat) (h2 : c.toNat ≤ 90) : wordyC c = true := by unfold wordyC letterC; simp [h1, h2]
theorem wordy_else {c : UInt8} (h1 : ¬ (97 ≤ c.toNat ∧ c.toNat ≤ 122)) (h2 : ¬ (65 ≤ c.toNat ∧ c.toNat ≤ 90)) (h3 : digitC c = false) : wordyC c = decide ((c.toNat : Int) = 95) := by
  unfold wordyC letterC
  rw [h3]
  have e1 : (decide (97 ≤ c.toNat) && decide (c.toNat ≤ 122)) = false := by rw [Bool.and_eq_false_iff, decide_eq_false_iff_not, decide_eq_false_iff_not]; omega
  have e2 : (decide (65 ≤ c.toNat) && decide (c.toNat ≤ 90)) = false := by rw [Bool.and_eq_false_iff, decide_eq_false_iff_not, decide_eq_false_iff_not]; omega
  rw [e1, e2]
  simp only [Bool.false_or, Bool.or_false]
  by_cases h : c = 95
  · subst h; rfl
  · have : ¬ (c.toNat : Int) = 95 := fun e => h (UInt8.toNat_inj.1 (by show c.toNat = 95; omega))
    simp [h, this]

set_option maxHeartbeats 2000000 in
theorem inWord_any (c : UInt8) (w : World) :
    Calls Tryz.prog 156 #[.int .u8 c.toNat] w fun e w' => e = .returned (.bool (wordyC c)) ∧ w' = w := by
  have hu := c.toNat_lt
  by_cases h1 : 97 ≤ c.toNat ∧ c.toNat ≤ 122
  · have HA : Hid _ := wordy_low h1.1 h1.2
    have b1 : (97 : Int) ≤ (c.toNat : Int) := by omega
    have b2 : (c.toNat : Int) ≤ 122 := by omega
    clear h1
    go_enter Tryz.func156, Tryz.ntmps156
    go_wp2
    go_ret
    exact ⟨ret_bool HA.out.symm, rfl⟩
  by_cases h2 : 65 ≤ c.toNat ∧ c.toNat ≤ 90
  · have HA : Hid _ := wordy_up h2.1 h2.2
    have b0 : ¬ (97 : Int) ≤ (c.toNat : Int) := by omega
    have b1 : (65 : Int) ≤ (c.toNat : Int) := by omega
    have b2 : (c.toNat : Int) ≤ 90 := by omega
    clear h1 h2
    go_enter Tryz.func156, Tryz.ntmps156
    go_wp2
    go_ret
    exact ⟨ret_bool HA.out.symm, rfl⟩
  cases h3 : digitC c with
  | true =>
    have HA : Hid (wordyC c = true) := by unfold Hid wordyC; rw [h3]; simp
    have HD : Hid _ := h3
    have h3' : 48 ≤ c.toNat ∧ c.toNat ≤ 57 := by unfold digitC at h3; simpa using h3
    have b0 : ¬ (97 : Int) ≤ (c.toNat : Int) := by omega
    have b1 : ¬ (65 : Int) ≤ (c.toNat : Int) := by omega
    clear h1 h2 h3 h3'
    go_enter Tryz.func156, Tryz.ntmps156
    go_wp2_with fail
    refine (isDigit_any c _).mono ?_
    rintro e u ⟨rfl, hu⟩
    have hu' := hu.symm
    subst hu'
    rw [HD.out]
    go_wp2
    go_ret
    exact ⟨ret_bool HA.out.symm, rfl⟩
  | false =>
    have HA : Hid _ := wordy_else h1 h2 h3
    have HD : Hid _ := h3
    clear h3
    by_cases g1 : 97 ≤ c.toNat
    · have b0 : (97 : Int) ≤ (c.toNat : Int) := by omega
      have b0' : ¬ (c.toNat : Int) ≤ 122 := by omega
      have b1 : (65 : Int) ≤ (c.toNat : Int) := by omega
      have b1' : ¬ (c.toNat : Int) ≤ 90 := by omega
      clear h1 h2 g1
      go_enter Tryz.func156, Tryz.ntmps156
      go_wp2_with fail
      refine (isDigit_any c _).mono ?_
      rintro e u ⟨rfl, hu⟩
      have hu' := hu.symm
      subst hu'
      rw [HD.out]
      go_wp2
      go_ret
      exact ⟨ret_bool (by rw [HA.out]; first | rfl | simp), rfl⟩
    · by_cases g2 : 65 ≤ c.toNat
      · have b0 : ¬ (97 : Int) ≤ (c.toNat : Int) := by omega
        have b1 : (65 : Int) ≤ (c.toNat : Int) := by omega
        have b1' : ¬ (c.toNat : Int) ≤ 90 := by omega
        clear h1 h2 g1 g2
        go_enter Tryz.func156, Tryz.ntmps156
        go_wp2_with fail
        refine (isDigit_any c _).mono ?_
        rintro e u ⟨rfl, hu⟩
        have hu' := hu.symm
        subst hu'
        rw [HD.out]
        go_wp2
        go_ret
        exact ⟨ret_bool (by rw [HA.out]; first | rfl | simp), rfl⟩
      · have b0 : ¬ (97 : Int) ≤ (c.toNat : Int) := by omega
        have b1 : ¬ (65 : Int) ≤ (c.toNat : Int) := by omega
        clear h1 h2 g1 g2
        go_enter Tryz.func156, Tryz.ntmps156
        go_wp2_with fail
        refine (isDigit_any c _).mono ?_
        rintro e u ⟨rfl, hu⟩
        have hu' := hu.symm
        subst hu'
        rw [HD.out]
        go_wp2
        go_ret
        exact ⟨ret_bool (by rw [HA.out]; first | rfl | simp), rfl⟩
end Go.Proofs.YtepfniiojjefhaaGreatDoor
namespace Go.Proofs.YtepfniiojjefhaaGreatDoor
open Go.RowKit Go.Proofs Go.Lib

set_option maxHeartbeats 2000000 in
theorem span_any (s : ByteArray) (f : Nat) (cap : Array Value) (eg : ∀ args w, (callFunc f args).run Tryz.prog w = .ok (.enter f args) w) (n : Nat) (J : Nat → World → Prop) (w : World) (hs : s.size ≤ maxLen) (hn : n ≤ s.size)
    (hyes : ∀ (k : Nat) (h : k < s.size) (u : World), k < n → J k u → Calls Tryz.prog f (#[.int .u8 s[k].toNat] ++ cap) u fun e u' => e = .returned (.bool true) ∧ J (k + 1) u')
    (hno : ∀ (h : n < s.size) (u : World), J n u → Calls Tryz.prog f (#[.int .u8 s[n].toNat] ++ cap) u fun e u' => e = .returned (.bool false) ∧ J n u')
    (h0 : J 0 w) :
    Calls Tryz.prog 109 #[.string s, .func (.func f) #[] cap] w fun e w' => e = .returned (.int .i64 n) ∧ J n w' := by
  unfold maxLen at hs
  have HY : Hid _ := hyes
  have HO : Hid _ := hno
  have H0 : Hid _ := h0
  clear hyes hno h0
  go_enter Tryz.func109, Tryz.ntmps109
  go_wp2
  go_loopw [5] (fun i wr => ∃ k : Nat, k ≤ n ∧ i = .int .i64 k ∧ Hid (J k wr)) (fun i _ => s.size - (intOf i).toNat)
  case atStart => exact ⟨0, Nat.zero_le _, rfl, H0⟩
  case round =>
    obtain ⟨k, hk, rfl, HJ⟩ := hrel
    by_cases hlt : k < n
    · have hks : k < s.size := by omega
      go_wp2_with (go_at_fn f; refine Calls.mono (HY.out k hks wr hlt HJ.out) ?_; rintro e u ⟨rfl, hj⟩)
      go_roundw
      case rel => exact ⟨k + 1, by omega, by go_num, hj⟩
      case measure => simp [intOf]; omega
    · have hkn : k = n := by omega
      subst hkn
      by_cases hks : k < s.size
      · go_wp2_with (go_at_fn f; refine Calls.mono (HO.out hks wr HJ.out) ?_; rintro e u ⟨rfl, hj⟩)
        go_ret
        exact ⟨rfl, hj⟩
      · go_wp2
        go_ret
        exact ⟨rfl, HJ.out⟩

theorem takeW_yes {p : UInt8 → Bool} : ∀ {l : List UInt8} {k : Nat} (h : k < l.length), k < (l.takeWhile p).length → p l[k] = true := by
  intro l
  induction l with
  | nil => intro k h; simp at h
  | cons c t ih =>
    intro k h hk
    rw [List.takeWhile_cons] at hk
    cases e : p c with
    | false => rw [e] at hk; simp at hk
    | true =>
      rw [e] at hk
      cases k with
      | zero => exact e
      | succ k => simp at hk; exact ih (by simpa using h) hk
theorem takeW_no {p : UInt8 → Bool} : ∀ {l : List UInt8} (h : (l.takeWhile p).length < l.length), p (l[(l.takeWhile p).length]'h) = false := by
  intro l
  induction l with
  | nil => intro h; simp at h
  | cons c t ih =>
    intro h
    cases e : p c with
    | false =>
      have : (c :: t).takeWhile p = [] := by rw [List.takeWhile_cons, e]; rfl
      simp only [this, List.length_nil, List.getElem_cons_zero]; exact e
    | true =>
      have : (c :: t).takeWhile p = c :: t.takeWhile p := by rw [List.takeWhile_cons, e]; rfl
      simp only [this, List.length_cons] at h ⊢
      simp only [List.getElem_cons_succ]
      exact ih (by omega)
theorem list_at (s : ByteArray) (k : Nat) (h : k < s.size) : s[k] = s.data.toList[k]'(by rw [size_list]; exact h) := rfl

theorem span_pure (s : ByteArray) (f : Nat) (eg : ∀ args w, (callFunc f args).run Tryz.prog w = .ok (.enter f args) w) (p : UInt8 → Bool) (w : World) (hs : s.size ≤ maxLen)
    (hf : ∀ (c : UInt8) (u : World), Calls Tryz.prog f #[.int .u8 c.toNat] u fun e u' => e = .returned (.bool (p c)) ∧ u' = u) :
    Calls Tryz.prog 109 #[.string s, .func (.func f) #[] #[]] w fun e w' => e = .returned (.int .i64 ((s.data.toList.takeWhile p).length : Nat)) ∧ w' = w := by
  have hle : (s.data.toList.takeWhile p).length ≤ s.size := by rw [← size_list]; exact (List.takeWhile_prefix p).length_le
  refine span_any s f #[] eg _ (fun _ u => u = w) w hs hle ?_ ?_ rfl
  · intro k h u hk hu
    subst hu
    refine (hf s[k] u).mono ?_
    rintro e u' ⟨rfl, rfl⟩
    rw [list_at s k h, takeW_yes _ hk]
    exact ⟨rfl, rfl⟩
  · intro h u hu
    subst hu
    refine (hf s[(s.data.toList.takeWhile p).length] u).mono ?_
    rintro e u' ⟨rfl, rfl⟩
    rw [list_at s _ h, takeW_no (p := p) (l := s.data.toList)]
    exact ⟨rfl, rfl⟩
end Go.Proofs.YtepfniiojjefhaaGreatDoor
namespace Go.Proofs.YtepfniiojjefhaaGreatDoor
open Go.RowKit Go.Proofs

theorem entersWord : ∀ args w, (callFunc 156 args).run Tryz.prog w = .ok (.enter 156 args) w := enters_of Tryz.func156 (by kernel_rfl) rfl

set_option maxHeartbeats 2000000 in
theorem wordLength_any (s : List UInt8) (w : World) (hs : s.length ≤ maxLen) :
    Calls Tryz.prog 114 #[.string (S s)] w fun e w' => e = .returned (.int .i64 (wlen s : Nat)) ∧ w' = w := by
  cases s with
  | nil =>
    have he := S_none
    go_enter Tryz.func114, Tryz.ntmps114
    go_wp2
    go_ret
    exact ⟨rfl, rfl⟩
  | cons c t =>
    have he := S_some c t
    have hz := S_pos c t
    have HZ : Hid ((S (c :: t)).size ≤ maxLen) := by unfold Hid; rw [size_S]; exact hs
    clear hs
    cases hd : digitC c with
    | true =>
      have HD : Hid _ := hd
      have HL : Hid (wlen (c :: t) = 0) := by show (if digitC c then 0 else _) = 0; rw [hd]; rfl
      clear hd
      go_enter Tryz.func114, Tryz.ntmps114
      go_wp2_with fail
      refine (isDigit_any c _).mono ?_
      rintro e u ⟨rfl, hu⟩
      have hu' := hu.symm
      subst hu'
      rw [HD.out]
      go_wp2
      go_ret
      exact ⟨ret_int (by rw [HL.out]; rfl), rfl⟩
    | false =>
      have HD : Hid _ := hd
      have HL : Hid (wlen (c :: t) = ((S (c :: t)).data.toList.takeWhile wordyC).length) := by
        unfold Hid; rw [list_S]; show (if digitC c then 0 else _) = _; rw [hd]; rfl
      clear hd
      go_enter Tryz.func114, Tryz.ntmps114
      go_wp2_with fail
      refine (isDigit_any c _).mono ?_
      rintro e u ⟨rfl, hu⟩
      have hu' := hu.symm
      subst hu'
      rw [HD.out]
      go_wp2_with fail
      refine (span_pure (S (c :: t)) 156 entersWord wordyC _ HZ.out (fun c u => inWord_any c u)).mono ?_
      rintro e u ⟨rfl, hu⟩
      have hu' := hu.symm
      subst hu'
      rw [← HL.out]
      go_wp2
      go_ret
      exact ⟨rfl, rfl⟩

set_option maxHeartbeats 2000000 in
theorem isWord_any (s : List UInt8) (w : World) (hs : s.length ≤ maxLen) :
    Calls Tryz.prog 121 #[.string (S s)] w fun e w' => e = .returned (.bool (wordB s)) ∧ w' = w := by
  cases s with
  | nil =>
    have he := S_none
    go_enter Tryz.func121, Tryz.ntmps121
    go_wp2
    go_ret
    exact ⟨rfl, rfl⟩
  | cons c t =>
    have he := S_some c t
    have hz := S_pos c t
    have HB : Hid (wordB (c :: t) = decide ((wlen (c :: t) : Int) = ((S (c :: t)).size : Int))) := by
      unfold Hid
      rw [size_S]
      have := wlen_all (c :: t)
      cases h : wordB (c :: t) with
      | true => rw [h] at this; simp only [iff_true] at this; rw [this.2]; simp
      | false =>
        rw [h] at this
        simp only [Bool.false_eq_true, iff_false, ne_eq, reduceCtorEq, not_false_eq_true, true_and] at this
        rw [eq_comm, decide_eq_false_iff_not]; omega
    have HS : Hid _ := hs
    clear hs
    go_enter Tryz.func121, Tryz.ntmps121
    go_wp2_with fail
    refine (wordLength_any (c :: t) _ HS.out).mono ?_
    rintro e u ⟨rfl, hu⟩
    have hu' := hu.symm
    subst hu'
    go_wp2
    go_ret
    exact ⟨ret_bool (by rw [HB.out]; first | rfl | simp), rfl⟩

/-- The first byte, as the walk shows a switch on it. -/
theorem headS_yes {c : UInt8} {t : List UInt8} {n : Nat} (hn : n < 256) (hz : 0 < (S (c :: t)).size) (h : c = UInt8.ofNat n) : ((((S (c :: t))[0]'hz).toNat : Int) == (n : Int)) = true := by
  rw [S_head, h, UInt8.toNat_ofNat_of_lt' hn, beq_self_eq_true]
theorem headS_no {c : UInt8} {t : List UInt8} {n : Nat} (hn : n < 256) (hz : 0 < (S (c :: t)).size) (h : ¬ c = UInt8.ofNat n) : ((((S (c :: t))[0]'hz).toNat : Int) == (n : Int)) = false := by
  rw [S_head, beq_eq_false_iff_ne]
  intro e
  refine h (UInt8.toNat_inj.1 ?_)
  rw [UInt8.toNat_ofNat_of_lt' hn]; omega
end Go.Proofs.YtepfniiojjefhaaGreatDoor
namespace Go.Proofs.YtepfniiojjefhaaGreatDoor
open Go.RowKit Go.Proofs

set_option maxHeartbeats 2000000 in
theorem unit_any (s : List UInt8) (w : World) :
    Calls Tryz.prog 158 #[.string (S s)] w fun e w' => e = .returned (.int .i64 ((timesM s).1 : Nat)) ∧ w' = w := by
  cases s with
  | nil =>
    have he := S_none
    go_enter Tryz.func158, Tryz.ntmps158
    go_wp2
    go_ret
    exact ⟨rfl, rfl⟩
  | cons c t =>
    have he := S_some c t
    have hz := S_pos c t
    have e0 : timesM (c :: t) = if c = 75 ∨ c = 107 then (1024, t) else if c = 77 ∨ c = 109 then (1048576, t) else (1, c :: t) := rfl
    by_cases h1 : c = 75
    · have HT : Hid ((timesM (c :: t)).1 = 1024) := by unfold Hid; rw [e0, if_pos (Or.inl h1)]
      have q1 := headS_yes (n := 75) (by decide) hz h1
      clear e0 h1
      go_enter Tryz.func158, Tryz.ntmps158
      go_wp2
      go_ret
      exact ⟨ret_int (by rw [HT.out]; rfl), rfl⟩
    have q1 := headS_no (n := 75) (by decide) hz h1
    by_cases h2 : c = 107
    · have HT : Hid ((timesM (c :: t)).1 = 1024) := by unfold Hid; rw [e0, if_pos (Or.inr h2)]
      have q2 := headS_yes (n := 107) (by decide) hz h2
      clear e0 h1 h2
      go_enter Tryz.func158, Tryz.ntmps158
      go_wp2
      go_ret
      exact ⟨ret_int (by rw [HT.out]; rfl), rfl⟩
    have q2 := headS_no (n := 107) (by decide) hz h2
    have e1 : timesM (c :: t) = if c = 77 ∨ c = 109 then (1048576, t) else (1, c :: t) := by rw [e0, if_neg (fun h => h.elim h1 h2)]
    clear e0
    by_cases h3 : c = 77
    · have HT : Hid ((timesM (c :: t)).1 = 1048576) := by unfold Hid; rw [e1, if_pos (Or.inl h3)]
      have q3 := headS_yes (n := 77) (by decide) hz h3
      clear e1 h1 h2 h3
      go_enter Tryz.func158, Tryz.ntmps158
      go_wp2
      go_ret
      exact ⟨ret_int (by rw [HT.out]; rfl), rfl⟩
    have q3 := headS_no (n := 77) (by decide) hz h3
    by_cases h4 : c = 109
    · have HT : Hid ((timesM (c :: t)).1 = 1048576) := by unfold Hid; rw [e1, if_pos (Or.inr h4)]
      have q4 := headS_yes (n := 109) (by decide) hz h4
      clear e1 h1 h2 h3 h4
      go_enter Tryz.func158, Tryz.ntmps158
      go_wp2
      go_ret
      exact ⟨ret_int (by rw [HT.out]; rfl), rfl⟩
    have q4 := headS_no (n := 109) (by decide) hz h4
    have HT : Hid ((timesM (c :: t)).1 = 1) := by unfold Hid; rw [e1, if_neg (fun h => h.elim h3 h4)]
    clear e1 h1 h2 h3 h4
    go_enter Tryz.func158, Tryz.ntmps158
    go_wp2
    go_ret
    exact ⟨ret_int (by rw [HT.out]; rfl), rfl⟩
end Go.Proofs.YtepfniiojjefhaaGreatDoor
namespace Go.Proofs.YtepfniiojjefhaaGreatDoor
open Go.RowKit

/- Numbers. -/
theorem decV_snoc (l : List UInt8) (c : UInt8) : decV (l ++ [c]) = 10 * decV l + (c.toNat - 48) := by simp [decV]
/- Quotes. -/
/-- What says nothing, whatever is behind it. -/
def Sil (b : List UInt8) : Prop := ∀ r, silM (b ++ r) = silM r
def between (b : List UInt8) : Prop := Sil b ∧ ∃ c u, b = c :: u ∧ wordyC c = false
/- Join. -/
end Go.Proofs.YtepfniiojjefhaaGreatDoor
namespace Go.Proofs.YtepfniiojjefhaaGreatDoor
open Go.RowKit Go.Proofs

/-- The number of digits, up to just above the bound. -/
def numC (l : List UInt8) : Nat := min (decV l) 2147483648
theorem numC_snoc (l : List UInt8) (c : UInt8) : numC (l ++ [c]) = min (numC l * 10 + (c.toNat - 48)) 2147483648 := by unfold numC; rw [decV_snoc]; omega
theorem numC_le (l : List UInt8) : numC l ≤ 2147483648 := by unfold numC; omega

set_option maxHeartbeats 2000000 in
theorem numStep_yes (b : Nat) (c : UInt8) (v : Nat) (w : World) (hb : Box w b (.int .i64 v) 3) (hv : v ≤ 2147483648) (hc : digitC c = true) :
    Calls Tryz.prog 157 #[.int .u8 c.toNat, .pointer (some ⟨b, 0, none⟩)] w fun e w' => e = .returned (.bool true) ∧ Box w' b (.int .i64 (min (v * 10 + (c.toNat - 48)) 2147483648 : Nat)) 3 ∧ But b w w' := by
  have h1 := hb.cell
  have h2 := hb.free
  have HC : Hid _ := hc
  have hc' : 48 ≤ c.toNat ∧ c.toNat ≤ 57 := by unfold digitC at hc; simpa using hc
  obtain ⟨c1, c2⟩ := hc'
  have c3 : (48 : Int) ≤ (c.toNat : Int) := by omega
  have c4 : (c.toNat : Int) ≤ 57 := by omega
  have HB : Hid _ := hb
  clear hc hb
  go_enter Tryz.func157, Tryz.ntmps157
  go_wp2_with fail
  refine (isDigit_any c _).mono ?_
  rintro e u ⟨rfl, hu⟩
  have hu' := hu.symm
  subst hu'
  rw [HC.out]
  go_wp2
  · go_ret
    refine ⟨rfl, ?_, But.set _ _⟩
    have e : ((min (v * 10 + (c.toNat - 48)) 2147483648 : Nat) : Int) = 2147483648 := by omega
    rw [e]
    exact Box.set HB.out _
  · go_ret
    refine ⟨rfl, ?_, But.set _ _⟩
    have e : ((min (v * 10 + (c.toNat - 48)) 2147483648 : Nat) : Int) = (v : Int) * 10 + ((c.toNat : Int) - 48) := by omega
    rw [e]
    exact Box.set HB.out _

set_option maxHeartbeats 2000000 in
theorem numStep_no (b : Nat) (c : UInt8) (w : World) (hc : digitC c = false) :
    Calls Tryz.prog 157 #[.int .u8 c.toNat, .pointer (some ⟨b, 0, none⟩)] w fun e w' => e = .returned (.bool false) ∧ w' = w := by
  have HC : Hid _ := hc
  clear hc
  go_enter Tryz.func157, Tryz.ntmps157
  go_wp2_with fail
  refine (isDigit_any c _).mono ?_
  rintro e u ⟨rfl, hu⟩
  have hu' := hu.symm
  subst hu'
  rw [HC.out]
  go_wp2
  go_ret
  exact ⟨rfl, rfl⟩
theorem entersNum : ∀ args w, (callFunc 157 args).run Tryz.prog w = .ok (.enter 157 args) w := enters_of Tryz.func157 (by kernel_rfl) rfl

theorem span_num (s : List UInt8) (b : Nat) (w : World) (hs : s.length ≤ maxLen) (hb : Box w b (.int .i64 0) 3) :
    Calls Tryz.prog 109 #[.string (S s), .func (.func 157) #[] #[.pointer (some ⟨b, 0, none⟩)]] w fun e w' => e = .returned (.int .i64 ((s.takeWhile digitC).length : Nat)) ∧ Box w' b (.int .i64 (numC (s.takeWhile digitC) : Nat)) 3 ∧ But b w w' := by
  have hle : (s.takeWhile digitC).length ≤ (S s).size := by rw [size_S]; exact (List.takeWhile_prefix digitC).length_le
  have htk : s.take (s.takeWhile digitC).length = s.takeWhile digitC := by
    have := List.takeWhile_append_dropWhile (p := digitC) (l := s)
    conv => lhs; arg 2; rw [← this]
    rw [List.take_left]
  refine (span_any (S s) 157 _ entersNum (s.takeWhile digitC).length (fun k u => Box u b (.int .i64 (numC (s.take k) : Nat)) 3 ∧ But b w u) w (by rw [size_S]; exact hs) hle ?_ ?_ ⟨hb, But.refl _ _⟩).mono ?_
  · intro k h u hk ⟨hB, hU⟩
    have hk' : k < s.length := by rw [size_S] at h; exact h
    have hg : (S s)[k] = s[k] := S_get s k h hk'
    have hd : digitC (S s)[k] = true := by rw [hg]; exact takeW_yes hk' hk
    have e1 : s.take (k + 1) = s.take k ++ [(S s)[k]] := by rw [hg]; exact List.take_succ_eq_append_getElem hk'
    refine (numStep_yes b (S s)[k] (numC (s.take k)) u hB (numC_le _) hd).mono ?_
    rintro e u' ⟨rfl, h1, h2⟩
    refine ⟨rfl, ?_, hU.trans h2⟩
    show Box u' b (.int .i64 (numC (s.take (k + 1)) : Nat)) _
    rw [e1, numC_snoc]
    exact h1
  · intro h u ⟨hB, hU⟩
    have hk' : (s.takeWhile digitC).length < s.length := by rw [size_S] at h; exact h
    have hg : (S s)[(s.takeWhile digitC).length] = s[(s.takeWhile digitC).length] := S_get s _ h hk'
    refine (numStep_no b (S s)[(s.takeWhile digitC).length] u (by rw [hg]; exact takeW_no hk')).mono ?_
    rintro e u' ⟨rfl, rfl⟩
    exact ⟨rfl, hB, hU⟩
  · rintro e u ⟨rfl, h1, h2⟩
    exact ⟨rfl, by rw [← htk]; simpa [htk] using h1, h2⟩

theorem times_cases (r : List UInt8) : (timesM r = (1, r)) ∨ ∃ c t m, r = c :: t ∧ timesM r = (m, t) ∧ (m = 1024 ∨ m = 1048576) := by
  cases r with
  | nil => exact Or.inl rfl
  | cons c t =>
    have e0 : timesM (c :: t) = if c = 75 ∨ c = 107 then (1024, t) else if c = 77 ∨ c = 109 then (1048576, t) else (1, c :: t) := rfl
    rw [e0]
    split
    · exact Or.inr ⟨c, t, 1024, rfl, rfl, Or.inl rfl⟩
    · split
      · exact Or.inr ⟨c, t, 1048576, rfl, rfl, Or.inr rfl⟩
      · exact Or.inl rfl
set_option maxRecDepth 100000 in
/-- What numM comes to, by the capped count. -/
theorem numM_by {s r2 : List UInt8} {m : Nat} (ht : timesM (s.dropWhile digitC) = (m, r2)) (hm : m = 1 ∨ m = 1024 ∨ m = 1048576) :
    numM s = if headW r2 then .error 3 else if 2147483647 < numC (s.takeWhile digitC) * m then .error 6 else .ok ({ kind := 3, text := [], num := (numC (s.takeWhile digitC) * m : Nat) }, r2) := by
  unfold numM
  rw [ht]
  simp only
  split
  · rfl
  · have hc : numC (s.takeWhile digitC) = min (decV (s.takeWhile digitC)) 2147483648 := rfl
    rw [hc]
    generalize decV (s.takeWhile digitC) = x
    have hm1 : 1 ≤ m := by rcases hm with rfl | rfl | rfl <;> decide
    by_cases hx : x ≤ 2147483648
    · rw [Nat.min_eq_left hx]
    · have h1 : 2147483647 < x * m := Nat.lt_of_lt_of_le (show 2147483647 < x by omega) (Nat.le_mul_of_pos_right x hm1)
      have h2 : 2147483647 < 2147483648 * m := Nat.lt_of_lt_of_le (show 2147483647 < 2147483648 by omega) (Nat.le_mul_of_pos_right _ hm1)
      rw [Nat.min_eq_right (by omega), if_pos h1, if_pos h2]
theorem drop_takeW (p : UInt8 → Bool) (s : List UInt8) : s.drop (s.takeWhile p).length = s.dropWhile p := by
  have := List.takeWhile_append_dropWhile (p := p) (l := s)
  conv => lhs; arg 2; rw [← this]
  rw [List.drop_left]
theorem headW_at {s r2 : List UInt8} {n : Nat} (hn : s.drop n = r2) (c : UInt8) (t : List UInt8) (h2 : r2 = c :: t) (h : n < (S s).size) : (S s)[n] = c := by
  rw [size_S] at h
  have := S_get s n (by rw [size_S]; exact h) h
  rw [this]
  rw [h2, List.drop_eq_getElem_cons h] at hn
  exact (List.cons.inj hn).1

set_option maxHeartbeats 8000000 in
set_option maxRecDepth 100000 in
theorem readNumber_1 (s r2 : List UInt8) (w : World) (hs : s.length ≤ 2000) (ht : timesM (s.dropWhile digitC) = (1, r2)) (hl : s.length = (s.takeWhile digitC).length + 0 + r2.length) (hr2 : s.drop ((s.takeWhile digitC).length + 0) = r2) :
    Calls Tryz.prog 117 #[.string (S s)] w (Tk w s (numM s)) := by
  have HN : Hid _ := numM_by ht (by simp)
  obtain ⟨d, hd⟩ : ∃ d, d = s.takeWhile digitC := ⟨_, rfl⟩
  rw [← hd] at hl hr2
  have hsz : (S s).size = d.length + 0 + r2.length := by rw [size_S]; exact hl
  have HZ : Hid (s.length ≤ maxLen) := by unfold Hid maxLen; omega
  have HX : Hid ((S s).extract d.length (S s).size = S (s.dropWhile digitC)) := by unfold Hid; rw [S_drop, hd, drop_takeW]
  have HU : Hid ((timesM (s.dropWhile digitC)).1 = 1) := by unfold Hid; rw [ht]
  have hs2 : (S s).size ≤ 2000 := by rw [size_S]; exact hs
  have HSZ : Hid _ := hsz
  have HD : Hid _ := hd
  have HR : Hid _ := hr2
  have HL : Hid _ := hl
  obtain ⟨v, hv⟩ : ∃ v, v = numC d := ⟨_, rfl⟩
  have hvb : v ≤ 2147483648 := by rw [hv]; exact numC_le d
  have HV : Hid _ := hv
  have i1 : (0 : Int) ≤ (d.length : Int) := by omega
  have i2 : (d.length : Int) ≤ ((S s).size : Int) := by omega
  have hdl : d.length ≤ 2000 := by rw [size_S] at hsz; omega
  obtain ⟨W0, hW0⟩ : ∃ W0, W0 = (w.alloc (.cells #[.int .i64 0, .string ⟨#[]⟩, .int .i64 0] 149)).alloc (.cells #[.int .i64 0] 3) := ⟨_, rfl⟩
  have HT0 : Hid (TokB W0 w.heap.size zeroT) := by unfold Hid; rw [hW0]; exact (tokB_new w zeroT).next ((Below.refl _ _).alloc (Nat.le_refl _) _)
  have HB0 : Hid (Box W0 (w.heap.size + 1) (.int .i64 0) 3) := by unfold Hid; rw [hW0]; have := Box.new (w.alloc (.cells #[.int .i64 0, .string ⟨#[]⟩, .int .i64 0] 149)) (.int .i64 0) 3; simpa using this
  have HE0 : Hid (Below w.heap.size w W0) := by unfold Hid; rw [hW0]; exact ((Below.refl _ _).alloc (Nat.le_refl _) _).alloc (by simp) _
  have HW : Hid _ := hW0
  clear hW0 hd hv hr2 hl ht hs hsz
  go_enter Tryz.func117, Tryz.ntmps117
  go_wp2_with fail
  rw [← HW.out]
  refine (span_num s (w.heap.size + 1) _ HZ.out HB0.out).mono ?_
  rintro e u ⟨rfl, h1, h2⟩
  rw [← HD.out, ← HV.out] at h1
  rw [← HD.out]
  have hT : TokB u w.heap.size zeroT := HT0.out.but h2 (by omega)
  have HE : Hid (Below w.heap.size w u) := HE0.out.trans (h2.below (by omega) HE0.out.size)
  have hc := h1.cell
  have hf := h1.free
  have f0 := hT.free 0
  have f1 := hT.free 1
  have f2 := hT.free 2
  have k0 : u.cell? ⟨w.heap.size, 0, none⟩ = some (.int .i64 0) := hT.c0
  have k1 : u.cell? ⟨w.heap.size, 1, none⟩ = some (.string ⟨#[]⟩) := hT.c1
  have k2 : u.cell? ⟨w.heap.size, 2, none⟩ = some (.int .i64 0) := hT.c2
  clear h1 h2 hT
  go_wp2_with fail
  rw [HX.out]
  refine (unit_any (s.dropWhile digitC) _).mono ?_
  rintro e u' ⟨rfl, hu⟩
  have hu' := hu.symm
  subst hu'
  rw [HU.out]
  cases r2 with
  | nil =>
    have HQ : Hid (headW [] = false) := rfl
    have hnl : ¬ ((d.length : Nat) : Int) < ((S s).size : Int) := by rw [HSZ.out]; simp
    by_cases hb : 2147483647 < v * 1
    · have HM : Hid (numM s = .error 6) := by unfold Hid; rw [HN.out, HQ.out, ← HD.out, ← HV.out, if_neg (by simp), if_pos hb]
      have hbi : (2147483647 : Int) < (v : Int) := by omega
      clear hb
      go_wp2
      exact bodyPost_ret (v := .tuple #[.agg #[.int .i64 0, .string ⟨#[]⟩, .int .i64 0], .int .i64 0, .int .i64 6]) (by simp [results, Tryz.results117, go_sem, k0, k1, k2]) rfl (by rw [HM.out]; exact ⟨rfl, by first | exact HE.out | (repeat (first | exact HE.out | refine Below.setCell ?_ (by simp) _))⟩)
    · have HM : Hid (numM s = .ok ({ kind := 3, text := [], num := (v * 1 : Nat) }, [])) := by unfold Hid; rw [HN.out, HQ.out, ← HD.out, ← HV.out, if_neg (by simp), if_neg hb]
      have hbi : ¬ (2147483647 : Int) < (v : Int) := by omega
      clear hb
      have HK : Hid (((s.length - ([] : List UInt8).length : Nat) : Int) = ((d.length : Nat) : Int)) := by unfold Hid; have := HL.out; omega
      go_wp2
      exact bodyPost_ret (v := .tuple #[.agg #[.int .i64 3, .string ⟨#[]⟩, .int .i64 ((v : Int))], .int .i64 ((d.length : Nat) : Int), .int .i64 0]) (by simp [results, Tryz.results117, go_sem, k0, k1, k2]) rfl (by rw [HM.out]; exact ⟨by rw [HK.out]; simp [tokV, S], by first | exact HE.out | (repeat (first | exact HE.out | refine Below.setCell ?_ (by simp) _))⟩)
  | cons c t =>
    have hlt : d.length < (S s).size := by rw [HSZ.out]; simp
    have HG : Hid ((S s)[d.length]'hlt = c) := headW_at HR.out c t rfl hlt
    cases hq : wordyC c with
    | true =>
      have HM : Hid (numM s = .error 3) := by unfold Hid; rw [HN.out, if_pos (show headW (c :: t) = true from hq)]
      have HC : Hid _ := hq
      clear hq
      go_wp2_with fail
      refine (inWord_any ((S s)[d.length]'hlt) _).mono ?_
      rintro e u' ⟨rfl, hu⟩
      have hu' := hu.symm
      subst hu'
      rw [HG.out, HC.out]
      go_wp2
      exact bodyPost_ret (v := .tuple #[.agg #[.int .i64 0, .string ⟨#[]⟩, .int .i64 0], .int .i64 0, .int .i64 3]) (by simp [results, Tryz.results117, go_sem, k0, k1, k2]) rfl (by rw [HM.out]; exact ⟨rfl, by first | exact HE.out | (repeat (first | exact HE.out | refine Below.setCell ?_ (by simp) _))⟩)
    | false =>
      have HQ : Hid (headW (c :: t) = false) := hq
      have HC : Hid _ := hq
      clear hq
      by_cases hb : 2147483647 < v * 1
      · have HM : Hid (numM s = .error 6) := by unfold Hid; rw [HN.out, HQ.out, ← HD.out, ← HV.out, if_neg (by simp), if_pos hb]
        have hbi : (2147483647 : Int) < (v : Int) := by omega
        clear hb
        go_wp2_with fail
        refine (inWord_any ((S s)[d.length]'hlt) _).mono ?_
        rintro e u' ⟨rfl, hu⟩
        have hu' := hu.symm
        subst hu'
        rw [HG.out, HC.out]
        go_wp2
        exact bodyPost_ret (v := .tuple #[.agg #[.int .i64 0, .string ⟨#[]⟩, .int .i64 0], .int .i64 0, .int .i64 6]) (by simp [results, Tryz.results117, go_sem, k0, k1, k2]) rfl (by rw [HM.out]; exact ⟨rfl, by first | exact HE.out | (repeat (first | exact HE.out | refine Below.setCell ?_ (by simp) _))⟩)
      · have HM : Hid (numM s = .ok ({ kind := 3, text := [], num := (v * 1 : Nat) }, (c :: t))) := by unfold Hid; rw [HN.out, HQ.out, ← HD.out, ← HV.out, if_neg (by simp), if_neg hb]
        have hbi : ¬ (2147483647 : Int) < (v : Int) := by omega
        clear hb
        have HK : Hid (((s.length - ((c :: t) : List UInt8).length : Nat) : Int) = ((d.length : Nat) : Int)) := by unfold Hid; have := HL.out; omega
        go_wp2_with fail
        refine (inWord_any ((S s)[d.length]'hlt) _).mono ?_
        rintro e u' ⟨rfl, hu⟩
        have hu' := hu.symm
        subst hu'
        rw [HG.out, HC.out]
        go_wp2
        exact bodyPost_ret (v := .tuple #[.agg #[.int .i64 3, .string ⟨#[]⟩, .int .i64 ((v : Int))], .int .i64 ((d.length : Nat) : Int), .int .i64 0]) (by simp [results, Tryz.results117, go_sem, k0, k1, k2]) rfl (by rw [HM.out]; exact ⟨by rw [HK.out]; simp [tokV, S], by first | exact HE.out | (repeat (first | exact HE.out | refine Below.setCell ?_ (by simp) _))⟩)

set_option maxHeartbeats 8000000 in
set_option maxRecDepth 100000 in
theorem readNumber_1024 (s r2 : List UInt8) (w : World) (hs : s.length ≤ 2000) (ht : timesM (s.dropWhile digitC) = (1024, r2)) (hl : s.length = (s.takeWhile digitC).length + 1 + r2.length) (hr2 : s.drop ((s.takeWhile digitC).length + 1) = r2) :
    Calls Tryz.prog 117 #[.string (S s)] w (Tk w s (numM s)) := by
  have HN : Hid _ := numM_by ht (by simp)
  obtain ⟨d, hd⟩ : ∃ d, d = s.takeWhile digitC := ⟨_, rfl⟩
  rw [← hd] at hl hr2
  have hsz : (S s).size = d.length + 1 + r2.length := by rw [size_S]; exact hl
  have HZ : Hid (s.length ≤ maxLen) := by unfold Hid maxLen; omega
  have HX : Hid ((S s).extract d.length (S s).size = S (s.dropWhile digitC)) := by unfold Hid; rw [S_drop, hd, drop_takeW]
  have HU : Hid ((timesM (s.dropWhile digitC)).1 = 1024) := by unfold Hid; rw [ht]
  have hs2 : (S s).size ≤ 2000 := by rw [size_S]; exact hs
  have HSZ : Hid _ := hsz
  have HD : Hid _ := hd
  have HR : Hid _ := hr2
  have HL : Hid _ := hl
  obtain ⟨v, hv⟩ : ∃ v, v = numC d := ⟨_, rfl⟩
  have hvb : v ≤ 2147483648 := by rw [hv]; exact numC_le d
  have HV : Hid _ := hv
  have i1 : (0 : Int) ≤ (d.length : Int) := by omega
  have i2 : (d.length : Int) ≤ ((S s).size : Int) := by omega
  have hdl : d.length ≤ 2000 := by rw [size_S] at hsz; omega
  obtain ⟨W0, hW0⟩ : ∃ W0, W0 = (w.alloc (.cells #[.int .i64 0, .string ⟨#[]⟩, .int .i64 0] 149)).alloc (.cells #[.int .i64 0] 3) := ⟨_, rfl⟩
  have HT0 : Hid (TokB W0 w.heap.size zeroT) := by unfold Hid; rw [hW0]; exact (tokB_new w zeroT).next ((Below.refl _ _).alloc (Nat.le_refl _) _)
  have HB0 : Hid (Box W0 (w.heap.size + 1) (.int .i64 0) 3) := by unfold Hid; rw [hW0]; have := Box.new (w.alloc (.cells #[.int .i64 0, .string ⟨#[]⟩, .int .i64 0] 149)) (.int .i64 0) 3; simpa using this
  have HE0 : Hid (Below w.heap.size w W0) := by unfold Hid; rw [hW0]; exact ((Below.refl _ _).alloc (Nat.le_refl _) _).alloc (by simp) _
  have HW : Hid _ := hW0
  clear hW0 hd hv hr2 hl ht hs hsz
  go_enter Tryz.func117, Tryz.ntmps117
  go_wp2_with fail
  rw [← HW.out]
  refine (span_num s (w.heap.size + 1) _ HZ.out HB0.out).mono ?_
  rintro e u ⟨rfl, h1, h2⟩
  rw [← HD.out, ← HV.out] at h1
  rw [← HD.out]
  have hT : TokB u w.heap.size zeroT := HT0.out.but h2 (by omega)
  have HE : Hid (Below w.heap.size w u) := HE0.out.trans (h2.below (by omega) HE0.out.size)
  have hc := h1.cell
  have hf := h1.free
  have f0 := hT.free 0
  have f1 := hT.free 1
  have f2 := hT.free 2
  have k0 : u.cell? ⟨w.heap.size, 0, none⟩ = some (.int .i64 0) := hT.c0
  have k1 : u.cell? ⟨w.heap.size, 1, none⟩ = some (.string ⟨#[]⟩) := hT.c1
  have k2 : u.cell? ⟨w.heap.size, 2, none⟩ = some (.int .i64 0) := hT.c2
  clear h1 h2 hT
  go_wp2_with fail
  rw [HX.out]
  refine (unit_any (s.dropWhile digitC) _).mono ?_
  rintro e u' ⟨rfl, hu⟩
  have hu' := hu.symm
  subst hu'
  rw [HU.out]
  cases r2 with
  | nil =>
    have HQ : Hid (headW [] = false) := rfl
    have hnl : ¬ ((d.length + 1 : Nat) : Int) < ((S s).size : Int) := by rw [HSZ.out]; simp
    by_cases hb : 2147483647 < v * 1024
    · have HM : Hid (numM s = .error 6) := by unfold Hid; rw [HN.out, HQ.out, ← HD.out, ← HV.out, if_neg (by simp), if_pos hb]
      have hbi : (2147483647 : Int) < (v : Int) * 1024 := by omega
      clear hb
      go_wp2
      exact bodyPost_ret (v := .tuple #[.agg #[.int .i64 0, .string ⟨#[]⟩, .int .i64 0], .int .i64 0, .int .i64 6]) (by simp [results, Tryz.results117, go_sem, k0, k1, k2]) rfl (by rw [HM.out]; exact ⟨rfl, by first | exact HE.out | (repeat (first | exact HE.out | refine Below.setCell ?_ (by simp) _))⟩)
    · have HM : Hid (numM s = .ok ({ kind := 3, text := [], num := (v * 1024 : Nat) }, [])) := by unfold Hid; rw [HN.out, HQ.out, ← HD.out, ← HV.out, if_neg (by simp), if_neg hb]
      have hbi : ¬ (2147483647 : Int) < (v : Int) * 1024 := by omega
      clear hb
      have HK : Hid (((s.length - ([] : List UInt8).length : Nat) : Int) = ((d.length + 1 : Nat) : Int)) := by unfold Hid; have := HL.out; omega
      go_wp2
      exact bodyPost_ret (v := .tuple #[.agg #[.int .i64 3, .string ⟨#[]⟩, .int .i64 ((v : Int) * 1024)], .int .i64 ((d.length + 1 : Nat) : Int), .int .i64 0]) (by simp [results, Tryz.results117, go_sem, k0, k1, k2]) rfl (by rw [HM.out]; exact ⟨by rw [HK.out]; simp [tokV, S], by first | exact HE.out | (repeat (first | exact HE.out | refine Below.setCell ?_ (by simp) _))⟩)
  | cons c t =>
    have hlt : d.length + 1 < (S s).size := by rw [HSZ.out]; simp
    have HG : Hid ((S s)[d.length + 1]'hlt = c) := headW_at HR.out c t rfl hlt
    cases hq : wordyC c with
    | true =>
      have HM : Hid (numM s = .error 3) := by unfold Hid; rw [HN.out, if_pos (show headW (c :: t) = true from hq)]
      have HC : Hid _ := hq
      clear hq
      go_wp2_with fail
      refine (inWord_any ((S s)[d.length + 1]'hlt) _).mono ?_
      rintro e u' ⟨rfl, hu⟩
      have hu' := hu.symm
      subst hu'
      rw [HG.out, HC.out]
      go_wp2
      exact bodyPost_ret (v := .tuple #[.agg #[.int .i64 0, .string ⟨#[]⟩, .int .i64 0], .int .i64 0, .int .i64 3]) (by simp [results, Tryz.results117, go_sem, k0, k1, k2]) rfl (by rw [HM.out]; exact ⟨rfl, by first | exact HE.out | (repeat (first | exact HE.out | refine Below.setCell ?_ (by simp) _))⟩)
    | false =>
      have HQ : Hid (headW (c :: t) = false) := hq
      have HC : Hid _ := hq
      clear hq
      by_cases hb : 2147483647 < v * 1024
      · have HM : Hid (numM s = .error 6) := by unfold Hid; rw [HN.out, HQ.out, ← HD.out, ← HV.out, if_neg (by simp), if_pos hb]
        have hbi : (2147483647 : Int) < (v : Int) * 1024 := by omega
        clear hb
        go_wp2_with fail
        refine (inWord_any ((S s)[d.length + 1]'hlt) _).mono ?_
        rintro e u' ⟨rfl, hu⟩
        have hu' := hu.symm
        subst hu'
        rw [HG.out, HC.out]
        go_wp2
        exact bodyPost_ret (v := .tuple #[.agg #[.int .i64 0, .string ⟨#[]⟩, .int .i64 0], .int .i64 0, .int .i64 6]) (by simp [results, Tryz.results117, go_sem, k0, k1, k2]) rfl (by rw [HM.out]; exact ⟨rfl, by first | exact HE.out | (repeat (first | exact HE.out | refine Below.setCell ?_ (by simp) _))⟩)
      · have HM : Hid (numM s = .ok ({ kind := 3, text := [], num := (v * 1024 : Nat) }, (c :: t))) := by unfold Hid; rw [HN.out, HQ.out, ← HD.out, ← HV.out, if_neg (by simp), if_neg hb]
        have hbi : ¬ (2147483647 : Int) < (v : Int) * 1024 := by omega
        clear hb
        have HK : Hid (((s.length - ((c :: t) : List UInt8).length : Nat) : Int) = ((d.length + 1 : Nat) : Int)) := by unfold Hid; have := HL.out; omega
        go_wp2_with fail
        refine (inWord_any ((S s)[d.length + 1]'hlt) _).mono ?_
        rintro e u' ⟨rfl, hu⟩
        have hu' := hu.symm
        subst hu'
        rw [HG.out, HC.out]
        go_wp2
        exact bodyPost_ret (v := .tuple #[.agg #[.int .i64 3, .string ⟨#[]⟩, .int .i64 ((v : Int) * 1024)], .int .i64 ((d.length + 1 : Nat) : Int), .int .i64 0]) (by simp [results, Tryz.results117, go_sem, k0, k1, k2]) rfl (by rw [HM.out]; exact ⟨by rw [HK.out]; simp [tokV, S], by first | exact HE.out | (repeat (first | exact HE.out | refine Below.setCell ?_ (by simp) _))⟩)

set_option maxHeartbeats 8000000 in
set_option maxRecDepth 100000 in
theorem readNumber_1048576 (s r2 : List UInt8) (w : World) (hs : s.length ≤ 2000) (ht : timesM (s.dropWhile digitC) = (1048576, r2)) (hl : s.length = (s.takeWhile digitC).length + 1 + r2.length) (hr2 : s.drop ((s.takeWhile digitC).length + 1) = r2) :
    Calls Tryz.prog 117 #[.string (S s)] w (Tk w s (numM s)) := by
  have HN : Hid _ := numM_by ht (by simp)
  obtain ⟨d, hd⟩ : ∃ d, d = s.takeWhile digitC := ⟨_, rfl⟩
  rw [← hd] at hl hr2
  have hsz : (S s).size = d.length + 1 + r2.length := by rw [size_S]; exact hl
  have HZ : Hid (s.length ≤ maxLen) := by unfold Hid maxLen; omega
  have HX : Hid ((S s).extract d.length (S s).size = S (s.dropWhile digitC)) := by unfold Hid; rw [S_drop, hd, drop_takeW]
  have HU : Hid ((timesM (s.dropWhile digitC)).1 = 1048576) := by unfold Hid; rw [ht]
  have hs2 : (S s).size ≤ 2000 := by rw [size_S]; exact hs
  have HSZ : Hid _ := hsz
  have HD : Hid _ := hd
  have HR : Hid _ := hr2
  have HL : Hid _ := hl
  obtain ⟨v, hv⟩ : ∃ v, v = numC d := ⟨_, rfl⟩
  have hvb : v ≤ 2147483648 := by rw [hv]; exact numC_le d
  have HV : Hid _ := hv
  have i1 : (0 : Int) ≤ (d.length : Int) := by omega
  have i2 : (d.length : Int) ≤ ((S s).size : Int) := by omega
  have hdl : d.length ≤ 2000 := by rw [size_S] at hsz; omega
  obtain ⟨W0, hW0⟩ : ∃ W0, W0 = (w.alloc (.cells #[.int .i64 0, .string ⟨#[]⟩, .int .i64 0] 149)).alloc (.cells #[.int .i64 0] 3) := ⟨_, rfl⟩
  have HT0 : Hid (TokB W0 w.heap.size zeroT) := by unfold Hid; rw [hW0]; exact (tokB_new w zeroT).next ((Below.refl _ _).alloc (Nat.le_refl _) _)
  have HB0 : Hid (Box W0 (w.heap.size + 1) (.int .i64 0) 3) := by unfold Hid; rw [hW0]; have := Box.new (w.alloc (.cells #[.int .i64 0, .string ⟨#[]⟩, .int .i64 0] 149)) (.int .i64 0) 3; simpa using this
  have HE0 : Hid (Below w.heap.size w W0) := by unfold Hid; rw [hW0]; exact ((Below.refl _ _).alloc (Nat.le_refl _) _).alloc (by simp) _
  have HW : Hid _ := hW0
  clear hW0 hd hv hr2 hl ht hs hsz
  go_enter Tryz.func117, Tryz.ntmps117
  go_wp2_with fail
  rw [← HW.out]
  refine (span_num s (w.heap.size + 1) _ HZ.out HB0.out).mono ?_
  rintro e u ⟨rfl, h1, h2⟩
  rw [← HD.out, ← HV.out] at h1
  rw [← HD.out]
  have hT : TokB u w.heap.size zeroT := HT0.out.but h2 (by omega)
  have HE : Hid (Below w.heap.size w u) := HE0.out.trans (h2.below (by omega) HE0.out.size)
  have hc := h1.cell
  have hf := h1.free
  have f0 := hT.free 0
  have f1 := hT.free 1
  have f2 := hT.free 2
  have k0 : u.cell? ⟨w.heap.size, 0, none⟩ = some (.int .i64 0) := hT.c0
  have k1 : u.cell? ⟨w.heap.size, 1, none⟩ = some (.string ⟨#[]⟩) := hT.c1
  have k2 : u.cell? ⟨w.heap.size, 2, none⟩ = some (.int .i64 0) := hT.c2
  clear h1 h2 hT
  go_wp2_with fail
  rw [HX.out]
  refine (unit_any (s.dropWhile digitC) _).mono ?_
  rintro e u' ⟨rfl, hu⟩
  have hu' := hu.symm
  subst hu'
  rw [HU.out]
  cases r2 with
  | nil =>
    have HQ : Hid (headW [] = false) := rfl
    have hnl : ¬ ((d.length + 1 : Nat) : Int) < ((S s).size : Int) := by rw [HSZ.out]; simp
    by_cases hb : 2147483647 < v * 1048576
    · have HM : Hid (numM s = .error 6) := by unfold Hid; rw [HN.out, HQ.out, ← HD.out, ← HV.out, if_neg (by simp), if_pos hb]
      have hbi : (2147483647 : Int) < (v : Int) * 1048576 := by omega
      clear hb
      go_wp2
      exact bodyPost_ret (v := .tuple #[.agg #[.int .i64 0, .string ⟨#[]⟩, .int .i64 0], .int .i64 0, .int .i64 6]) (by simp [results, Tryz.results117, go_sem, k0, k1, k2]) rfl (by rw [HM.out]; exact ⟨rfl, by first | exact HE.out | (repeat (first | exact HE.out | refine Below.setCell ?_ (by simp) _))⟩)
    · have HM : Hid (numM s = .ok ({ kind := 3, text := [], num := (v * 1048576 : Nat) }, [])) := by unfold Hid; rw [HN.out, HQ.out, ← HD.out, ← HV.out, if_neg (by simp), if_neg hb]
      have hbi : ¬ (2147483647 : Int) < (v : Int) * 1048576 := by omega
      clear hb
      have HK : Hid (((s.length - ([] : List UInt8).length : Nat) : Int) = ((d.length + 1 : Nat) : Int)) := by unfold Hid; have := HL.out; omega
      go_wp2
      exact bodyPost_ret (v := .tuple #[.agg #[.int .i64 3, .string ⟨#[]⟩, .int .i64 ((v : Int) * 1048576)], .int .i64 ((d.length + 1 : Nat) : Int), .int .i64 0]) (by simp [results, Tryz.results117, go_sem, k0, k1, k2]) rfl (by rw [HM.out]; exact ⟨by rw [HK.out]; simp [tokV, S], by first | exact HE.out | (repeat (first | exact HE.out | refine Below.setCell ?_ (by simp) _))⟩)
  | cons c t =>
    have hlt : d.length + 1 < (S s).size := by rw [HSZ.out]; simp
    have HG : Hid ((S s)[d.length + 1]'hlt = c) := headW_at HR.out c t rfl hlt
    cases hq : wordyC c with
    | true =>
      have HM : Hid (numM s = .error 3) := by unfold Hid; rw [HN.out, if_pos (show headW (c :: t) = true from hq)]
      have HC : Hid _ := hq
      clear hq
      go_wp2_with fail
      refine (inWord_any ((S s)[d.length + 1]'hlt) _).mono ?_
      rintro e u' ⟨rfl, hu⟩
      have hu' := hu.symm
      subst hu'
      rw [HG.out, HC.out]
      go_wp2
      exact bodyPost_ret (v := .tuple #[.agg #[.int .i64 0, .string ⟨#[]⟩, .int .i64 0], .int .i64 0, .int .i64 3]) (by simp [results, Tryz.results117, go_sem, k0, k1, k2]) rfl (by rw [HM.out]; exact ⟨rfl, by first | exact HE.out | (repeat (first | exact HE.out | refine Below.setCell ?_ (by simp) _))⟩)
    | false =>
      have HQ : Hid (headW (c :: t) = false) := hq
      have HC : Hid _ := hq
      clear hq
      by_cases hb : 2147483647 < v * 1048576
      · have HM : Hid (numM s = .error 6) := by unfold Hid; rw [HN.out, HQ.out, ← HD.out, ← HV.out, if_neg (by simp), if_pos hb]
        have hbi : (2147483647 : Int) < (v : Int) * 1048576 := by omega
        clear hb
        go_wp2_with fail
        refine (inWord_any ((S s)[d.length + 1]'hlt) _).mono ?_
        rintro e u' ⟨rfl, hu⟩
        have hu' := hu.symm
        subst hu'
        rw [HG.out, HC.out]
        go_wp2
        exact bodyPost_ret (v := .tuple #[.agg #[.int .i64 0, .string ⟨#[]⟩, .int .i64 0], .int .i64 0, .int .i64 6]) (by simp [results, Tryz.results117, go_sem, k0, k1, k2]) rfl (by rw [HM.out]; exact ⟨rfl, by first | exact HE.out | (repeat (first | exact HE.out | refine Below.setCell ?_ (by simp) _))⟩)
      · have HM : Hid (numM s = .ok ({ kind := 3, text := [], num := (v * 1048576 : Nat) }, (c :: t))) := by unfold Hid; rw [HN.out, HQ.out, ← HD.out, ← HV.out, if_neg (by simp), if_neg hb]
        have hbi : ¬ (2147483647 : Int) < (v : Int) * 1048576 := by omega
        clear hb
        have HK : Hid (((s.length - ((c :: t) : List UInt8).length : Nat) : Int) = ((d.length + 1 : Nat) : Int)) := by unfold Hid; have := HL.out; omega
        go_wp2_with fail
        refine (inWord_any ((S s)[d.length + 1]'hlt) _).mono ?_
        rintro e u' ⟨rfl, hu⟩
        have hu' := hu.symm
        subst hu'
        rw [HG.out, HC.out]
        go_wp2
        exact bodyPost_ret (v := .tuple #[.agg #[.int .i64 3, .string ⟨#[]⟩, .int .i64 ((v : Int) * 1048576)], .int .i64 ((d.length + 1 : Nat) : Int), .int .i64 0]) (by simp [results, Tryz.results117, go_sem, k0, k1, k2]) rfl (by rw [HM.out]; exact ⟨by rw [HK.out]; simp [tokV, S], by first | exact HE.out | (repeat (first | exact HE.out | refine Below.setCell ?_ (by simp) _))⟩)

theorem readNumber_any (s : List UInt8) (w : World) (hs : s.length ≤ 2000) :
    Calls Tryz.prog 117 #[.string (S s)] w (Tk w s (numM s)) := by
  have hsp := congrArg List.length (List.takeWhile_append_dropWhile (p := digitC) (l := s))
  rw [List.length_append] at hsp
  have hdr := drop_takeW digitC s
  rcases times_cases (s.dropWhile digitC) with h | ⟨c, t, m, h1, h2, h3⟩
  · exact readNumber_1 s _ w hs h (by omega) hdr
  · have e1 : s.drop ((s.takeWhile digitC).length + 1) = t := by rw [← List.drop_drop, hdr, h1]; rfl
    have e2 : s.length = (s.takeWhile digitC).length + 1 + t.length := by rw [h1, List.length_cons] at hsp; omega
    rcases h3 with rfl | rfl
    · exact readNumber_1024 s t w hs h2 e2 e1
    · exact readNumber_1048576 s t w hs h2 e2 e1
end Go.Proofs.YtepfniiojjefhaaGreatDoor
namespace Go.Proofs.YtepfniiojjefhaaGreatDoor
open Go.RowKit Go.Proofs

/- Plain facts. -/
def stepS (x : Bool × List UInt8) (c : UInt8) : Bool × List UInt8 := if x.1 then (false, x.2 ++ [c]) else if c = 92 then (true, x.2) else (false, x.2 ++ [c])
def runS : Bool → List UInt8 → Nat
  | _, [] => 0
  | true, _ :: t => runS false t + 1
  | false, c :: t => if c = 34 then 0 else if c = 92 then runS true t + 1 else runS false t + 1
theorem runS_le (l : List UInt8) : ∀ b, runS b l ≤ l.length := by
  induction l with
  | nil => intro b; cases b <;> simp [runS]
  | cons c t ih =>
    intro b
    cases b with
    | true => simp only [runS, List.length_cons]; have := ih false; omega
    | false =>
      simp only [runS, List.length_cons]
      split
      · omega
      · split
        · have := ih true; omega
        · have := ih false; omega
theorem runS_yes (l : List UInt8) : ∀ b acc k (h : k < l.length), k < runS b l → ((l.take k).foldl stepS (b, acc)).1 = true ∨ l[k] ≠ 34 := by
  induction l with
  | nil => intro b acc k h; simp at h
  | cons c t ih =>
    intro b acc k h hk
    cases k with
    | zero =>
      cases b with
      | true => exact Or.inl rfl
      | false =>
        simp only [runS] at hk
        split at hk
        · omega
        · rename_i hc; exact Or.inr hc
    | succ k =>
      have h' : k < t.length := by simpa using h
      simp only [List.take_succ_cons, List.foldl_cons, List.getElem_cons_succ]
      cases b with
      | true =>
        simp only [runS] at hk
        have e : stepS (true, acc) c = (false, acc ++ [c]) := rfl
        rw [e]
        exact ih false _ k h' (by omega)
      | false =>
        simp only [runS] at hk
        split at hk
        · omega
        · split at hk
          · rename_i h2
            have e : stepS (false, acc) c = (true, acc) := by simp [stepS, h2]
            rw [e]
            exact ih true _ k h' (by omega)
          · rename_i h2
            have e : stepS (false, acc) c = (false, acc ++ [c]) := by simp [stepS, h2]
            rw [e]
            exact ih false _ k h' (by omega)
theorem runS_no (l : List UInt8) : ∀ b acc (h : runS b l < l.length), ((l.take (runS b l)).foldl stepS (b, acc)).1 = false ∧ l[runS b l] = 34 := by
  induction l with
  | nil => intro b acc h; simp at h
  | cons c t ih =>
    intro b acc h
    cases b with
    | true =>
      simp only [runS, List.length_cons] at h
      have e : stepS (true, acc) c = (false, acc ++ [c]) := rfl
      simp only [runS, List.take_succ_cons, List.foldl_cons, List.getElem_cons_succ]
      rw [e]
      exact ih false _ (by omega)
    | false =>
      by_cases h1 : c = 34
      · have e0 : runS false (c :: t) = 0 := by simp [runS, h1]
        simp only [e0, List.take_zero, List.foldl_nil, List.getElem_cons_zero]
        exact ⟨trivial, h1⟩
      · by_cases h2 : c = 92
        · have e0 : runS false (c :: t) = runS true t + 1 := by simp [runS, h2]
          have e : stepS (false, acc) c = (true, acc) := by simp [stepS, h2]
          simp only [e0, List.length_cons] at h
          simp only [e0, List.take_succ_cons, List.foldl_cons, List.getElem_cons_succ]
          rw [e]
          exact ih true _ (by omega)
        · have e0 : runS false (c :: t) = runS false t + 1 := by simp [runS, h1, h2]
          have e : stepS (false, acc) c = (false, acc ++ [c]) := by simp [stepS, h2]
          simp only [e0, List.length_cons] at h
          simp only [e0, List.take_succ_cons, List.foldl_cons, List.getElem_cons_succ]
          rw [e]
          exact ih false _ (by omega)
theorem strM_run (l : List UInt8) : ∀ b, match strM b l with
    | none => runS b l = l.length
    | some (x, r) => runS b l < l.length ∧ r = l.drop (runS b l + 1) ∧ ∀ acc, ((l.take (runS b l)).foldl stepS (b, acc)).2 = acc ++ x := by
  induction l with
  | nil => intro b; cases b <;> simp [strM, runS]
  | cons c t ih =>
    intro b
    have more : ∀ (b' : Bool) (g : List UInt8 → List UInt8), runS b (c :: t) = runS b' t + 1 → strM b (c :: t) = (strM b' t).map (fun x => (g x.1, x.2)) → (∀ acc, ∃ acc', stepS (b, acc) c = (b', acc') ∧ ∀ x, acc' ++ x = acc ++ g x) →
        (match strM b (c :: t) with
        | none => runS b (c :: t) = (c :: t).length
        | some (x, r) => runS b (c :: t) < (c :: t).length ∧ r = (c :: t).drop (runS b (c :: t) + 1) ∧ ∀ acc, (((c :: t).take (runS b (c :: t))).foldl stepS (b, acc)).2 = acc ++ x) := by
      intro b' g h1 h2 h3
      have hh := ih b'
      rw [h2, h1]
      cases hs : strM b' t with
      | none => rw [hs] at hh; simp only at hh; simp [hh]
      | some x =>
        rw [hs] at hh
        obtain ⟨q1, q2, q3⟩ := hh
        simp only [Option.map_some]
        refine ⟨by simp; omega, by rw [q2]; rfl, fun acc => ?_⟩
        obtain ⟨acc', e1, e2⟩ := h3 acc
        rw [List.take_succ_cons, List.foldl_cons, e1, q3, e2]
    cases b with
    | true => exact more false (c :: ·) (by simp [runS]) (by simp [strM]) (fun acc => ⟨acc ++ [c], rfl, by simp⟩)
    | false =>
      by_cases h1 : c = 34
      · have e0 : runS false (c :: t) = 0 := by simp [runS, h1]
        have e1 : strM false (c :: t) = some ([], t) := by simp [strM, h1]
        rw [e1, e0]
        exact ⟨by simp, rfl, by simp⟩
      · by_cases h2 : c = 92
        · exact more true id (by simp [runS, h2]) (by simp [strM, h2]) (fun acc => ⟨acc, by simp [stepS, h2], by simp⟩)
        · exact more false (c :: ·) (by simp [runS, h1, h2]) (by simp [strM, h1, h2]) (fun acc => ⟨acc ++ [c], by simp [stepS, h2], by simp⟩)
def stS (l : List UInt8) (k : Nat) : Bool × List UInt8 := (l.take k).foldl stepS (false, [])
theorem stS_succ {l : List UInt8} {k : Nat} (h : k < l.length) : stS l (k + 1) = stepS (stS l k) l[k] := by
  unfold stS
  rw [List.take_succ_eq_append_getElem h, List.foldl_append]
  rfl
theorem stS_len (l : List UInt8) (k : Nat) : (stS l k).2.length ≤ k := by
  induction k with
  | zero => simp [stS]
  | succ k ih =>
    by_cases h : k < l.length
    · rw [stS_succ h]
      unfold stepS
      split
      · simp; omega
      · split
        · simp only; omega
        · simp; omega
    · have : stS l (k + 1) = stS l k := by unfold stS; rw [List.take_of_length_le (by omega), List.take_of_length_le (by omega)]
      rw [this]; omega

/- The closure. -/
/-- What the closure's two variables hold: whether a backslash is ahead, and the bytes so far. -/
def StrI (h : Nat) (x : Bool × List UInt8) (u : World) : Prop :=
  Box u (h + 2) (.bool x.1) 4 ∧ (∃ a c, Box u (h + 1) (.slice a x.2.length c) 52 ∧ u.ownsRow (h + 3) 5 1 (.slice a x.2.length c) x.2.length (bytesC x.2)) ∧ h + 3 ≤ u.heap.size

set_option maxHeartbeats 2000000 in
theorem strStep_no (h : Nat) (c : UInt8) (l : List UInt8) (w : World) (hI : StrI h (false, l) w) (hc : c = 34) :
    Calls Tryz.prog 159 #[.int .u8 c.toNat, .pointer (some ⟨h + 2, 0, none⟩), .pointer (some ⟨h + 1, 0, none⟩)] w fun e w' => e = .returned (.bool false) ∧ w' = w := by
  have h1 := hI.1.cell
  have hq : (c.toNat : Int) = 34 := by rw [hc]; rfl
  clear hc hI
  go_enter Tryz.func159, Tryz.ntmps159
  go_wp2
  go_ret
  exact ⟨rfl, rfl⟩

set_option maxHeartbeats 2000000 in
theorem strStep_back (h : Nat) (c : UInt8) (l : List UInt8) (w : World) (hI : StrI h (false, l) w) (hc : c = 92) :
    Calls Tryz.prog 159 #[.int .u8 c.toNat, .pointer (some ⟨h + 2, 0, none⟩), .pointer (some ⟨h + 1, 0, none⟩)] w fun e w' => e = .returned (.bool true) ∧ StrI h (true, l) w' ∧ Below (h + 1) w w' := by
  obtain ⟨hP, ⟨a, cp, hT, hO⟩, hz⟩ := hI
  have h1 := hP.cell
  have h2 := hP.free
  have hq : (c.toNat : Int) = 92 := by rw [hc]; rfl
  have HP : Hid _ := hP
  have HT : Hid _ := hT
  have HO : Hid _ := hO
  clear hc hP hT hO
  go_enter Tryz.func159, Tryz.ntmps159
  go_wp2
  go_ret
  refine ⟨rfl, ⟨Box.set HP.out _, ⟨a, cp, Box.but HT.out (But.set _ _) (by omega), own_but HO.out (But.set _ _) (by omega)⟩, by simpa [World.setCell] using hz⟩, (But.set _ _).below (by omega) (by omega)⟩

theorem cell_one_at (W : World) (n : Nat) (hn : W.heap.size = n) (x : Value) (t : TypeId) : ∀ (j : Nat) u, [x][j]? = some u → (W.alloc (.cells #[x] t)).cell? ((⟨n, 0, none⟩ : Addr).add j) = some u := by
  subst hn; exact cell_one_fresh W x t

set_option maxHeartbeats 4000000 in
set_option maxRecDepth 100000 in
theorem strStep_put (h : Nat) (c : UInt8) (b : Bool) (l : List UInt8) (w : World) (hI : StrI h (b, l) w) (hl : l.length ≤ 2000) (hc : b = true ∨ (c ≠ 34 ∧ c ≠ 92)) :
    Calls Tryz.prog 159 #[.int .u8 c.toNat, .pointer (some ⟨h + 2, 0, none⟩), .pointer (some ⟨h + 1, 0, none⟩)] w fun e w' => e = .returned (.bool true) ∧ StrI h (false, l ++ [c]) w' ∧ Below (h + 1) w w' := by
  obtain ⟨i0, hi, hz0, hz1, hz2⟩ := info_parts infoB8
  obtain ⟨hP, ⟨a, cp, hT, hO⟩, hz⟩ := hI
  simp only at hP hT hO
  have h1 := hP.cell
  have h2 := hP.free
  have h3 := hT.cell
  have h4 := hT.free
  have HP : Hid _ := hP
  have HT : Hid _ := hT
  have HO : Hid _ := hO
  have hO1 : (w.setCell ⟨h + 2, 0, none⟩ (.bool false)).ownsRow (h + 3) 5 1 (.slice a l.length cp) l.length (bytesC l) := own_but HO.out (But.set _ _) (by omega)
  have HO1 : Hid _ := hO1
  have hzw : h + 3 ≤ (w.setCell ⟨h + 2, 0, none⟩ (.bool false)).heap.size := by simpa [World.setCell] using hz
  have HZW : Hid _ := hzw
  have HPs : Hid (Box (w.setCell ⟨h + 2, 0, none⟩ (.bool false)) (h + 2) (.bool false) 4) := Box.set HP.out _
  have HTs : Hid (Box (w.setCell ⟨h + 2, 0, none⟩ (.bool false)) (h + 1) (.slice a l.length cp) 52) := Box.but HT.out (But.set _ _) (by omega)
  have HBs : Hid (Below (h + 1) w (w.setCell ⟨h + 2, 0, none⟩ (.bool false))) := (But.set _ _).below (by omega) (by omega)
  have hc' : (b = true) ∨ (b = false ∧ ¬ (c.toNat : Int) = 34 ∧ ¬ (c.toNat : Int) = 92) := by
    rcases hc with hc | ⟨q1, q2⟩
    · exact Or.inl hc
    · cases b with
      | true => exact Or.inl rfl
      | false => exact Or.inr ⟨rfl, fun e => q1 (UInt8.toNat_inj.1 (by show c.toNat = 34; omega)), fun e => q2 (UInt8.toNat_inj.1 (by show c.toNat = 92; omega))⟩
  clear hc hP hT hO hO1 hzw
  have fin : ∀ (v' : Value) (w2 : World), w2.ownsRow (h + 3) 5 1 v' (l.length + 1) (bytesC l ++ [.int .u8 c.toNat]) → Below (h + 3) (w.setCell ⟨h + 2, 0, none⟩ (.bool false)) w2 → ∃ a2 c2, v' = .slice a2 (l.length + 1) c2 ∧ w2.cell? ⟨h + 1, 0, none⟩ = some (.slice a l.length cp) ∧ w2.frozen? ⟨h + 1, 0, none⟩ = false ∧ StrI h (false, l ++ [c]) (w2.setCell ⟨h + 1, 0, none⟩ v') ∧ Below (h + 1) w (w2.setCell ⟨h + 1, 0, none⟩ v') := by
    intro v' w2 hown hbel
    obtain ⟨a2, c2, rfl⟩ := own_form hown
    have hTb := HTs.out.below hbel (by omega)
    have hPb := HPs.out.below hbel (by omega)
    have e : (l ++ [c]).length = l.length + 1 := by simp
    refine ⟨a2, c2, rfl, hTb.cell, hTb.free, ⟨Box.but hPb (But.set _ _) (by omega), ⟨a2, c2, ?_, ?_⟩, ?_⟩, ?_⟩
    · simp only [e]; exact Box.set hTb _
    · simp only [e]; rw [bytesC_snoc l c _ rfl]; exact own_but hown (But.set _ _) (by omega)
    · have := hbel.size; have hz3 := HZW.out; simp only [World.setCell] at this hz3 ⊢; simp at this hz3 ⊢; omega
    · exact (HBs.out.trans (hbel.mono (by omega))).setCell (by simp) _
  have FIN : Hid _ := fin
  clear fin
  rcases hc' with hb | ⟨hb, q1, q2⟩
  · subst hb
    go_enter Tryz.func159, Tryz.ntmps159
    go_wp2_with (at_builtin; refine wpList_append_own _ rfl _ _ 52 rfl (h + 3) 5 i0 (.int .u8 0) 1 1 Tryz.underlying52 hi hz0 hz1 hz2 rfl (by decide) _ _ _ rfl (World.ownsRow.alloc HO1.out _) ⟨w.heap.size, 0, none⟩ 1 1 [.int .u8 c.toNat] rfl rfl (cell_one_at _ _ (by simp [World.setCell]) _ _) ?c2a ?c3a ?c4a ?c5a ?_)
    case c2a => intro u hu; simp at hu; subst hu; rfl
    case c3a => unfold maxLen; omega
    case c4a => omega
    case c5a => have := HZW.out; simp at this ⊢; omega
    intro v' w2 hown' hgrow _
    have hB2 : Below (h + 3) (w.setCell ⟨h + 2, 0, none⟩ (.bool false)) w2 := ((Below.refl _ _).alloc HZW.out _).grown hgrow (by have := HZW.out; simp at this ⊢; omega) (fun j hj => (World.ownsRow.lt HO1.out j hj).1)
    obtain ⟨a2, c2, rfl, d1, d2, d3, d4⟩ := FIN.out v' w2 hown' hB2
    have D3 : Hid _ := d3
    have D4 : Hid _ := d4
    clear hown' hgrow hB2 d3 d4
    go_wp2
    go_ret
    exact ⟨rfl, D3.out, D4.out⟩
  · subst hb
    go_enter Tryz.func159, Tryz.ntmps159
    go_wp2_with (at_builtin; refine wpList_append_own _ rfl _ _ 52 rfl (h + 3) 5 i0 (.int .u8 0) 1 1 Tryz.underlying52 hi hz0 hz1 hz2 rfl (by decide) _ _ _ rfl (World.ownsRow.alloc HO1.out _) ⟨w.heap.size, 0, none⟩ 1 1 [.int .u8 c.toNat] rfl rfl (cell_one_at _ _ (by simp [World.setCell]) _ _) ?c2b ?c3b ?c4b ?c5b ?_)
    case c2b => intro u hu; simp at hu; subst hu; rfl
    case c3b => unfold maxLen; omega
    case c4b => omega
    case c5b => have := HZW.out; simp at this ⊢; omega
    intro v' w2 hown' hgrow _
    have hB2 : Below (h + 3) (w.setCell ⟨h + 2, 0, none⟩ (.bool false)) w2 := ((Below.refl _ _).alloc HZW.out _).grown hgrow (by have := HZW.out; simp at this ⊢; omega) (fun j hj => (World.ownsRow.lt HO1.out j hj).1)
    obtain ⟨a2, c2, rfl, d1, d2, d3, d4⟩ := FIN.out v' w2 hown' hB2
    have D3 : Hid _ := d3
    have D4 : Hid _ := d4
    clear hown' hgrow hB2 d3 d4
    go_wp2
    go_ret
    exact ⟨rfl, D3.out, D4.out⟩
end Go.Proofs.YtepfniiojjefhaaGreatDoor
