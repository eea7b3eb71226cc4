/-
  Plain facts on tokens, as the program reads them: gaps by the library's Cut, kinds of what begins. No program is named here.
  What the small functions of package token do (digits, letters, spans): the walks.
  What token.span does, whatever function it is handed: the walk.
  What token's wordLength, isWord, unit do: the walks.
  What token.unit does: the walk.
  Plain facts on tokens that the keeping laws lean on. No program is named here.
  What token.readNumber does: the walk. Its closure counts in a variable that it has captured.
  What the laws' maker of words does: the walk.
-/
import Derived.Lib.IndexLaws
import Derived.Test.YtepfniiojjefhaaGreatDoorQPure6
import Derived.Test.YtepfniiojjefhaaGreatDoorRows
import Derived.WalkKit
import Derived.WalkSpells
import Derived.WalkLawsBesides
import Derived.Shelf.Abstract
import Derived.Laws.IdiomStrings
namespace Go.Proofs.YtepfniiojjefhaaGreatDoor
open Go.RowKit

theorem silM_spaces (s : List UInt8) : silM (s.dropWhile spaceC) = silM s := by
  induction s with
  | nil => rfl
  | cons c t ih =>
    rw [List.dropWhile_cons]
    cases h : spaceC c with
    | true => rw [if_pos rfl, ih, silM_space t h]
    | false => simp
theorem comEnd_index (u : List UInt8) : comEnd u = if 0 ≤ Lib.index u [42, 47] then some (u.drop ((Lib.index u [42, 47]).toNat + 2)) else none := by
  induction u with
  | nil => rfl
  | cons a t ih =>
    cases t with
    | nil =>
      have e : Lib.index [a] [42, 47] = -1 := by
        unfold Lib.index
        rw [if_neg (by simp [List.isPrefixOf])]
        rfl
      rw [e]; rfl
    | cons b t =>
      by_cases h : a = 42 ∧ b = 47
      · obtain ⟨rfl, rfl⟩ := h
        have e : Lib.index (42 :: 47 :: t) [42, 47] = 0 := by
          unfold Lib.index; rw [if_pos (by simp [List.isPrefixOf])]
        rw [e, comEnd]; rfl
      · have hp : ¬ ([42, 47] : List UInt8).isPrefixOf (a :: b :: t) = true := by
          intro hp
          simp only [List.isPrefixOf, Bool.and_true, Bool.and_eq_true, beq_iff_eq] at hp
          exact h ⟨hp.1.symm, hp.2.symm⟩
        have hge := Lib.index_ge (b :: t) [42, 47]
        rw [comEnd, if_neg h, ih]
        have e : Lib.index (a :: b :: t) [42, 47] = if Lib.index (b :: t) [42, 47] == -1 then -1 else Lib.index (b :: t) [42, 47] + 1 := by
          rw [Lib.index, if_neg hp]
        rw [e]
        by_cases hm : Lib.index (b :: t) [42, 47] = -1
        · rw [hm]; rfl
        · have hm' : ¬ (Lib.index (b :: t) [42, 47] == -1) = true := by simpa using hm
          rw [if_neg hm', if_pos (by omega), if_pos (by omega)]
          have e2 : (Lib.index (b :: t) [42, 47] + 1).toNat + 2 = ((Lib.index (b :: t) [42, 47]).toNat + 2) + 1 := by omega
          rw [e2]
          rfl
theorem cut_open {u : List UInt8} (h : comEnd u = none) : Lib.cut u [42, 47] = (u, [], false) := by
  rw [comEnd_index] at h
  unfold Lib.cut
  split at h
  · cases h
  · rename_i hn; rw [if_neg hn]
theorem cut_com {u r : List UInt8} (h : comEnd u = some r) : ∃ a, Lib.cut u [42, 47] = (a, r, true) ∧ u.length = a.length + 2 + r.length ∧ r = u.drop (a.length + 2) := by
  rw [comEnd_index] at h
  split at h
  · rename_i hn
    have hr := Lib.index_room u [42, 47] hn
    simp only [List.length_cons, List.length_nil] at hr
    simp only [Option.some.injEq] at h
    refine ⟨u.take (Lib.index u [42, 47]).toNat, ?_, ?_, ?_⟩
    · unfold Lib.cut; rw [if_pos hn, ← h]; rfl
    · rw [← h]; simp; omega
    · rw [← h, List.length_take, Nat.min_eq_left (by omega)]
  · cases h

/- Which token begins. -/
def kindM (s : List UInt8) : Int :=
  match s with
  | [] => 0
  | c :: t => if letterC c then 1 else if c = 58 ∧ (t.head?.map letterC).getD false = true then 2 else if digitC c then 3 else if c = 34 then 4 else if markC c then 5 else 0
theorem kindM_beg (s : List UInt8) : (kindM s = 0) ↔ begM s = false := by
  cases s with
  | nil => simp [kindM, begM]
  | cons c t =>
    simp only [kindM, begM]
    cases h1 : letterC c with
    | true => simp
    | false =>
      by_cases h2 : c = 58 ∧ (t.head?.map letterC).getD false = true
      · simp only [Bool.false_eq_true, if_false, h2.1, h2.2]; simp
      · simp only [Bool.false_eq_true, if_false, if_neg h2]
        have h2' : (c == 58 && (t.head?.map letterC).getD false) = false := by
          cases e : (c == 58 && (t.head?.map letterC).getD false) with
          | false => rfl
          | true => exact absurd (by simpa using e) h2
        rw [h2']
        cases h3 : digitC c with
        | true => simp
        | false =>
          by_cases h4 : c = 34
          · simp [h4]
          · cases h5 : markC c <;> simp [h4]

/- Words. -/
def wlen (s : List UInt8) : Nat := match s with | [] => 0 | c :: t => if digitC c then 0 else ((c :: t).takeWhile wordyC).length
theorem letter_not_digit {c : UInt8} (h : letterC c = true) : digitC c = false := by
  cases e : digitC c with
  | false => rfl
  | true =>
    unfold digitC at e
    unfold letterC at h
    simp only [Bool.and_eq_true, decide_eq_true_eq, Bool.or_eq_true, beq_iff_eq] at e h
    rcases h with (h | h) | h
    · omega
    · omega
    · subst h; simp at e
theorem wlen_letter {c : UInt8} (t : List UInt8) (h : letterC c = true) : wlen (c :: t) = 1 + (t.takeWhile wordyC).length := by
  show (if digitC c then 0 else ((c :: t).takeWhile wordyC).length) = _
  rw [letter_not_digit h, if_neg (by simp), List.takeWhile_cons, if_pos (by unfold wordyC; rw [h]; rfl)]
  simp; omega
theorem wlen_not {c : UInt8} (t : List UInt8) (h : letterC c = false) : wlen (c :: t) = 0 := by
  show (if digitC c then 0 else ((c :: t).takeWhile wordyC).length) = _
  cases e : digitC c with
  | true => rfl
  | false => rw [if_neg (by simp), List.takeWhile_cons, if_neg (by unfold wordyC; rw [h, e]; simp)]; rfl
theorem wlen_pos (s : List UInt8) : 0 < wlen s ↔ (s.head?.map letterC).getD false = true := by
  cases s with
  | nil => simp [wlen]
  | cons c t =>
    cases e : letterC c with
    | true => rw [wlen_letter t e]; simp [e]; omega
    | false => rw [wlen_not t e]; simp [e]
theorem wlen_all (s : List UInt8) : (s ≠ [] ∧ wlen s = s.length) ↔ wordB s = true := by
  cases s with
  | nil => simp [wordB]
  | cons c t =>
    cases e : letterC c with
    | false => rw [wlen_not t e]; simp [wordB, e]
    | true =>
      rw [wlen_letter t e]
      have hc : wordyC c = true := by unfold wordyC; rw [e]; rfl
      simp only [wordB, List.head?_cons, Option.map_some, Option.getD_some, e, Bool.true_and, List.all_cons, hc, ne_eq, reduceCtorEq, not_false_eq_true, true_and, List.length_cons]
      rw [List.all_eq_true]
      constructor
      · intro h x hx
        have h2 : t.takeWhile wordyC = t := by
          have hs := List.takeWhile_prefix (l := t) wordyC
          exact hs.eq_of_length (by omega)
        rw [← h2] at hx
        exact List.all_eq_true.1 (List.all_takeWhile (p := wordyC) (l := t)) x hx
      · intro h
        have h2 : t.takeWhile wordyC = t := by
          have := List.takeWhile_append_of_pos (p := wordyC) (l₁ := t) (l₂ := []) h
          simpa using this
        rw [h2]; omega

end Go.Proofs.YtepfniiojjefhaaGreatDoor
namespace Go.Proofs.YtepfniiojjefhaaGreatDoor
open Go.RowKit Go.Proofs

theorem digitC_yes {c : UInt8} (h1 : 48 ≤ c.toNat) (h2 : c.toNat ≤ 57) : digitC c = true := by unfold digitC; simp [h1, h2]
theorem digitC_no {c : UInt8} (h : ¬ (48 ≤ c.toNat ∧ c.toNat ≤ 57)) : digitC c = false := by
  unfold digitC
  rw [Bool.and_eq_false_iff, decide_eq_false_iff_not, decide_eq_false_iff_not]
  omega

set_option maxHeartbeats 1000000 in
theorem isDigit_any (c : UInt8) (w : World) :
    Calls Tryz.prog 115 #[.int .u8 c.toNat] w fun e w' => e = .returned (.bool (digitC c)) ∧ w' = w := by
  have hu := c.toNat_lt
  by_cases h1 : 48 ≤ c.toNat
  · by_cases h2 : c.toNat ≤ 57
    · have HA : Hid _ := digitC_yes h1 h2
      have b1 : (48 : Int) ≤ (c.toNat : Int) := by omega
      have b2 : (c.toNat : Int) ≤ 57 := by omega
      clear h1 h2
      go_enter Tryz.func115, Tryz.ntmps115
      go_wp2
      go_ret
      exact ⟨ret_bool HA.out.symm, rfl⟩
    · have HA : Hid (digitC c = false) := digitC_no (by omega)
      have b1 : (48 : Int) ≤ (c.toNat : Int) := by omega
      have b2 : ¬ (c.toNat : Int) ≤ 57 := by omega
      clear h1 h2
      go_enter Tryz.func115, Tryz.ntmps115
      go_wp2
      go_ret
      exact ⟨ret_bool HA.out.symm, rfl⟩
  · have HA : Hid (digitC c = false) := digitC_no (by omega)
    have b1 : ¬ (48 : Int) ≤ (c.toNat : Int) := by omega
    clear h1
    go_enter Tryz.func115, Tryz.ntmps115
    go_wp2
    go_ret
    exact ⟨ret_bool HA.out.symm, rfl⟩

theorem wordy_low {c : UInt8} (h1 : 97 ≤ c.toNat) (h2 : c.toNat ≤ 122) : wordyC c = true := by unfold wordyC letterC; simp [h1, h2]
theorem wordy_up {c : UInt8} (h1 : 65 ≤ c.toNat) (h2 : c.toNat ≤ 90) : wordyC c = true := by unfold wordyC letterC; simp [h1, h2]
theorem wordy_else {c : UInt8} (h1 : ¬ (97 ≤ c.toNat ∧ c.toNat ≤ 122)) (h2 : ¬ (65 ≤ c.toNat ∧ c.toNat ≤ 90)) (h3 : digitC c = false) : wordyC c = decide ((c.toNat : Int) = 95) := by
  unfold wordyC letterC
  rw [h3]
  have e1 : (decide (97 ≤ c.toNat) && decide (c.toNat ≤ 122)) = false := by rw [Bool.and_eq_false_iff, decide_eq_false_iff_not, decide_eq_false_iff_not]; omega
  have e2 : (decide (65 ≤ c.toNat) && decide (c.toNat ≤ 90)) = false := by rw [Bool.and_eq_false_iff, decide_eq_false_iff_not, decide_eq_false_iff_not]; omega
  rw [e1, e2]
  simp only [Bool.false_or, Bool.or_false]
  by_cases h : c = 95
  · subst h; rfl
  · have : ¬ (c.toNat : Int) = 95 := fun e => h (UInt8.toNat_inj.1 (by show c.toNat = 95; omega))
    simp [h, this]

set_option maxHeartbeats 2000000 in
theorem inWord_any (c : UInt8) (w : World) :
    Calls Tryz.prog 156 #[.int .u8 c.toNat] w fun e w' => e = .returned (.bool (wordyC c)) ∧ w' = w := by
  have hu := c.toNat_lt
  by_cases h1 : 97 ≤ c.toNat ∧ c.toNat ≤ 122
  · have HA : Hid _ := wordy_low h1.1 h1.2
    have b1 : (97 : Int) ≤ (c.toNat : Int) := by omega
    have b2 : (c.toNat : Int) ≤ 122 := by omega
    clear h1
    go_enter Tryz.func156, Tryz.ntmps156
    go_wp2
    go_ret
    exact ⟨ret_bool HA.out.symm, rfl⟩
  by_cases h2 : 65 ≤ c.toNat ∧ c.toNat ≤ 90
  · have HA : Hid _ := wordy_up h2.1 h2.2
    have b0 : ¬ (97 : Int) ≤ (c.toNat : Int) := by omega
    have b1 : (65 : Int) ≤ (c.toNat : Int) := by omega
    have b2 : (c.toNat : Int) ≤ 90 := by omega
    clear h1 h2
    go_enter Tryz.func156, Tryz.ntmps156
    go_wp2
    go_ret
    exact ⟨ret_bool HA.out.symm, rfl⟩
  cases h3 : digitC c with
  | true =>
    have HA : Hid (wordyC c = true) := by unfold Hid wordyC; rw [h3]; simp
    have HD : Hid _ := h3
    have h3' : 48 ≤ c.toNat ∧ c.toNat ≤ 57 := by unfold digitC at h3; simpa using h3
    have b0 : ¬ (97 : Int) ≤ (c.toNat : Int) := by omega
    have b1 : ¬ (65 : Int) ≤ (c.toNat : Int) := by omega
    clear h1 h2 h3 h3'
    go_enter Tryz.func156, Tryz.ntmps156
    go_wp2_with fail
    refine (isDigit_any c _).mono ?_
    rintro e u ⟨rfl, hu⟩
    have hu' := hu.symm
    subst hu'
    rw [HD.out]
    go_wp2
    go_ret
    exact ⟨ret_bool HA.out.symm, rfl⟩
  | false =>
    have HA : Hid _ := wordy_else h1 h2 h3
    have HD : Hid _ := h3
    clear h3
    by_cases g1 : 97 ≤ c.toNat
    · have b0 : (97 : Int) ≤ (c.toNat : Int) := by omega
      have b0' : ¬ (c.toNat : Int) ≤ 122 := by omega
      have b1 : (65 : Int) ≤ (c.toNat : Int) := by omega
      have b1' : ¬ (c.toNat : Int) ≤ 90 := by omega
      clear h1 h2 g1
      go_enter Tryz.func156, Tryz.ntmps156
      go_wp2_with fail
      refine (isDigit_any c _).mono ?_
      rintro e u ⟨rfl, hu⟩
      have hu' := hu.symm
      subst hu'
      rw [HD.out]
      go_wp2
      go_ret
      exact ⟨ret_bool (by rw [HA.out]; first | rfl | simp), rfl⟩
    · by_cases g2 : 65 ≤ c.toNat
      · have b0 : ¬ (97 : Int) ≤ (c.toNat : Int) := by omega
        have b1 : (65 : Int) ≤ (c.toNat : Int) := by omega
        have b1' : ¬ (c.toNat : Int) ≤ 90 := by omega
        clear h1 h2 g1 g2
        go_enter Tryz.func156, Tryz.ntmps156
        go_wp2_with fail
        refine (isDigit_any c _).mono ?_
        rintro e u ⟨rfl, hu⟩
        have hu' := hu.symm
        subst hu'
        rw [HD.out]
        go_wp2
        go_ret
        exact ⟨ret_bool (by rw [HA.out]; first | rfl | simp), rfl⟩
      · have b0 : ¬ (97 : Int) ≤ (c.toNat : Int) := by omega
        have b1 : ¬ (65 : Int) ≤ (c.toNat : Int) := by omega
        clear h1 h2 g1 g2
        go_enter Tryz.func156, Tryz.ntmps156
        go_wp2_with fail
        refine (isDigit_any c _).mono ?_
        rintro e u ⟨rfl, hu⟩
        have hu' := hu.symm
        subst hu'
        rw [HD.out]
        go_wp2
        go_ret
        exact ⟨ret_bool (by rw [HA.out]; first | rfl | simp), rfl⟩
end Go.Proofs.YtepfniiojjefhaaGreatDoor
namespace Go.Proofs.YtepfniiojjefhaaGreatDoor
open Go.RowKit Go.Proofs Go.Lib

set_option maxHeartbeats 2000000 in
theorem span_any (s : ByteArray) (f : Nat) (cap : Array Value) (eg : ∀ args w, (callFunc f args).run Tryz.prog w = .ok (.enter f args) w) (n : Nat) (J : Nat → World → Prop) (w : World) (hs : s.size ≤ maxLen) (hn : n ≤ s.size)
    (hyes : ∀ (k : Nat) (h : k < s.size) (u : World), k < n → J k u → Calls Tryz.prog f (#[.int .u8 s[k].toNat] ++ cap) u fun e u' => e = .returned (.bool true) ∧ J (k + 1) u')
    (hno : ∀ (h : n < s.size) (u : World), J n u → Calls Tryz.prog f (#[.int .u8 s[n].toNat] ++ cap) u fun e u' => e = .returned (.bool false) ∧ J n u')
    (h0 : J 0 w) :
    Calls Tryz.prog 109 #[.string s, .func (.func f) #[] cap] w fun e w' => e = .returned (.int .i64 n) ∧ J n w' := by
  unfold maxLen at hs
  have HY : Hid _ := hyes
  have HO : Hid _ := hno
  have H0 : Hid _ := h0
  clear hyes hno h0
  go_enter Tryz.func109, Tryz.ntmps109
  go_wp2
  go_loopw [5] (fun i wr => ∃ k : Nat, k ≤ n ∧ i = .int .i64 k ∧ Hid (J k wr)) (fun i _ => s.size - (intOf i).toNat)
  case atStart => exact ⟨0, Nat.zero_le _, rfl, H0⟩
  case round =>
    obtain ⟨k, hk, rfl, HJ⟩ := hrel
    by_cases hlt : k < n
    · have hks : k < s.size := by omega
      go_wp2_with (go_at_fn f; refine Calls.mono (HY.out k hks wr hlt HJ.out) ?_; rintro e u ⟨rfl, hj⟩)
      go_roundw
      case rel => exact ⟨k + 1, by omega, by go_num, hj⟩
      case measure => simp [intOf]; omega
    · have hkn : k = n := by omega
      subst hkn
      by_cases hks : k < s.size
      · go_wp2_with (go_at_fn f; refine Calls.mono (HO.out hks wr HJ.out) ?_; rintro e u ⟨rfl, hj⟩)
        go_ret
        exact ⟨rfl, hj⟩
      · go_wp2
        go_ret
        exact ⟨rfl, HJ.out⟩

theorem takeW_yes {p : UInt8 → Bool} : ∀ {l : List UInt8} {k : Nat} (h : k < l.length), k < (l.takeWhile p).length → p l[k] = true := by
  intro l
  induction l with
  | nil => intro k h; simp at h
  | cons c t ih =>
    intro k h hk
    rw [List.takeWhile_cons] at hk
    cases e : p c with
    | false => rw [e] at hk; simp at hk
    | true =>
      rw [e] at hk
      cases k with
      | zero => exact e
      | succ k => simp at hk; exact ih (by simpa using h) hk
theorem takeW_no {p : UInt8 → Bool} : ∀ {l : List UInt8} (h : (l.takeWhile p).length < l.length), p (l[(l.takeWhile p).length]'h) = false := by
  intro l
  induction l with
  | nil => intro h; simp at h
  | cons c t ih =>
    intro h
    cases e : p c with
    | false =>
      have : (c :: t).takeWhile p = [] := by rw [List.takeWhile_cons, e]; rfl
      simp only [this, List.length_nil, List.getElem_cons_zero]; exact e
    | true =>
      have : (c :: t).takeWhile p = c :: t.takeWhile p := by rw [List.takeWhile_cons, e]; rfl
      simp only [this, List.length_cons] at h ⊢
      simp only [List.getElem_cons_succ]
      exact ih (by omega)
theorem list_at (s : ByteArray) (k : Nat) (h : k < s.size) : s[k] = s.data.toList[k]'(by rw [size_list]; exact h) := rfl

theorem span_pure (s : ByteArray) (f : Nat) (eg : ∀ args w, (callFunc f args).run Tryz.prog w = .ok (.enter f args) w) (p : UInt8 → Bool) (w : World) (hs : s.size ≤ maxLen)
    (hf : ∀ (c : UInt8) (u : World), Calls Tryz.prog f #[.int .u8 c.toNat] u fun e u' => e = .returned (.bool (p c)) ∧ u' = u) :
    Calls Tryz.prog 109 #[.string s, .func (.func f) #[] #[]] w fun e w' => e = .returned (.int .i64 ((s.data.toList.takeWhile p).length : Nat)) ∧ w' = w := by
  have hle : (s.data.toList.takeWhile p).length ≤ s.size := by rw [← size_list]; exact (List.takeWhile_prefix p).length_le
  refine span_any s f #[] eg _ (fun _ u => u = w) w hs hle ?_ ?_ rfl
  · intro k h u hk hu
    subst hu
    refine (hf s[k] u).mono ?_
    rintro e u' ⟨rfl, rfl⟩
    rw [list_at s k h, takeW_yes _ hk]
    exact ⟨rfl, rfl⟩
  · intro h u hu
    subst hu
    refine (hf s[(s.data.toList.takeWhile p).length] u).mono ?_
    rintro e u' ⟨rfl, rfl⟩
    rw [list_at s _ h, takeW_no (p := p) (l := s.data.toList)]
    exact ⟨rfl, rfl⟩
end Go.Proofs.YtepfniiojjefhaaGreatDoor
namespace Go.Proofs.YtepfniiojjefhaaGreatDoor
open Go.RowKit Go.Proofs

theorem entersWord : ∀ args w, (callFunc 156 args).run Tryz.prog w = .ok (.enter 156 args) w := enters_of Tryz.func156 (by kernel_rfl) rfl

set_option maxHeartbeats 2000000 in
theorem wordLength_any (s : List UInt8) (w : World) (hs : s.length ≤ maxLen) :
    Calls Tryz.prog 114 #[.string (S s)] w fun e w' => e = .returned (.int .i64 (wlen s : Nat)) ∧ w' = w := by
  cases s with
  | nil =>
    have he := S_none
    go_enter Tryz.func114, Tryz.ntmps114
    go_wp2
    go_ret
    exact ⟨rfl, rfl⟩
  | cons c t =>
    have he := S_some c t
    have hz := S_pos c t
    have HZ : Hid ((S (c :: t)).size ≤ maxLen) := by unfold Hid; rw [size_S]; exact hs
    clear hs
    cases hd : digitC c with
    | true =>
      have HD : Hid _ := hd
      have HL : Hid (wlen (c :: t) = 0) := by show (if digitC c then 0 else _) = 0; rw [hd]; rfl
      clear hd
      go_enter Tryz.func114, Tryz.ntmps114
      go_wp2_with fail
      refine (isDigit_any c _).mono ?_
      rintro e u ⟨rfl, hu⟩
      have hu' := hu.symm
      subst hu'
      rw [HD.out]
      go_wp2
      go_ret
      exact ⟨ret_int (by rw [HL.out]; rfl), rfl⟩
    | false =>
      have HD : Hid _ := hd
      have HL : Hid (wlen (c :: t) = ((S (c :: t)).data.toList.takeWhile wordyC).length) := by
        unfold Hid; rw [list_S]; show (if digitC c then 0 else _) = _; rw [hd]; rfl
      clear hd
      go_enter Tryz.func114, Tryz.ntmps114
      go_wp2_with fail
      refine (isDigit_any c _).mono ?_
      rintro e u ⟨rfl, hu⟩
      have hu' := hu.symm
      subst hu'
      rw [HD.out]
      go_wp2_with fail
      refine (span_pure (S (c :: t)) 156 entersWord wordyC _ HZ.out (fun c u => inWord_any c u)).mono ?_
      rintro e u ⟨rfl, hu⟩
      have hu' := hu.symm
      subst hu'
      rw [← HL.out]
      go_wp2
      go_ret
      exact ⟨rfl, rfl⟩

set_option maxHeartbeats 2000000 in
theorem isWord_any (s : List UInt8) (w : World) (hs : s.length ≤ maxLen) :
    Calls Tryz.prog 121 #[.string (S s)] w fun e w' => e = .returned (.bool (wordB s)) ∧ w' = w := by
  cases s with
  | nil =>
    have he := S_none
    go_enter Tryz.func121, Tryz.ntmps121
    go_wp2
    go_ret
    exact ⟨rfl, rfl⟩
  | cons c t =>
    have he := S_some c t
    have hz := S_pos c t
    have HB : Hid (wordB (c :: t) = decide ((wlen (c :: t) : Int) = ((S (c :: t)).size : Int))) := by
      unfold Hid
      rw [size_S]
      have := wlen_all (c :: t)
      cases h : wordB (c :: t) with
      | true => rw [h] at this; simp only [iff_true] at this; rw [this.2]; simp
      | false =>
        rw [h] at this
        simp only [Bool.false_eq_true, iff_false, ne_eq, reduceCtorEq, not_false_eq_true, true_and] at this
        rw [eq_comm, decide_eq_false_iff_not]; omega
    have HS : Hid _ := hs
    clear hs
    go_enter Tryz.func121, Tryz.ntmps121
    go_wp2_with fail
    refine (wordLength_any (c :: t) _ HS.out).mono ?_
    rintro e u ⟨rfl, hu⟩
    have hu' := hu.symm
    subst hu'
    go_wp2
    go_ret
    exact ⟨ret_bool (by rw [HB.out]; first | rfl | simp), rfl⟩

/-- The first byte, as the walk shows a switch on it. -/
theorem headS_yes {c : UInt8} {t : List UInt8} {n : Nat} (hn : n < 256) (hz : 0 < (S (c :: t)).size) (h : c = UInt8.ofNat n) : ((((S (c :: t))[0]'hz).toNat : Int) == (n : Int)) = true := by
  rw [S_head, h, UInt8.toNat_ofNat_of_lt' hn, beq_self_eq_true]
theorem headS_no {c : UInt8} {t : List UInt8} {n : Nat} (hn : n < 256) (hz : 0 < (S (c :: t)).size) (h : ¬ c = UInt8.ofNat n) : ((((S (c :: t))[0]'hz).toNat : Int) == (n : Int)) = false := by
  rw [S_head, beq_eq_false_iff_ne]
  intro e
  refine h (UInt8.toNat_inj.1 ?_)
  rw [UInt8.toNat_ofNat_of_lt' hn]; omega
end Go.Proofs.YtepfniiojjefhaaGreatDoor
namespace Go.Proofs.YtepfniiojjefhaaGreatDoor
open Go.RowKit Go.Proofs

set_option maxHeartbeats 2000000 in
theorem unit_any (s : List UInt8) (w : World) :
    Calls Tryz.prog 158 #[.string (S s)] w fun e w' => e = .returned (.int .i64 ((timesM s).1 : Nat)) ∧ w' = w := by
  cases s with
  | nil =>
    have he := S_none
    go_enter Tryz.func158, Tryz.ntmps158
    go_wp2
    go_ret
    exact ⟨rfl, rfl⟩
  | cons c t =>
    have he := S_some c t
    have hz := S_pos c t
    have e0 : timesM (c :: t) = if c = 75 ∨ c = 107 then (1024, t) else if c = 77 ∨ c = 109 then (1048576, t) else (1, c :: t) := rfl
    by_cases h1 : c = 75
    · have HT : Hid ((timesM (c :: t)).1 = 1024) := by unfold Hid; rw [e0, if_pos (Or.inl h1)]
      have q1 := headS_yes (n := 75) (by decide) hz h1
      clear e0 h1
      go_enter Tryz.func158, Tryz.ntmps158
      go_wp2
      go_ret
      exact ⟨ret_int (by rw [HT.out]; rfl), rfl⟩
    have q1 := headS_no (n := 75) (by decide) hz h1
    by_cases h2 : c = 107
    · have HT : Hid ((timesM (c :: t)).1 = 1024) := by unfold Hid; rw [e0, if_pos (Or.inr h2)]
      have q2 := headS_yes (n := 107) (by decide) hz h2
      clear e0 h1 h2
      go_enter Tryz.func158, Tryz.ntmps158
      go_wp2
      go_ret
      exact ⟨ret_int (by rw [HT.out]; rfl), rfl⟩
    have q2 := headS_no (n := 107) (by decide) hz h2
    have e1 : timesM (c :: t) = if c = 77 ∨ c = 109 then (1048576, t) else (1, c :: t) := by rw [e0, if_neg (fun h => h.elim h1 h2)]
    clear e0
    by_cases h3 : c = 77
    · have HT : Hid ((timesM (c :: t)).1 = 1048576) := by unfold Hid; rw [e1, if_pos (Or.inl h3)]
      have q3 := headS_yes (n := 77) (by decide) hz h3
      clear e1 h1 h2 h3
      go_enter Tryz.func158, Tryz.ntmps158
      go_wp2
      go_ret
      exact ⟨ret_int (by rw [HT.out]; rfl), rfl⟩
    have q3 := headS_no (n := 77) (by decide) hz h3
    by_cases h4 : c = 109
    · have HT : Hid ((timesM (c :: t)).1 = 1048576) := by unfold Hid; rw [e1, if_pos (Or.inr h4)]
      have q4 := headS_yes (n := 109) (by decide) hz h4
      clear e1 h1 h2 h3 h4
      go_enter Tryz.func158, Tryz.ntmps158
      go_wp2
      go_ret
      exact ⟨ret_int (by rw [HT.out]; rfl), rfl⟩
    have q4 := headS_no (n := 109) (by decide) hz h4
    have HT : Hid ((timesM (c :: t)).1 = 1) := by unfold Hid; rw [e1, if_neg (fun h => h.elim h3 h4)]
    clear e1 h1 h2 h3 h4
    go_enter Tryz.func158, Tryz.ntmps158
    go_wp2
    go_ret
    exact ⟨ret_int (by rw [HT.out]; rfl), rfl⟩
end Go.Proofs.YtepfniiojjefhaaGreatDoor
namespace Go.Proofs.YtepfniiojjefhaaGreatDoor
open Go.RowKit

/- Numbers. -/
theorem decV_snoc (l : List UInt8) (c : UInt8) : decV (l ++ [c]) = 10 * decV l + (c.toNat - 48) := by simp [decV]
/- Quotes. -/
/-- What says nothing, whatever is behind it. -/
def Sil (b : List UInt8) : Prop := ∀ r, silM (b ++ r) = silM r
def between (b : List UInt8) : Prop := Sil b ∧ ∃ c u, b = c :: u ∧ wordyC c = false
/- Join. -/
end Go.Proofs.YtepfniiojjefhaaGreatDoor
namespace Go.Proofs.YtepfniiojjefhaaGreatDoor
open Go.RowKit Go.Proofs

/-- The number of digits, up to just above the bound. -/
def numC (l : List UInt8) : Nat := min (decV l) 2147483648
theorem numC_snoc (l : List UInt8) (c : UInt8) : numC (l ++ [c]) = min (numC l * 10 + (c.toNat - 48)) 2147483648 := by unfold numC; rw [decV_snoc]; omega
theorem numC_le (l : List UInt8) : numC l ≤ 2147483648 := by unfold numC; omega

set_option maxHeartbeats 2000000 in
theorem numStep_yes (b : Nat) (c : UInt8) (v : Nat) (w : World) (hb : Box w b (.int .i64 v) 3) (hv : v ≤ 2147483648) (hc : digitC c = true) :
    Calls Tryz.prog 157 #[.int .u8 c.toNat, .pointer (some ⟨b, 0, none⟩)] w fun e w' => e = .returned (.bool true) ∧ Box w' b (.int .i64 (min (v * 10 + (c.toNat - 48)) 2147483648 : Nat)) 3 ∧ But b w w' := by
  have h1 := hb.cell
  have h2 := hb.free
  have HC : Hid _ := hc
  have hc' : 48 ≤ c.toNat ∧ c.toNat ≤ 57 := by unfold digitC at hc; simpa using hc
  obtain ⟨c1, c2⟩ := hc'
  have c3 : (48 : Int) ≤ (c.toNat : Int) := by omega
  have c4 : (c.toNat : Int) ≤ 57 := by omega
  have HB : Hid _ := hb
  clear hc hb
  go_enter Tryz.func157, Tryz.ntmps157
  go_wp2_with fail
  refine (isDigit_any c _).mono ?_
  rintro e u ⟨rfl, hu⟩
  have hu' := hu.symm
  subst hu'
  rw [HC.out]
  go_wp2
  · go_ret
    refine ⟨rfl, ?_, But.set _ _⟩
    have e : ((min (v * 10 + (c.toNat - 48)) 2147483648 : Nat) : Int) = 2147483648 := by omega
    rw [e]
    exact Box.set HB.out _
  · go_ret
    refine ⟨rfl, ?_, But.set _ _⟩
    have e : ((min (v * 10 + (c.toNat - 48)) 2147483648 : Nat) : Int) = (v : Int) * 10 + ((c.toNat : Int) - 48) := by omega
    rw [e]
    exact Box.set HB.out _

set_option maxHeartbeats 2000000 in
theorem numStep_no (b : Nat) (c : UInt8) (w : World) (hc : digitC c = false) :
    Calls Tryz.prog 157 #[.int .u8 c.toNat, .pointer (some ⟨b, 0, none⟩)] w fun e w' => e = .returned (.bool false) ∧ w' = w := by
  have HC : Hid _ := hc
  clear hc
  go_enter Tryz.func157, Tryz.ntmps157
  go_wp2_with fail
  refine (isDigit_any c _).mono ?_
  rintro e u ⟨rfl, hu⟩
  have hu' := hu.symm
  subst hu'
  rw [HC.out]
  go_wp2
  go_ret
  exact ⟨rfl, rfl⟩
theorem entersNum : ∀ args w, (callFunc 157 args).run Tryz.prog w = .ok (.enter 157 args) w := enters_of Tryz.func157 (by kernel_rfl) rfl

theorem span_num (s : List UInt8) (b : Nat) (w : World) (hs : s.length ≤ maxLen) (hb : Box w b (.int .i64 0) 3) :
    Calls Tryz.prog 109 #[.string (S s), .func (.func 157) #[] #[.pointer (some ⟨b, 0, none⟩)]] w fun e w' => e = .returned (.int .i64 ((s.takeWhile digitC).length : Nat)) ∧ Box w' b (.int .i64 (numC (s.takeWhile digitC) : Nat)) 3 ∧ But b w w' := by
  have hle : (s.takeWhile digitC).length ≤ (S s).size := by rw [size_S]; exact (List.takeWhile_prefix digitC).length_le
  have htk : s.take (s.takeWhile digitC).length = s.takeWhile digitC := by
    have := List.takeWhile_append_dropWhile (p := digitC) (l := s)
    conv => lhs; arg 2; rw [← this]
    rw [List.take_left]
  refine (span_any (S s) 157 _ entersNum (s.takeWhile digitC).length (fun k u => Box u b (.int .i64 (numC (s.take k) : Nat)) 3 ∧ But b w u) w (by rw [size_S]; exact hs) hle ?_ ?_ ⟨hb, But.refl _ _⟩).mono ?_
  · intro k h u hk ⟨hB, hU⟩
    have hk' : k < s.length := by rw [size_S] at h; exact h
    have hg : (S s)[k] = s[k] := S_get s k h hk'
    have hd : digitC (S s)[k] = true := by rw [hg]; exact takeW_yes hk' hk
    have e1 : s.take (k + 1) = s.take k ++ [(S s)[k]] := by rw [hg]; exact List.take_succ_eq_append_getElem hk'
    refine (numStep_yes b (S s)[k] (numC (s.take k)) u hB (numC_le _) hd).mono ?_
    rintro e u' ⟨rfl, h1, h2⟩
    refine ⟨rfl, ?_, hU.trans h2⟩
    show Box u' b (.int .i64 (numC (s.take (k + 1)) : Nat)) _
    rw [e1, numC_snoc]
    exact h1
  · intro h u ⟨hB, hU⟩
    have hk' : (s.takeWhile digitC).length < s.length := by rw [size_S] at h; exact h
    have hg : (S s)[(s.takeWhile digitC).length] = s[(s.takeWhile digitC).length] := S_get s _ h hk'
    refine (numStep_no b (S s)[(s.takeWhile digitC).length] u (by rw [hg]; exact takeW_no hk')).mono ?_
    rintro e u' ⟨rfl, rfl⟩
    exact ⟨rfl, hB, hU⟩
  · rintro e u ⟨rfl, h1, h2⟩
    exact ⟨rfl, by rw [← htk]; simpa [htk] using h1, h2⟩

theorem times_cases (r : List UInt8) : (timesM r = (1, r)) ∨ ∃ c t m, r = c :: t ∧ timesM r = (m, t) ∧ (m = 1024 ∨ m = 1048576) := by
  cases r with
  | nil => exact Or.inl rfl
  | cons c t =>
    have e0 : timesM (c :: t) = if c = 75 ∨ c = 107 then (1024, t) else if c = 77 ∨ c = 109 then (1048576, t) else (1, c :: t) := rfl
    rw [e0]
    split
    · exact Or.inr ⟨c, t, 1024, rfl, rfl, Or.inl rfl⟩
    · split
      · exact Or.inr ⟨c, t, 1048576, rfl, rfl, Or.inr rfl⟩
      · exact Or.inl rfl
set_option maxRecDepth 100000 in
/-- What numM comes to, by the capped count. -/
theorem numM_by {s r2 : List UInt8} {m : Nat} (ht : timesM (s.dropWhile digitC) = (m, r2)) (hm : m = 1 ∨ m = 1024 ∨ m = 1048576) :
    numM s = if headW r2 then .error 3 else if 2147483647 < numC (s.takeWhile digitC) * m then .error 6 else .ok ({ kind := 3, text := [], num := (numC (s.takeWhile digitC) * m : Nat) }, r2) := by
  unfold numM
  rw [ht]
  simp only
  split
  · rfl
  · have hc : numC (s.takeWhile digitC) = min (decV (s.takeWhile digitC)) 2147483648 := rfl
    rw [hc]
    generalize decV (s.takeWhile digitC) = x
    have hm1 : 1 ≤ m := by rcases hm with rfl | rfl | rfl <;> decide
    by_cases hx : x ≤ 2147483648
    · rw [Nat.min_eq_left hx]
    · have h1 : 2147483647 < x * m := Nat.lt_of_lt_of_le (show 2147483647 < x by omega) (Nat.le_mul_of_pos_right x hm1)
      have h2 : 2147483647 < 2147483648 * m := Nat.lt_of_lt_of_le (show 2147483647 < 2147483648 by omega) (Nat.le_mul_of_pos_right _ hm1)
      rw [Nat.min_eq_right (by omega), if_pos h1, if_pos h2]
theorem drop_takeW (p : UInt8 → Bool) (s : List UInt8) : s.drop (s.takeWhile p).length = s.dropWhile p := by
  have := List.takeWhile_append_dropWhile (p := p) (l := s)
  conv => lhs; arg 2; rw [← this]
  rw [List.drop_left]
theorem headW_at {s r2 : List UInt8} {n : Nat} (hn : s.drop n = r2) (c : UInt8) (t : List UInt8) (h2 : r2 = c :: t) (h : n < (S s).size) : (S s)[n] = c := by
  rw [size_S] at h
  have := S_get s n (by rw [size_S]; exact h) h
  rw [this]
  rw [h2, List.drop_eq_getElem_cons h] at hn
  exact (List.cons.inj hn).1

set_option maxHeartbeats 8000000 in
set_option maxRecDepth 100000 in
theorem readNumber_1 (s r2 : List UInt8) (w : World) (hs : s.length ≤ 2000) (ht : timesM (s.dropWhile digitC) = (1, r2)) (hl : s.length = (s.takeWhile digitC).length + 0 + r2.length) (hr2 : s.drop ((s.takeWhile digitC).length + 0) = r2) :
    Calls Tryz.prog 117 #[.string (S s)] w (Tk w s (numM s)) := by
  have HN : Hid _ := numM_by ht (by simp)
  obtain ⟨d, hd⟩ : ∃ d, d = s.takeWhile digitC := ⟨_, rfl⟩
  rw [← hd] at hl hr2
  have hsz : (S s).size = d.length + 0 + r2.length := by rw [size_S]; exact hl
  have HZ : Hid (s.length ≤ maxLen) := by unfold Hid maxLen; omega
  have HX : Hid ((S s).extract d.length (S s).size = S (s.dropWhile digitC)) := by unfold Hid; rw [S_drop, hd, drop_takeW]
  have HU : Hid ((timesM (s.dropWhile digitC)).1 = 1) := by unfold Hid; rw [ht]
  have hs2 : (S s).size ≤ 2000 := by rw [size_S]; exact hs
  have HSZ : Hid _ := hsz
  have HD : Hid _ := hd
  have HR : Hid _ := hr2
  have HL : Hid _ := hl
  obtain ⟨v, hv⟩ : ∃ v, v = numC d := ⟨_, rfl⟩
  have hvb : v ≤ 2147483648 := by rw [hv]; exact numC_le d
  have HV : Hid _ := hv
  have i1 : (0 : Int) ≤ (d.length : Int) := by omega
  have i2 : (d.length : Int) ≤ ((S s).size : Int) := by omega
  have hdl : d.length ≤ 2000 := by rw [size_S] at hsz; omega
  obtain ⟨W0, hW0⟩ : ∃ W0, W0 = (w.alloc (.cells #[.int .i64 0, .string ⟨#[]⟩, .int .i64 0] 149)).alloc (.cells #[.int .i64 0] 3) := ⟨_, rfl⟩
  have HT0 : Hid (TokB W0 w.heap.size zeroT) := by unfold Hid; rw [hW0]; exact (tokB_new w zeroT).next ((Below.refl _ _).alloc (Nat.le_refl _) _)
  have HB0 : Hid (Box W0 (w.heap.size + 1) (.int .i64 0) 3) := by unfold Hid; rw [hW0]; have := Box.new (w.alloc (.cells #[.int .i64 0, .string ⟨#[]⟩, .int .i64 0] 149)) (.int .i64 0) 3; simpa using this
  have HE0 : Hid (Below w.heap.size w W0) := by unfold Hid; rw [hW0]; exact ((Below.refl _ _).alloc (Nat.le_refl _) _).alloc (by simp) _
  have HW : Hid _ := hW0
  clear hW0 hd hv hr2 hl ht hs hsz
  go_enter Tryz.func117, Tryz.ntmps117
  go_wp2_with fail
  rw [← HW.out]
  refine (span_num s (w.heap.size + 1) _ HZ.out HB0.out).mono ?_
  rintro e u ⟨rfl, h1, h2⟩
  rw [← HD.out, ← HV.out] at h1
  rw [← HD.out]
  have hT : TokB u w.heap.size zeroT := HT0.out.but h2 (by omega)
  have HE : Hid (Below w.heap.size w u) := HE0.out.trans (h2.below (by omega) HE0.out.size)
  have hc := h1.cell
  have hf := h1.free
  have f0 := hT.free 0
  have f1 := hT.free 1
  have f2 := hT.free 2
  have k0 : u.cell? ⟨w.heap.size, 0, none⟩ = some (.int .i64 0) := hT.c0
  have k1 : u.cell? ⟨w.heap.size, 1, none⟩ = some (.string ⟨#[]⟩) := hT.c1
  have k2 : u.cell? ⟨w.heap.size, 2, none⟩ = some (.int .i64 0) := hT.c2
  clear h1 h2 hT
  go_wp2_with fail
  rw [HX.out]
  refine (unit_any (s.dropWhile digitC) _).mono ?_
  rintro e u' ⟨rfl, hu⟩
  have hu' := hu.symm
  subst hu'
  rw [HU.out]
  cases r2 with
  | nil =>
    have HQ : Hid (headW [] = false) := rfl
    have hnl : ¬ ((d.length : Nat) : Int) < ((S s).size : Int) := by rw [HSZ.out]; simp
    by_cases hb : 2147483647 < v * 1
    · have HM : Hid (numM s = .error 6) := by unfold Hid; rw [HN.out, HQ.out, ← HD.out, ← HV.out, if_neg (by simp), if_pos hb]
      have hbi : (2147483647 : Int) < (v : Int) := by omega
      clear hb
      go_wp2
      exact bodyPost_ret (v := .tuple #[.agg #[.int .i64 0, .string ⟨#[]⟩, .int .i64 0], .int .i64 0, .int .i64 6]) (by simp [results, Tryz.results117, go_sem, k0, k1, k2]) rfl (by rw [HM.out]; exact ⟨rfl, by first | exact HE.out | (repeat (first | exact HE.out | refine Below.setCell ?_ (by simp) _))⟩)
    · have HM : Hid (numM s = .ok ({ kind := 3, text := [], num := (v * 1 : Nat) }, [])) := by unfold Hid; rw [HN.out, HQ.out, ← HD.out, ← HV.out, if_neg (by simp), if_neg hb]
      have hbi : ¬ (2147483647 : Int) < (v : Int) := by omega
      clear hb
      have HK : Hid (((s.length - ([] : List UInt8).length : Nat) : Int) = ((d.length : Nat) : Int)) := by unfold Hid; have := HL.out; omega
      go_wp2
      exact bodyPost_ret (v := .tuple #[.agg #[.int .i64 3, .string ⟨#[]⟩, .int .i64 ((v : Int))], .int .i64 ((d.length : Nat) : Int), .int .i64 0]) (by simp [results, Tryz.results117, go_sem, k0, k1, k2]) rfl (by rw [HM.out]; exact ⟨by rw [HK.out]; simp [tokV, S], by first | exact HE.out | (repeat (first | exact HE.out | refine Below.setCell ?_ (by simp) _))⟩)
  | cons c t =>
    have hlt : d.length < (S s).size := by rw [HSZ.out]; simp
    have HG : Hid ((S s)[d.length]'hlt = c) := headW_at HR.out c t rfl hlt
    cases hq : wordyC c with
    | true =>
      have HM : Hid (numM s = .error 3) := by unfold Hid; rw [HN.out, if_pos (show headW (c :: t) = true from hq)]
      have HC : Hid _ := hq
      clear hq
      go_wp2_with fail
      refine (inWord_any ((S s)[d.length]'hlt) _).mono ?_
      rintro e u' ⟨rfl, hu⟩
      have hu' := hu.symm
      subst hu'
      rw [HG.out, HC.out]
      go_wp2
      exact bodyPost_ret (v := .tuple #[.agg #[.int .i64 0, .string ⟨#[]⟩, .int .i64 0], .int .i64 0, .int .i64 3]) (by simp [results, Tryz.results117, go_sem, k0, k1, k2]) rfl (by rw [HM.out]; exact ⟨rfl, by first | exact HE.out | (repeat (first | exact HE.out | refine Below.setCell ?_ (by simp) _))⟩)
    | false =>
      have HQ : Hid (headW (c :: t) = false) := hq
      have HC : Hid _ := hq
      clear hq
      by_cases hb : 2147483647 < v * 1
      · have HM : Hid (numM s = .error 6) := by unfold Hid; rw [HN.out, HQ.out, ← HD.out, ← HV.out, if_neg (by simp), if_pos hb]
        have hbi : (2147483647 : Int) < (v : Int) := by omega
        clear hb
        go_wp2_with fail
        refine (inWord_any ((S s)[d.length]'hlt) _).mono ?_
        rintro e u' ⟨rfl, hu⟩
        have hu' := hu.symm
        subst hu'
        rw [HG.out, HC.out]
        go_wp2
        exact bodyPost_ret (v := .tuple #[.agg #[.int .i64 0, .string ⟨#[]⟩, .int .i64 0], .int .i64 0, .int .i64 6]) (by simp [results, Tryz.results117, go_sem, k0, k1, k2]) rfl (by rw [HM.out]; exact ⟨rfl, by first | exact HE.out | (repeat (first | exact HE.out | refine Below.setCell ?_ (by simp) _))⟩)
      · have HM : Hid (numM s = .ok ({ kind := 3, text := [], num := (v * 1 : Nat) }, (c :: t))) := by unfold Hid; rw [HN.out, HQ.out, ← HD.out, ← HV.out, if_neg (by simp), if_neg hb]
        have hbi : ¬ (2147483647 : Int) < (v : Int) := by omega
        clear hb
        have HK : Hid (((s.length - ((c :: t) : List UInt8).length : Nat) : Int) = ((d.length : Nat) : Int)) := by unfold Hid; have := HL.out; omega
        go_wp2_with fail
        refine (inWord_any ((S s)[d.length]'hlt) _).mono ?_
        rintro e u' ⟨rfl, hu⟩
        have hu' := hu.symm
        subst hu'
        rw [HG.out, HC.out]
        go_wp2
        exact bodyPost_ret (v := .tuple #[.agg #[.int .i64 3, .string ⟨#[]⟩, .int .i64 ((v : Int))], .int .i64 ((d.length : Nat) : Int), .int .i64 0]) (by simp [results, Tryz.results117, go_sem, k0, k1, k2]) rfl (by rw [HM.out]; exact ⟨by rw [HK.out]; simp [tokV, S], by first | exact HE.out | (repeat (first | exact HE.out | refine Below.setCell ?_ (by simp) _))⟩)

set_option maxHeartbeats 8000000 in
set_option maxRecDepth 100000 in
theorem readNumber_1024 (s r2 : List UInt8) (w : World) (hs : s.length ≤ 2000) (ht : timesM (s.dropWhile digitC) = (1024, r2)) (hl : s.length = (s.takeWhile digitC).length + 1 + r2.length) (hr2 : s.drop ((s.takeWhile digitC).length + 1) = r2) :
    Calls Tryz.prog 117 #[.string (S s)] w (Tk w s (numM s)) := by
  have HN : Hid _ := numM_by ht (by simp)
  obtain ⟨d, hd⟩ : ∃ d, d = s.takeWhile digitC := ⟨_, rfl⟩
  rw [← hd] at hl hr2
  have hsz : (S s).size = d.length + 1 + r2.length := by rw [size_S]; exact hl
  have HZ : Hid (s.length ≤ maxLen) := by unfold Hid maxLen; omega
  have HX : Hid ((S s).extract d.length (S s).size = S (s.dropWhile digitC)) := by unfold Hid; rw [S_drop, hd, drop_takeW]
  have HU : Hid ((timesM (s.dropWhile digitC)).1 = 1024) := by unfold Hid; rw [ht]
  have hs2 : (S s).size ≤ 2000 := by rw [size_S]; exact hs
  have HSZ : Hid _ := hsz
  have HD : Hid _ := hd
  have HR : Hid _ := hr2
  have HL : Hid _ := hl
  obtain ⟨v, hv⟩ : ∃ v, v = numC d := ⟨_, rfl⟩
  have hvb : v ≤ 2147483648 := by rw [hv]; exact numC_le d
  have HV : Hid _ := hv
  have i1 : (0 : Int) ≤ (d.length : Int) := by omega
  have i2 : (d.length : Int) ≤ ((S s).size : Int) := by omega
  have hdl : d.length ≤ 2000 := by rw [size_S] at hsz; omega
  obtain ⟨W0, hW0⟩ : ∃ W0, W0 = (w.alloc (.cells #[.int .i64 0, .string ⟨#[]⟩, .int .i64 0] 149)).alloc (.cells #[.int .i64 0] 3) := ⟨_, rfl⟩
  have HT0 : Hid (TokB W0 w.heap.size zeroT) := by unfold Hid; rw [hW0]; exact (tokB_new w zeroT).next ((Below.refl _ _).alloc (Nat.le_refl _) _)
  have HB0 : Hid (Box W0 (w.heap.size + 1) (.int .i64 0) 3) := by unfold Hid; rw [hW0]; have := Box.new (w.alloc (.cells #[.int .i64 0, .string ⟨#[]⟩, .int .i64 0] 149)) (.int .i64 0) 3; simpa using this
  have HE0 : Hid (Below w.heap.size w W0) := by unfold Hid; rw [hW0]; exact ((Below.refl _ _).alloc (Nat.le_refl _) _).alloc (by simp) _
  have HW : Hid _ := hW0
  clear hW0 hd hv hr2 hl ht hs hsz
  go_enter Tryz.func117, Tryz.ntmps117
  go_wp2_with fail
  rw [← HW.out]
  refine (span_num s (w.heap.size + 1) _ HZ.out HB0.out).mono ?_
  rintro e u ⟨rfl, h1, h2⟩
  rw [← HD.out, ← HV.out] at h1
  rw [← HD.out]
  have hT : TokB u w.heap.size zeroT := HT0.out.but h2 (by omega)
  have HE : Hid (Below w.heap.size w u) := HE0.out.trans (h2.below (by omega) HE0.out.size)
  have hc := h1.cell
  have hf := h1.free
  have f0 := hT.free 0
  have f1 := hT.free 1
  have f2 := hT.free 2
  have k0 : u.cell? ⟨w.heap.size, 0, none⟩ = some (.int .i64 0) := hT.c0
  have k1 : u.cell? ⟨w.heap.size, 1, none⟩ = some (.string ⟨#[]⟩) := hT.c1
  have k2 : u.cell? ⟨w.heap.size, 2, none⟩ = some (.int .i64 0) := hT.c2
  clear h1 h2 hT
  go_wp2_with fail
  rw [HX.out]
  refine (unit_any (s.dropWhile digitC) _).mono ?_
  rintro e u' ⟨rfl, hu⟩
  have hu' := hu.symm
  subst hu'
  rw [HU.out]
  cases r2 with
  | nil =>
    have HQ : Hid (headW [] = false) := rfl
    have hnl : ¬ ((d.length + 1 : Nat) : Int) < ((S s).size : Int) := by rw [HSZ.out]; simp
    by_cases hb : 2147483647 < v * 1024
    · have HM : Hid (numM s = .error 6) := by unfold Hid; rw [HN.out, HQ.out, ← HD.out, ← HV.out, if_neg (by simp), if_pos hb]
      have hbi : (2147483647 : Int) < (v : Int) * 1024 := by omega
      clear hb
      go_wp2
      exact bodyPost_ret (v := .tuple #[.agg #[.int .i64 0, .string ⟨#[]⟩, .int .i64 0], .int .i64 0, .int .i64 6]) (by simp [results, Tryz.results117, go_sem, k0, k1, k2]) rfl (by rw [HM.out]; exact ⟨rfl, by first | exact HE.out | (repeat (first | exact HE.out | refine Below.setCell ?_ (by simp) _))⟩)
    · have HM : Hid (numM s = .ok ({ kind := 3, text := [], num := (v * 1024 : Nat) }, [])) := by unfold Hid; rw [HN.out, HQ.out, ← HD.out, ← HV.out, if_neg (by simp), if_neg hb]
      have hbi : ¬ (2147483647 : Int) < (v : Int) * 1024 := by omega
      clear hb
      have HK : Hid (((s.length - ([] : List UInt8).length : Nat) : Int) = ((d.length + 1 : Nat) : Int)) := by unfold Hid; have := HL.out; omega
      go_wp2
      exact bodyPost_ret (v := .tuple #[.agg #[.int .i64 3, .string ⟨#[]⟩, .int .i64 ((v : Int) * 1024)], .int .i64 ((d.length + 1 : Nat) : Int), .int .i64 0]) (by simp [results, Tryz.results117, go_sem, k0, k1, k2]) rfl (by rw [HM.out]; exact ⟨by rw [HK.out]; simp [tokV, S], by first | exact HE.out | (repeat (first | exact HE.out | refine Below.setCell ?_ (by simp) _))⟩)
  | cons c t =>
    have hlt : d.length + 1 < (S s).size := by rw [HSZ.out]; simp
    have HG : Hid ((S s)[d.length + 1]'hlt = c) := headW_at HR.out c t rfl hlt
    cases hq : wordyC c with
    | true =>
      have HM : Hid (numM s = .error 3) := by unfold Hid; rw [HN.out, if_pos (show headW (c :: t) = true from hq)]
      have HC : Hid _ := hq
      clear hq
      go_wp2_with fail
      refine (inWord_any ((S s)[d.length + 1]'hlt) _).mono ?_
      rintro e u' ⟨rfl, hu⟩
      have hu' := hu.symm
      subst hu'
      rw [HG.out, HC.out]
      go_wp2
      exact bodyPost_ret (v := .tuple #[.agg #[.int .i64 0, .string ⟨#[]⟩, .int .i64 0], .int .i64 0, .int .i64 3]) (by simp [results, Tryz.results117, go_sem, k0, k1, k2]) rfl (by rw [HM.out]; exact ⟨rfl, by first | exact HE.out | (repeat (first | exact HE.out | refine Below.setCell ?_ (by simp) _))⟩)
    | false =>
      have HQ : Hid (headW (c :: t) = false) := hq
      have HC : Hid _ := hq
      clear hq
      by_cases hb : 2147483647 < v * 1024
      · have HM : Hid (numM s = .error 6) := by unfold Hid; rw [HN.out, HQ.out, ← HD.out, ← HV.out, if_neg (by simp), if_pos hb]
        have hbi : (2147483647 : Int) < (v : Int) * 1024 := by omega
        clear hb
        go_wp2_with fail
        refine (inWord_any ((S s)[d.length + 1]'hlt) _).mono ?_
        rintro e u' ⟨rfl, hu⟩
        have hu' := hu.symm
        subst hu'
        rw [HG.out, HC.out]
        go_wp2
        exact bodyPost_ret (v := .tuple #[.agg #[.int .i64 0, .string ⟨#[]⟩, .int .i64 0], .int .i64 0, .int .i64 6]) (by simp [results, Tryz.results117, go_sem, k0, k1, k2]) rfl (by rw [HM.out]; exact ⟨rfl, by first | exact HE.out | (repeat (first | exact HE.out | refine Below.setCell ?_ (by simp) _))⟩)
      · have HM : Hid (numM s = .ok ({ kind := 3, text := [], num := (v * 1024 : Nat) }, (c :: t))) := by unfold Hid; rw [HN.out, HQ.out, ← HD.out, ← HV.out, if_neg (by simp), if_neg hb]
        have hbi : ¬ (2147483647 : Int) < (v : Int) * 1024 := by omega
        clear hb
        have HK : Hid (((s.length - ((c :: t) : List UInt8).length : Nat) : Int) = ((d.length + 1 : Nat) : Int)) := by unfold Hid; have := HL.out; omega
        go_wp2_with fail
        refine (inWord_any ((S s)[d.length + 1]'hlt) _).mono ?_
        rintro e u' ⟨rfl, hu⟩
        have hu' := hu.symm
        subst hu'
        rw [HG.out, HC.out]
        go_wp2
        exact bodyPost_ret (v := .tuple #[.agg #[.int .i64 3, .string ⟨#[]⟩, .int .i64 ((v : Int) * 1024)], .int .i64 ((d.length + 1 : Nat) : Int), .int .i64 0]) (by simp [results, Tryz.results117, go_sem, k0, k1, k2]) rfl (by rw [HM.out]; exact ⟨by rw [HK.out]; simp [tokV, S], by first | exact HE.out | (repeat (first | exact HE.out | refine Below.setCell ?_ (by simp) _))⟩)

set_option maxHeartbeats 8000000 in
set_option maxRecDepth 100000 in
theorem readNumber_1048576 (s r2 : List UInt8) (w : World) (hs : s.length ≤ 2000) (ht : timesM (s.dropWhile digitC) = (1048576, r2)) (hl : s.length = (s.takeWhile digitC).length + 1 + r2.length) (hr2 : s.drop ((s.takeWhile digitC).length + 1) = r2) :
    Calls Tryz.prog 117 #[.string (S s)] w (Tk w s (numM s)) := by
  have HN : Hid _ := numM_by ht (by simp)
  obtain ⟨d, hd⟩ : ∃ d, d = s.takeWhile digitC := ⟨_, rfl⟩
  rw [← hd] at hl hr2
  have hsz : (S s).size = d.length + 1 + r2.length := by rw [size_S]; exact hl
  have HZ : Hid (s.length ≤ maxLen) := by unfold Hid maxLen; omega
  have HX : Hid ((S s).extract d.length (S s).size = S (s.dropWhile digitC)) := by unfold Hid; rw [S_drop, hd, drop_takeW]
  have HU : Hid ((timesM (s.dropWhile digitC)).1 = 1048576) := by unfold Hid; rw [ht]
  have hs2 : (S s).size ≤ 2000 := by rw [size_S]; exact hs
  have HSZ : Hid _ := hsz
  have HD : Hid _ := hd
  have HR : Hid _ := hr2
  have HL : Hid _ := hl
  obtain ⟨v, hv⟩ : ∃ v, v = numC d := ⟨_, rfl⟩
  have hvb : v ≤ 2147483648 := by rw [hv]; exact numC_le d
  have HV : Hid _ := hv
  have i1 : (0 : Int) ≤ (d.length : Int) := by omega
  have i2 : (d.length : Int) ≤ ((S s).size : Int) := by omega
  have hdl : d.length ≤ 2000 := by rw [size_S] at hsz; omega
  obtain ⟨W0, hW0⟩ : ∃ W0, W0 = (w.alloc (.cells #[.int .i64 0, .string ⟨#[]⟩, .int .i64 0] 149)).alloc (.cells #[.int .i64 0] 3) := ⟨_, rfl⟩
  have HT0 : Hid (TokB W0 w.heap.size zeroT) := by unfold Hid; rw [hW0]; exact (tokB_new w zeroT).next ((Below.refl _ _).alloc (Nat.le_refl _) _)
  have HB0 : Hid (Box W0 (w.heap.size + 1) (.int .i64 0) 3) := by unfold Hid; rw [hW0]; have := Box.new (w.alloc (.cells #[.int .i64 0, .string ⟨#[]⟩, .int .i64 0] 149)) (.int .i64 0) 3; simpa using this
  have HE0 : Hid (Below w.heap.size w W0) := by unfold Hid; rw [hW0]; exact ((Below.refl _ _).alloc (Nat.le_refl _) _).alloc (by simp) _
  have HW : Hid _ := hW0
  clear hW0 hd hv hr2 hl ht hs hsz
  go_enter Tryz.func117, Tryz.ntmps117
  go_wp2_with fail
  rw [← HW.out]
  refine (span_num s (w.heap.size + 1) _ HZ.out HB0.out).mono ?_
  rintro e u ⟨rfl, h1, h2⟩
  rw [← HD.out, ← HV.out] at h1
  rw [← HD.out]
  have hT : TokB u w.heap.size zeroT := HT0.out.but h2 (by omega)
  have HE : Hid (Below w.heap.size w u) := HE0.out.trans (h2.below (by omega) HE0.out.size)
  have hc := h1.cell
  have hf := h1.free
  have f0 := hT.free 0
  have f1 := hT.free 1
  have f2 := hT.free 2
  have k0 : u.cell? ⟨w.heap.size, 0, none⟩ = some (.int .i64 0) := hT.c0
  have k1 : u.cell? ⟨w.heap.size, 1, none⟩ = some (.string ⟨#[]⟩) := hT.c1
  have k2 : u.cell? ⟨w.heap.size, 2, none⟩ = some (.int .i64 0) := hT.c2
  clear h1 h2 hT
  go_wp2_with fail
  rw [HX.out]
  refine (unit_any (s.dropWhile digitC) _).mono ?_
  rintro e u' ⟨rfl, hu⟩
  have hu' := hu.symm
  subst hu'
  rw [HU.out]
  cases r2 with
  | nil =>
    have HQ : Hid (headW [] = false) := rfl
    have hnl : ¬ ((d.length + 1 : Nat) : Int) < ((S s).size : Int) := by rw [HSZ.out]; simp
    by_cases hb : 2147483647 < v * 1048576
    · have HM : Hid (numM s = .error 6) := by unfold Hid; rw [HN.out, HQ.out, ← HD.out, ← HV.out, if_neg (by simp), if_pos hb]
      have hbi : (2147483647 : Int) < (v : Int) * 1048576 := by omega
      clear hb
      go_wp2
      exact bodyPost_ret (v := .tuple #[.agg #[.int .i64 0, .string ⟨#[]⟩, .int .i64 0], .int .i64 0, .int .i64 6]) (by simp [results, Tryz.results117, go_sem, k0, k1, k2]) rfl (by rw [HM.out]; exact ⟨rfl, by first | exact HE.out | (repeat (first | exact HE.out | refine Below.setCell ?_ (by simp) _))⟩)
    · have HM : Hid (numM s = .ok ({ kind := 3, text := [], num := (v * 1048576 : Nat) }, [])) := by unfold Hid; rw [HN.out, HQ.out, ← HD.out, ← HV.out, if_neg (by simp), if_neg hb]
      have hbi : ¬ (2147483647 : Int) < (v : Int) * 1048576 := by omega
      clear hb
      have HK : Hid (((s.length - ([] : List UInt8).length : Nat) : Int) = ((d.length + 1 : Nat) : Int)) := by unfold Hid; have := HL.out; omega
      go_wp2
      exact bodyPost_ret (v := .tuple #[.agg #[.int .i64 3, .string ⟨#[]⟩, .int .i64 ((v : Int) * 1048576)], .int .i64 ((d.length + 1 : Nat) : Int), .int .i64 0]) (by simp [results, Tryz.results117, go_sem, k0, k1, k2]) rfl (by rw [HM.out]; exact ⟨by rw [HK.out]; simp [tokV, S], by first | exact HE.out | (repeat (first | exact HE.out | refine Below.setCell ?_ (by simp) _))⟩)
  | cons c t =>
    have hlt : d.length + 1 < (S s).size := by rw [HSZ.out]; simp
    have HG : Hid ((S s)[d.length + 1]'hlt = c) := headW_at HR.out c t rfl hlt
    cases hq : wordyC c with
    | true =>
      have HM : Hid (numM s = .error 3) := by unfold Hid; rw [HN.out, if_pos (show headW (c :: t) = true from hq)]
      have HC : Hid _ := hq
      clear hq
      go_wp2_with fail
      refine (inWord_any ((S s)[d.length + 1]'hlt) _).mono ?_
      rintro e u' ⟨rfl, hu⟩
      have hu' := hu.symm
      subst hu'
      rw [HG.out, HC.out]
      go_wp2
      exact bodyPost_ret (v := .tuple #[.agg #[.int .i64 0, .string ⟨#[]⟩, .int .i64 0], .int .i64 0, .int .i64 3]) (by simp [results, Tryz.results117, go_sem, k0, k1, k2]) rfl (by rw [HM.out]; exact ⟨rfl, by first | exact HE.out | (repeat (first | exact HE.out | refine Below.setCell ?_ (by simp) _))⟩)
    | false =>
      have HQ : Hid (headW (c :: t) = false) := hq
      have HC : Hid _ := hq
      clear hq
      by_cases hb : 2147483647 < v * 1048576
      · have HM : Hid (numM s = .error 6) := by unfold Hid; rw [HN.out, HQ.out, ← HD.out, ← HV.out, if_neg (by simp), if_pos hb]
        have hbi : (2147483647 : Int) < (v : Int) * 1048576 := by omega
        clear hb
        go_wp2_with fail
        refine (inWord_any ((S s)[d.length + 1]'hlt) _).mono ?_
        rintro e u' ⟨rfl, hu⟩
        have hu' := hu.symm
        subst hu'
        rw [HG.out, HC.out]
        go_wp2
        exact bodyPost_ret (v := .tuple #[.agg #[.int .i64 0, .string ⟨#[]⟩, .int .i64 0], .int .i64 0, .int .i64 6]) (by simp [results, Tryz.results117, go_sem, k0, k1, k2]) rfl (by rw [HM.out]; exact ⟨rfl, by first | exact HE.out | (repeat (first | exact HE.out | refine Below.setCell ?_ (by simp) _))⟩)
      · have HM : Hid (numM s = .ok ({ kind := 3, text := [], num := (v * 1048576 : Nat) }, (c :: t))) := by unfold Hid; rw [HN.out, HQ.out, ← HD.out, ← HV.out, if_neg (by simp), if_neg hb]
        have hbi : ¬ (2147483647 : Int) < (v : Int) * 1048576 := by omega
        clear hb
        have HK : Hid (((s.length - ((c :: t) : List UInt8).length : Nat) : Int) = ((d.length + 1 : Nat) : Int)) := by unfold Hid; have := HL.out; omega
        go_wp2_with fail
        refine (inWord_any ((S s)[d.length + 1]'hlt) _).mono ?_
        rintro e u' ⟨rfl, hu⟩
        have hu' := hu.symm
        subst hu'
        rw [HG.out, HC.out]
        go_wp2
        exact bodyPost_ret (v := .tuple #[.agg #[.int .i64 3, .string ⟨#[]⟩, .int .i64 ((v : Int) * 1048576)], .int .i64 ((d.length + 1 : Nat) : Int), .int .i64 0]) (by simp [results, Tryz.results117, go_sem, k0, k1, k2]) rfl (by rw [HM.out]; exact ⟨by rw [HK.out]; simp [tokV, S], by first | exact HE.out | (repeat (first | exact HE.out | refine Below.setCell ?_ (by simp) _))⟩)

theorem readNumber_any (s : List UInt8) (w : World) (hs : s.length ≤ 2000) :
    Calls Tryz.prog 117 #[.string (S s)] w (Tk w s (numM s)) := by
  have hsp := congrArg List.length (List.takeWhile_append_dropWhile (p := digitC) (l := s))
  rw [List.length_append] at hsp
  have hdr := drop_takeW digitC s
  rcases times_cases (s.dropWhile digitC) with h | ⟨c, t, m, h1, h2, h3⟩
  · exact readNumber_1 s _ w hs h (by omega) hdr
  · have e1 : s.drop ((s.takeWhile digitC).length + 1) = t := by rw [← List.drop_drop, hdr, h1]; rfl
    have e2 : s.length = (s.takeWhile digitC).length + 1 + t.length := by rw [h1, List.length_cons] at hsp; omega
    rcases h3 with rfl | rfl
    · exact readNumber_1024 s t w hs h2 e2 e1
    · exact readNumber_1048576 s t w hs h2 e2 e1
end Go.Proofs.YtepfniiojjefhaaGreatDoor
namespace Go.Proofs.YtepfniiojjefhaaGreatDoor
open Go.RowKit

theorem infoB8 : (Tryz.prog.info? 5).map (fun i => (i.zero, i.size, i.bytes)) = some (some (.int .u8 0), 1, 1) := by kernel_rfl
def bytesC (l : List UInt8) : List Value := l.map fun c => .int .u8 c.toNat
theorem bytesC_snoc (l : List UInt8) (c : UInt8) (x : Int) (hx : (c.toNat : Int) = x) : bytesC (l ++ [c]) = bytesC l ++ [.int .u8 x] := by
  simp [bytesC, ← hx]
theorem bytesC_back {w : World} {base n : Nat} {v : Value} {l : List UInt8} (h : w.ownsRow base 5 1 v n (bytesC l)) :
    (convert 52 9 v).run Tryz.prog w = .ok (.string (S l)) w := by
  have hl : l.length = n := by have := h.1; simpa [bytesC] using this
  rcases h.2 with ⟨rfl, hn⟩ | ⟨g, cap, cur, rfl, _⟩
  · rw [run_convert_bytes_nil w 52 5 Tryz.underlying52 Tryz.underlying5 0 0 9 Tryz.underlying9]
    have : l = [] := List.length_eq_zero_iff.1 (by omega)
    subst this
    rfl
  · have := run_convert_bytes_back (P := Tryz.prog) w 52 9 5 ⟨g, 0, none⟩ cap l Tryz.underlying52 Tryz.underlying5 Tryz.underlying9 (fun j hj => by
      have e : (⟨g, 0, none⟩ : Addr).add j = ⟨g, j, none⟩ := by simp [Addr.add]; omega
      rw [e, h.cellAt j (by omega)]
      simp [bytesC, hj])
    rw [hl] at this
    exact this

theorem own_form {w : World} {base : Nat} {e : TypeId} {size : Nat} {v : Value} {n : Nat} {xs : List Value} (h : w.ownsRow base e size v n xs) : ∃ a c, v = .slice a n c := by
  rcases h.2 with ⟨hv, rfl⟩ | ⟨g, cap, cur, hv, _⟩
  · exact ⟨_, _, hv⟩
  · exact ⟨_, _, hv⟩
theorem cell_one_fresh (w : World) (x : Value) (t : TypeId) : ∀ (j : Nat) u, [x][j]? = some u → (w.alloc (.cells #[x] t)).cell? ((⟨w.heap.size, 0, none⟩ : Addr).add j) = some u := by
  intro j u hj
  rw [Addr.add_lit, Nat.zero_add]
  match j, hj with
  | 0, hj => simp at hj; subst hj; simp
def wordC (c : UInt8) : UInt8 := UInt8.ofNat (97 + c.toNat % 26)
theorem wordC_nat (c : UInt8) : ((wordC c).toNat : Int) = 97 + (c.toNat : Int) % 26 := by
  unfold wordC
  have h : 97 + c.toNat % 26 < 256 := by omega
  rw [UInt8.toNat_ofNat_of_lt' (by simpa using h)]
  omega
def wordK (l : List UInt8) (k : Nat) : List UInt8 := (l.take k).map wordC
def wordL (l : List UInt8) : List UInt8 := if l = [] then [120] else wordK l 8
theorem wordL_len (l : List UInt8) : (wordL l).length ≤ 8 := by unfold wordL wordK; split <;> simp; omega
theorem word_step (s : ByteArray) (k : Nat) (hk : k < s.size) : bytesC (wordK s.data.toList (k + 1)) = bytesC (wordK s.data.toList k) ++ [.int .u8 (97 + (s[k].toNat : Int) % 26)] := by
  unfold wordK
  rw [take_snoc s k hk, List.map_append]
  exact bytesC_snoc _ _ _ (wordC_nat _)

set_option maxHeartbeats 1000000 in
set_option maxRecDepth 100000 in
theorem word_any (s : ByteArray) (w : World) (hs : s.size ≤ maxLen) :
    Calls Tryz.prog 67 #[.string s] w fun e w' => e = .returned (.string (S (wordL s.data.toList))) ∧ Below w.heap.size w w' := by
  unfold maxLen at hs
  obtain ⟨i0, hi, hz0, hz1, hz2⟩ := info_parts infoB8
  go_enter Tryz.func67, Tryz.ntmps67
  go_wp2
  go_loopw [3, 4] (fun v i wr => ∃ k : Nat, k ≤ s.size ∧ k ≤ 8 ∧ i = .int .i64 k ∧ wr.ownsRow w.heap.size 5 1 v k (bytesC (wordK s.data.toList k)) ∧ Below w.heap.size w wr) (fun _ i _ => 8 - (intOf i).toNat)
  case atStart => exact ⟨0, Nat.zero_le _, Nat.zero_le _, rfl, World.ownsRow_nil _ _ _ _, Below.refl _ _⟩
  case round =>
    obtain ⟨k, hk, hk8, rfl, hown, hB⟩ := hrel
    by_cases hlt : k < s.size ∧ k < 8
    · obtain ⟨hl1, hl2⟩ := hlt
      have hu := s[k].toNat_lt
      have hu0 : (0 : Int) ≤ (s[k].toNat : Int) := by omega
      have hu1 : (s[k].toNat : Int) ≤ 255 := by omega
      have HS : Hid _ := word_step s k hl1
      go_wp2_with (at_builtin; refine wpList_append_own _ rfl _ _ 52 rfl w.heap.size 5 i0 (.int .u8 0) 1 1 Tryz.underlying52 hi hz0 hz1 hz2 rfl (by decide) _ _ _ rfl (hown.alloc _) ⟨wr.heap.size, 0, none⟩ 1 1 [.int .u8 (97 + (s[k].toNat : Int) % 26)] rfl rfl (cell_one_fresh _ _ _) ?c2 ?c3 ?c4 ?c5 ?_)
      case c2 => intro u hu; simp at hu; subst hu; rfl
      case c3 => unfold maxLen; omega
      case c4 => omega
      case c5 => have := hB.size; simp; omega
      intro v' w2 hown' hgrow _
      have hsz := hB.size
      have hB2 : Below w.heap.size w w2 := (hB.alloc hsz _).grown hgrow (by simp; omega) (fun j hj => (hown.lt j hj).1)
      rw [← HS.out] at hown'
      clear hgrow hown
      go_wp2
      go_roundw
      case rel => first | exact ⟨k + 1, by omega, by omega, by go_num, hown', hB2⟩ | ((repeat apply Exists.intro); exact ⟨⟨k + 1, by omega, by omega, by go_num, hown', hB2⟩, rfl⟩) | (refine ⟨trivial, ?_⟩; (repeat apply Exists.intro); exact ⟨⟨k + 1, by omega, by omega, by go_num, hown', hB2⟩, rfl⟩)
      case measure => simp [intOf]; omega
    · by_cases h0 : s.size = 0
      · have hk0 : k = 0 := by omega
        subst hk0
        have HW : Hid (wordL s.data.toList = [120]) := by
          have : s.data.toList = [] := List.length_eq_zero_iff.1 (by rw [size_list]; exact h0)
          unfold Hid wordL; rw [if_pos this]
        obtain ⟨a0, c0, rfl⟩ := own_form hown
        go_wp2
        go_ret
        exact ⟨by rw [HW.out]; rfl, hB⟩
      · have HT : Hid (wordL s.data.toList = wordK s.data.toList k) := by
          have hne : s.data.toList ≠ [] := fun e => by have := size_list s; rw [e] at this; simp at this; omega
          unfold Hid wordL
          rw [if_neg hne]
          by_cases h8 : k = 8
          · rw [h8]
          · unfold wordK
            rw [List.take_of_length_le (by rw [size_list]; omega), List.take_of_length_le (by rw [size_list]; omega)]
        have hkp : (k : Int) ≠ 0 := by omega
        have hkb : ((k : Int) == 0) = false := by simpa using hkp
        have hrun := bytesC_back hown
        obtain ⟨a0, c0, rfl⟩ := own_form hown
        by_cases h8 : k < s.size
        · have hk8' : ¬ k < 8 := fun h => hlt ⟨h8, h⟩
          go_wp2
          go_ret
          exact ⟨by rw [HT.out]; rfl, hB⟩
        · go_wp2
          go_ret
          exact ⟨by rw [HT.out]; rfl, hB⟩

end Go.Proofs.YtepfniiojjefhaaGreatDoor
