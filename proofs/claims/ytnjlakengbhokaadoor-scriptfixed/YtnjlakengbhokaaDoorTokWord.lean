/-
  What token's wordLength, isWord, unit do: the walks.
-/
import Derived.Test.YtnjlakengbhokaaDoorTokSpan
import Derived.Test.YtnjlakengbhokaaDoorTxt
namespace Go.Proofs.YtnjlakengbhokaaDoor
open Go.RowKit Go.Proofs

theorem entersWord : ∀ args w, (callFunc 73 args).run Tryd.prog w = .ok (.enter 73 args) w := enters_of Tryd.func73 (by kernel_rfl) rfl

set_option maxHeartbeats 2000000 in
theorem wordLength_any (s : List UInt8) (w : World) (hs : s.length ≤ maxLen) :
    Calls Tryd.prog 52 #[.string (S s)] w fun e w' => e = .returned (.int .i64 (wlen s : Nat)) ∧ w' = w := by
  cases s with
  | nil =>
    have he := S_none
    go_enter Tryd.func52, Tryd.ntmps52
    go_wp2
    go_ret
    exact ⟨rfl, rfl⟩
  | cons c t =>
    have he := S_some c t
    have hz := S_pos c t
    have HZ : Hid ((S (c :: t)).size ≤ maxLen) := by unfold Hid; rw [size_S]; exact hs
    clear hs
    cases hd : digitC c with
    | true =>
      have HD : Hid _ := hd
      have HL : Hid (wlen (c :: t) = 0) := by show (if digitC c then 0 else _) = 0; rw [hd]; rfl
      clear hd
      go_enter Tryd.func52, Tryd.ntmps52
      go_wp2_with fail
      refine (isDigit_any c _).mono ?_
      rintro e u ⟨rfl, hu⟩
      have hu' := hu.symm
      subst hu'
      rw [HD.out]
      go_wp2
      go_ret
      exact ⟨ret_int (by rw [HL.out]; rfl), rfl⟩
    | false =>
      have HD : Hid _ := hd
      have HL : Hid (wlen (c :: t) = ((S (c :: t)).data.toList.takeWhile wordyC).length) := by
        unfold Hid; rw [list_S]; show (if digitC c then 0 else _) = _; rw [hd]; rfl
      clear hd
      go_enter Tryd.func52, Tryd.ntmps52
      go_wp2_with fail
      refine (isDigit_any c _).mono ?_
      rintro e u ⟨rfl, hu⟩
      have hu' := hu.symm
      subst hu'
      rw [HD.out]
      go_wp2_with fail
      refine (span_pure (S (c :: t)) 73 entersWord wordyC _ HZ.out (fun c u => inWord_any c u)).mono ?_
      rintro e u ⟨rfl, hu⟩
      have hu' := hu.symm
      subst hu'
      rw [← HL.out]
      go_wp2
      go_ret
      exact ⟨rfl, rfl⟩

theorem beq_nil (c : UInt8) (t : List UInt8) : ((S (c :: t)).toList == []) = false := by rw [Lib.toList_data, list_S]; rfl

set_option maxHeartbeats 2000000 in
theorem isWord_any (s : List UInt8) (w : World) (hs : s.length ≤ maxLen) :
    Calls Tryd.prog 39 #[.string (S s)] w fun e w' => e = .returned (.bool (wordB s)) ∧ w' = w := by
  cases s with
  | nil =>
    have he := S_none
    go_enter Tryd.func39, Tryd.ntmps39
    go_wp2
    go_ret
    exact ⟨rfl, rfl⟩
  | cons c t =>
    have he := S_some c t
    have hz := S_pos c t
    have HB : Hid (wordB (c :: t) = decide ((wlen (c :: t) : Int) = ((S (c :: t)).size : Int))) := by
      unfold Hid
      rw [size_S]
      have := wlen_all (c :: t)
      cases h : wordB (c :: t) with
      | true => rw [h] at this; simp only [iff_true] at this; rw [this.2]; simp
      | false =>
        rw [h] at this
        simp only [Bool.false_eq_true, iff_false, ne_eq, reduceCtorEq, not_false_eq_true, true_and] at this
        rw [eq_comm, decide_eq_false_iff_not]; omega
    have HS : Hid _ := hs
    clear hs
    go_enter Tryd.func39, Tryd.ntmps39
    go_wp2_with fail
    refine (wordLength_any (c :: t) _ HS.out).mono ?_
    rintro e u ⟨rfl, hu⟩
    have hu' := hu.symm
    subst hu'
    go_wp2
    go_ret
    exact ⟨ret_bool (by rw [HB.out]; first | rfl | simp), rfl⟩

/-- The first byte, as the walk shows a switch on it. -/
theorem headS_yes {c : UInt8} {t : List UInt8} {n : Nat} (hn : n < 256) (hz : 0 < (S (c :: t)).size) (h : c = UInt8.ofNat n) : ((((S (c :: t))[0]'hz).toNat : Int) == (n : Int)) = true := by
  rw [S_head, h, UInt8.toNat_ofNat_of_lt' hn, beq_self_eq_true]
theorem headS_no {c : UInt8} {t : List UInt8} {n : Nat} (hn : n < 256) (hz : 0 < (S (c :: t)).size) (h : ¬ c = UInt8.ofNat n) : ((((S (c :: t))[0]'hz).toNat : Int) == (n : Int)) = false := by
  rw [S_head, beq_eq_false_iff_ne]
  intro e
  refine h (UInt8.toNat_inj.1 ?_)
  rw [UInt8.toNat_ofNat_of_lt' hn]; omega
end Go.Proofs.YtnjlakengbhokaaDoor
