/-
  What token.span does, whatever function it is handed: the walk.
-/
import Derived.Test.YtnjlakengbhokaaDoorTokSmall
namespace Go.Proofs.YtnjlakengbhokaaDoor
open Go.RowKit Go.Proofs Go.Lib

set_option maxHeartbeats 2000000 in
theorem span_any (s : ByteArray) (f : Nat) (cap : Array Value) (eg : ∀ args w, (callFunc f args).run Tryd.prog w = .ok (.enter f args) w) (n : Nat) (J : Nat → World → Prop) (w : World) (hs : s.size ≤ maxLen) (hn : n ≤ s.size)
    (hyes : ∀ (k : Nat) (h : k < s.size) (u : World), k < n → J k u → Calls Tryd.prog f (#[.int .u8 s[k].toNat] ++ cap) u fun e u' => e = .returned (.bool true) ∧ J (k + 1) u')
    (hno : ∀ (h : n < s.size) (u : World), J n u → Calls Tryd.prog f (#[.int .u8 s[n].toNat] ++ cap) u fun e u' => e = .returned (.bool false) ∧ J n u')
    (h0 : J 0 w) :
    Calls Tryd.prog 72 #[.string s, .func (.func f) #[] cap] w fun e w' => e = .returned (.int .i64 n) ∧ J n w' := by
  unfold maxLen at hs
  have HY : Hid _ := hyes
  have HO : Hid _ := hno
  have H0 : Hid _ := h0
  clear hyes hno h0
  go_enter Tryd.func72, Tryd.ntmps72
  go_wp2
  go_loopw [5] (fun i wr => ∃ k : Nat, k ≤ n ∧ i = .int .i64 k ∧ Hid (J k wr)) (fun i _ => s.size - (intOf i).toNat)
  case atStart => exact ⟨0, Nat.zero_le _, rfl, H0⟩
  case round =>
    obtain ⟨k, hk, rfl, HJ⟩ := hrel
    by_cases hlt : k < n
    · have hks : k < s.size := by omega
      go_wp2_with (go_at_fn f; refine Calls.mono (HY.out k hks wr hlt HJ.out) ?_; rintro e u ⟨rfl, hj⟩)
      go_roundw
      case rel => exact ⟨k + 1, by omega, by go_num, hj⟩
      case measure => simp [intOf]; omega
    · have hkn : k = n := by omega
      subst hkn
      by_cases hks : k < s.size
      · go_wp2_with (go_at_fn f; refine Calls.mono (HO.out hks wr HJ.out) ?_; rintro e u ⟨rfl, hj⟩)
        go_ret
        exact ⟨rfl, hj⟩
      · go_wp2
        go_ret
        exact ⟨rfl, HJ.out⟩

theorem takeW_yes {p : UInt8 → Bool} : ∀ {l : List UInt8} {k : Nat} (h : k < l.length), k < (l.takeWhile p).length → p l[k] = true := by
  intro l
  induction l with
  | nil => intro k h; simp at h
  | cons c t ih =>
    intro k h hk
    rw [List.takeWhile_cons] at hk
    cases e : p c with
    | false => rw [e] at hk; simp at hk
    | true =>
      rw [e] at hk
      cases k with
      | zero => exact e
      | succ k => simp at hk; exact ih (by simpa using h) hk
theorem takeW_no {p : UInt8 → Bool} : ∀ {l : List UInt8} (h : (l.takeWhile p).length < l.length), p (l[(l.takeWhile p).length]'h) = false := by
  intro l
  induction l with
  | nil => intro h; simp at h
  | cons c t ih =>
    intro h
    cases e : p c with
    | false =>
      have : (c :: t).takeWhile p = [] := by rw [List.takeWhile_cons, e]; rfl
      simp only [this, List.length_nil, List.getElem_cons_zero]; exact e
    | true =>
      have : (c :: t).takeWhile p = c :: t.takeWhile p := by rw [List.takeWhile_cons, e]; rfl
      simp only [this, List.length_cons] at h ⊢
      simp only [List.getElem_cons_succ]
      exact ih (by omega)
theorem list_at (s : ByteArray) (k : Nat) (h : k < s.size) : s[k] = s.data.toList[k]'(by rw [size_list]; exact h) := rfl

theorem span_pure (s : ByteArray) (f : Nat) (eg : ∀ args w, (callFunc f args).run Tryd.prog w = .ok (.enter f args) w) (p : UInt8 → Bool) (w : World) (hs : s.size ≤ maxLen)
    (hf : ∀ (c : UInt8) (u : World), Calls Tryd.prog f #[.int .u8 c.toNat] u fun e u' => e = .returned (.bool (p c)) ∧ u' = u) :
    Calls Tryd.prog 72 #[.string s, .func (.func f) #[] #[]] w fun e w' => e = .returned (.int .i64 ((s.data.toList.takeWhile p).length : Nat)) ∧ w' = w := by
  have hle : (s.data.toList.takeWhile p).length ≤ s.size := by rw [← size_list]; exact (List.takeWhile_prefix p).length_le
  refine span_any s f #[] eg _ (fun _ u => u = w) w hs hle ?_ ?_ rfl
  · intro k h u hk hu
    subst hu
    refine (hf s[k] u).mono ?_
    rintro e u' ⟨rfl, rfl⟩
    rw [list_at s k h, takeW_yes _ hk]
    exact ⟨rfl, rfl⟩
  · intro h u hu
    subst hu
    refine (hf s[(s.data.toList.takeWhile p).length] u).mono ?_
    rintro e u' ⟨rfl, rfl⟩
    rw [list_at s _ h, takeW_no (p := p) (l := s.data.toList)]
    exact ⟨rfl, rfl⟩
end Go.Proofs.YtnjlakengbhokaaDoor
