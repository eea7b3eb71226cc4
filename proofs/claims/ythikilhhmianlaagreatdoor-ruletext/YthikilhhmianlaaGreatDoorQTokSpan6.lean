/-
  What token.span does, whatever function it is handed: the walk.
  What token's wordLength, isWord, unit do: the walks.
  What token.unit does: the walk.
  What token.readNumber does: the walk. Its closure counts in a variable that it has captured.
  What the laws' maker of words does: the walk.
  What token.readString does: the walk. Its closure gathers bytes in a row of the call's own, and keeps in mind whether a backslash is ahead.
-/
import Derived.Test.YthikilhhmianlaaGreatDoorQTokLaws8
import Derived.Test.YthikilhhmianlaaGreatDoorRows
import Derived.Test.YthikilhhmianlaaGreatDoorQPure4
import Derived.WalkKit
import Derived.WalkSpells
import Derived.WalkLawsBesides
import Derived.Laws.IdiomStrings
namespace Go.Proofs.YthikilhhmianlaaGreatDoor
open Go.RowKit Go.Proofs Go.Lib
set_option maxHeartbeats 2000000 in
theorem jcY (s : ByteArray) (f : Nat) (cap : Array Value) (eg : ∀ args w, (callFunc f args).run Tryz.prog w = .ok (.enter f args) w) (n : Nat) (J : Nat → World → Prop) (w : World) (hs : s.size ≤ maxLen) (hn : n ≤ s.size)
    (hyes : ∀ (k : Nat) (h : k < s.size) (u : World), k < n → J k u → Calls Tryz.prog f (#[.int .u8 s[k].toNat] ++ cap) u fun e u' => e = .returned (.bool true) ∧ J (k + 1) u')
    (hno : ∀ (h : n < s.size) (u : World), J n u → Calls Tryz.prog f (#[.int .u8 s[n].toNat] ++ cap) u fun e u' => e = .returned (.bool false) ∧ J n u')
    (h0 : J 0 w) :
    Calls Tryz.prog 54 #[.string s, .func (.func f) #[] cap] w fun e w' => e = .returned (.int .i64 n) ∧ J n w' := by
  unfold maxLen at hs; have HY : Hid _ := hyes; have HO : Hid _ := hno; have H0 : Hid _ := h0; clear hyes hno h0; go_enter Tryz.func54, Tryz.ntmps54; go_wp2
  go_loopw [5] (fun i wr => ∃ k : Nat, k ≤ n ∧ i = .int .i64 k ∧ Hid (J k wr)) (fun i _ => s.size - (intOf i).toNat)
  case atStart => exact ⟨0, Nat.zero_le _, rfl, H0⟩
  case round =>
    obtain ⟨k, hk, rfl, HJ⟩ := hrel
    by_cases hlt : k < n
    · have hks : k < s.size := by omega
      go_wp2_with (go_at_fn f; refine Calls.mono (HY.out k hks wr hlt HJ.out) ?_; rintro e u ⟨rfl, hj⟩)
      go_roundw
      case rel => exact ⟨k + 1, by omega, by go_num, hj⟩
      case measure => simp [intOf]; omega
    · have hkn : k = n := by omega
      subst hkn
      by_cases hks : k < s.size
      · go_wp2_with (go_at_fn f; refine Calls.mono (HO.out hks wr HJ.out) ?_; rintro e u ⟨rfl, hj⟩)
        go_ret; exact ⟨rfl, hj⟩
      · go_wp2; go_ret; exact ⟨rfl, HJ.out⟩
theorem jeg {p : UInt8 → Bool} : ∀ {l : List UInt8} {k : Nat} (h : k < l.length), k < (l.takeWhile p).length → p l[k] = true := by
  intro l
  induction l with
  | nil => intro k h; simp at h
  | cons c t ih =>
    intro k h hk; rw [List.takeWhile_cons] at hk; cases e : p c with
    | false => rw [e] at hk; simp at hk
    | true =>
      rw [e] at hk; cases k with
      | zero => exact e
      | succ k => simp at hk; exact ih (by simpa using h) hk
theorem jfm {p : UInt8 → Bool} : ∀ {l : List UInt8} (h : (l.takeWhile p).length < l.length), p (l[(l.takeWhile p).length]'h) = false := by
  intro l
  induction l with
  | nil => intro h; simp at h
  | cons c t ih =>
    intro h; cases e : p c with
    | false =>
      have : (c :: t).takeWhile p = [] := by rw [List.takeWhile_cons, e]; rfl
      simp only [this, List.length_nil, List.getElem_cons_zero]; exact e
    | true =>
      have : (c :: t).takeWhile p = c :: t.takeWhile p := by rw [List.takeWhile_cons, e]; rfl
      simp only [this, List.length_cons] at h ⊢; simp only [List.getElem_cons_succ]; exact ih (by omega)
theorem jgR (s : ByteArray) (k : Nat) (h : k < s.size) : s[k] = s.data.toList[k]'(by rw [size_list]; exact h) := rfl
theorem jcr (s : ByteArray) (f : Nat) (eg : ∀ args w, (callFunc f args).run Tryz.prog w = .ok (.enter f args) w) (p : UInt8 → Bool) (w : World) (hs : s.size ≤ maxLen)
    (hf : ∀ (c : UInt8) (u : World), Calls Tryz.prog f #[.int .u8 c.toNat] u fun e u' => e = .returned (.bool (p c)) ∧ u' = u) :
    Calls Tryz.prog 54 #[.string s, .func (.func f) #[] #[]] w fun e w' => e = .returned (.int .i64 ((s.data.toList.takeWhile p).length : Nat)) ∧ w' = w := by
  have hle : (s.data.toList.takeWhile p).length ≤ s.size := by rw [← size_list]; exact (List.takeWhile_prefix p).length_le
  refine jcY s f #[] eg _ (fun _ u => u = w) w hs hle ?_ ?_ rfl
  · intro k h u hk hu; subst hu; refine (hf s[k] u).mono ?_; rintro e u' ⟨rfl, rfl⟩; rw [jgR s k h, jeg _ hk]; exact ⟨rfl, rfl⟩
  · intro h u hu; subst hu; refine (hf s[(s.data.toList.takeWhile p).length] u).mono ?_; rintro e u' ⟨rfl, rfl⟩; rw [jgR s _ h, jfm (p := p) (l := s.data.toList)]; exact ⟨rfl, rfl⟩
end Go.Proofs.YthikilhhmianlaaGreatDoor
namespace Go.Proofs.YthikilhhmianlaaGreatDoor
open Go.RowKit Go.Proofs
theorem jfU : ∀ args w, (callFunc 76 args).run Tryz.prog w = .ok (.enter 76 args) w := enters_of Tryz.func76 (by kernel_rfl) rfl
set_option maxHeartbeats 2000000 in
theorem jV (s : List UInt8) (w : World) (hs : s.length ≤ maxLen) :
    Calls Tryz.prog 49 #[.string (S s)] w fun e w' => e = .returned (.int .i64 (wlen s : Nat)) ∧ w' = w := by
  cases s with
  | nil =>
    have he := jbR; go_enter Tryz.func49, Tryz.ntmps49; go_wp2; go_ret; exact ⟨rfl, rfl⟩
  | cons c t =>
    have he := jcl c t; have hz := jev c t; have HZ : Hid ((S (c :: t)).size ≤ maxLen) := by unfold Hid; rw [jB]; exact hs
    clear hs; cases hd : jr c with
    | true =>
      have HD : Hid _ := hd; have HL : Hid (wlen (c :: t) = 0) := by show (if jr c then 0 else _) = 0; rw [hd]; rfl
      clear hd; go_enter Tryz.func49, Tryz.ntmps49; go_wp2_with fail; refine (zg c _).mono ?_; rintro e u ⟨rfl, hu⟩; have hu' := hu.symm; subst hu'; rw [HD.out]; go_wp2; go_ret; exact ⟨jj (by rw [HL.out]; rfl), rfl⟩
    | false =>
      have HD : Hid _ := hd; have HL : Hid (wlen (c :: t) = ((S (c :: t)).data.toList.takeWhile jH).length) := by
        unfold Hid; rw [jW]; show (if jr c then 0 else _) = _; rw [hd]; rfl
      clear hd; go_enter Tryz.func49, Tryz.ntmps49; go_wp2_with fail; refine (zg c _).mono ?_; rintro e u ⟨rfl, hu⟩; have hu' := hu.symm; subst hu'; rw [HD.out]; go_wp2_with fail; refine (jcr (S (c :: t)) 76 jfU jH _ HZ.out (fun c u => zB c u)).mono ?_; rintro e u ⟨rfl, hu⟩; have hu' := hu.symm; subst hu'; rw [← HL.out]; go_wp2; go_ret; exact ⟨rfl, rfl⟩
set_option maxHeartbeats 2000000 in
theorem jcy (s : List UInt8) (w : World) (hs : s.length ≤ maxLen) :
    Calls Tryz.prog 29 #[.string (S s)] w fun e w' => e = .returned (.bool (jao s)) ∧ w' = w := by
  cases s with
  | nil =>
    have he := jbR; go_enter Tryz.func29, Tryz.ntmps29; go_wp2; go_ret; exact ⟨rfl, rfl⟩
  | cons c t =>
    have he := jcl c t; have hz := jev c t; have HB : Hid (jao (c :: t) = decide ((wlen (c :: t) : Int) = ((S (c :: t)).size : Int))) := by
      unfold Hid; rw [jB]; have := jiV (c :: t); cases h : jao (c :: t) with
      | true => rw [h] at this; simp only [iff_true] at this; rw [this.2]; simp
      | false =>
        rw [h] at this; simp only [Bool.false_eq_true, iff_false, ne_eq, reduceCtorEq, not_false_eq_true, true_and] at this; rw [eq_comm, decide_eq_false_iff_not]; omega
    have HS : Hid _ := hs; clear hs; go_enter Tryz.func29, Tryz.ntmps29; go_wp2_with fail; refine (jV (c :: t) _ HS.out).mono ?_; rintro e u ⟨rfl, hu⟩; have hu' := hu.symm; subst hu'; go_wp2; go_ret; exact ⟨jn (by rw [HB.out]; first | rfl | simp), rfl⟩
theorem jaM {c : UInt8} {t : List UInt8} {n : Nat} (hn : n < 256) (hz : 0 < (S (c :: t)).size) (h : c = UInt8.ofNat n) : ((((S (c :: t))[0]'hz).toNat : Int) == (n : Int)) = true := by
  rw [jdS, h, UInt8.toNat_ofNat_of_lt' hn, beq_self_eq_true]
theorem jbH {c : UInt8} {t : List UInt8} {n : Nat} (hn : n < 256) (hz : 0 < (S (c :: t)).size) (h : ¬ c = UInt8.ofNat n) : ((((S (c :: t))[0]'hz).toNat : Int) == (n : Int)) = false := by
  rw [jdS, beq_eq_false_iff_ne]; intro e; refine h (UInt8.toNat_inj.1 ?_); rw [UInt8.toNat_ofNat_of_lt' hn]; omega
end Go.Proofs.YthikilhhmianlaaGreatDoor
namespace Go.Proofs.YthikilhhmianlaaGreatDoor
open Go.RowKit Go.Proofs
set_option maxHeartbeats 2000000 in
theorem jdt (s : List UInt8) (w : World) :
    Calls Tryz.prog 86 #[.string (S s)] w fun e w' => e = .returned (.int .i64 ((zE s).1 : Nat)) ∧ w' = w := by
  cases s with
  | nil =>
    have he := jbR; go_enter Tryz.func86, Tryz.ntmps86; go_wp2; go_ret; exact ⟨rfl, rfl⟩
  | cons c t =>
    have he := jcl c t; have hz := jev c t; have e0 : zE (c :: t) = if c = 75 ∨ c = 107 then (1024, t) else if c = 77 ∨ c = 109 then (1048576, t) else (1, c :: t) := rfl
    by_cases h1 : c = 75
    · have HT : Hid ((zE (c :: t)).1 = 1024) := by unfold Hid; rw [e0, if_pos (Or.inl h1)]
      have q1 := jaM (n := 75) (by decide) hz h1; clear e0 h1; go_enter Tryz.func86, Tryz.ntmps86; go_wp2; go_ret; exact ⟨jj (by rw [HT.out]; rfl), rfl⟩
    have q1 := jbH (n := 75) (by decide) hz h1
    by_cases h2 : c = 107
    · have HT : Hid ((zE (c :: t)).1 = 1024) := by unfold Hid; rw [e0, if_pos (Or.inr h2)]
      have q2 := jaM (n := 107) (by decide) hz h2; clear e0 h1 h2; go_enter Tryz.func86, Tryz.ntmps86; go_wp2; go_ret; exact ⟨jj (by rw [HT.out]; rfl), rfl⟩
    have q2 := jbH (n := 107) (by decide) hz h2; have e1 : zE (c :: t) = if c = 77 ∨ c = 109 then (1048576, t) else (1, c :: t) := by rw [e0, if_neg (fun h => h.elim h1 h2)]
    clear e0
    by_cases h3 : c = 77
    · have HT : Hid ((zE (c :: t)).1 = 1048576) := by unfold Hid; rw [e1, if_pos (Or.inl h3)]
      have q3 := jaM (n := 77) (by decide) hz h3; clear e1 h1 h2 h3; go_enter Tryz.func86, Tryz.ntmps86; go_wp2; go_ret; exact ⟨jj (by rw [HT.out]; rfl), rfl⟩
    have q3 := jbH (n := 77) (by decide) hz h3
    by_cases h4 : c = 109
    · have HT : Hid ((zE (c :: t)).1 = 1048576) := by unfold Hid; rw [e1, if_pos (Or.inr h4)]
      have q4 := jaM (n := 109) (by decide) hz h4; clear e1 h1 h2 h3 h4; go_enter Tryz.func86, Tryz.ntmps86; go_wp2; go_ret; exact ⟨jj (by rw [HT.out]; rfl), rfl⟩
    have q4 := jbH (n := 109) (by decide) hz h4; have HT : Hid ((zE (c :: t)).1 = 1) := by unfold Hid; rw [e1, if_neg (fun h => h.elim h3 h4)]
    clear e1 h1 h2 h3 h4; go_enter Tryz.func86, Tryz.ntmps86; go_wp2; go_ret; exact ⟨jj (by rw [HT.out]; rfl), rfl⟩
end Go.Proofs.YthikilhhmianlaaGreatDoor
namespace Go.Proofs.YthikilhhmianlaaGreatDoor
open Go.RowKit Go.Proofs
def numC (l : List UInt8) : Nat := min (decV l) 2147483648
theorem jhg (l : List UInt8) (c : UInt8) : numC (l ++ [c]) = min (numC l * 10 + (c.toNat - 48)) 2147483648 := by unfold numC; rw [jek]; omega
theorem jdn (l : List UInt8) : numC l ≤ 2147483648 := by unfold numC; omega
set_option maxHeartbeats 2000000 in
theorem jeP (b : Nat) (c : UInt8) (v : Nat) (w : World) (hb : Box w b (.int .i64 v) 3) (hv : v ≤ 2147483648) (hc : jr c = true) :
    Calls Tryz.prog 85 #[.int .u8 c.toNat, .pointer (some ⟨b, 0, none⟩)] w fun e w' => e = .returned (.bool true) ∧ Box w' b (.int .i64 (min (v * 10 + (c.toNat - 48)) 2147483648 : Nat)) 3 ∧ But b w w' := by
  have h1 := hb.cell; have h2 := hb.free; have HC : Hid _ := hc; have hc' : 48 ≤ c.toNat ∧ c.toNat ≤ 57 := by unfold jr at hc; simpa using hc
  obtain ⟨c1, c2⟩ := hc'; have c3 : (48 : Int) ≤ (c.toNat : Int) := by omega
  have c4 : (c.toNat : Int) ≤ 57 := by omega
  have HB : Hid _ := hb; clear hc hb; go_enter Tryz.func85, Tryz.ntmps85; go_wp2_with fail; refine (zg c _).mono ?_; rintro e u ⟨rfl, hu⟩; have hu' := hu.symm; subst hu'; rw [HC.out]; go_wp2
  · go_ret; refine ⟨rfl, ?_, But.set _ _⟩; have e : ((min (v * 10 + (c.toNat - 48)) 2147483648 : Nat) : Int) = 2147483648 := by omega
    rw [e]; exact Box.set HB.out _
  · go_ret; refine ⟨rfl, ?_, But.set _ _⟩; have e : ((min (v * 10 + (c.toNat - 48)) 2147483648 : Nat) : Int) = (v : Int) * 10 + ((c.toNat : Int) - 48) := by omega
    rw [e]; exact Box.set HB.out _
set_option maxHeartbeats 2000000 in
theorem jfO (b : Nat) (c : UInt8) (w : World) (hc : jr c = false) :
    Calls Tryz.prog 85 #[.int .u8 c.toNat, .pointer (some ⟨b, 0, none⟩)] w fun e w' => e = .returned (.bool false) ∧ w' = w := by
  have HC : Hid _ := hc; clear hc; go_enter Tryz.func85, Tryz.ntmps85; go_wp2_with fail; refine (zg c _).mono ?_; rintro e u ⟨rfl, hu⟩; have hu' := hu.symm; subst hu'; rw [HC.out]; go_wp2; go_ret; exact ⟨rfl, rfl⟩
theorem jik : ∀ args w, (callFunc 85 args).run Tryz.prog w = .ok (.enter 85 args) w := enters_of Tryz.func85 (by kernel_rfl) rfl
theorem jc3 (s : List UInt8) (b : Nat) (w : World) (hs : s.length ≤ maxLen) (hb : Box w b (.int .i64 0) 3) :
    Calls Tryz.prog 54 #[.string (S s), .func (.func 85) #[] #[.pointer (some ⟨b, 0, none⟩)]] w fun e w' => e = .returned (.int .i64 ((s.takeWhile jr).length : Nat)) ∧ Box w' b (.int .i64 (numC (s.takeWhile jr) : Nat)) 3 ∧ But b w w' := by
  have hle : (s.takeWhile jr).length ≤ (S s).size := by rw [jB]; exact (List.takeWhile_prefix jr).length_le
  have htk : s.take (s.takeWhile jr).length = s.takeWhile jr := by
    have := List.takeWhile_append_dropWhile (p := jr) (l := s)
    conv => lhs; arg 2; rw [← this]
    rw [List.take_left]
  refine (jcY (S s) 85 _ jik (s.takeWhile jr).length (fun k u => Box u b (.int .i64 (numC (s.take k) : Nat)) 3 ∧ But b w u) w (by rw [jB]; exact hs) hle ?_ ?_ ⟨hb, But.refl _ _⟩).mono ?_
  · intro k h u hk ⟨hB, hU⟩; have hk' : k < s.length := by rw [jB] at h; exact h
    have hg : (S s)[k] = s[k] := jh8 s k h hk'; have hd : jr (S s)[k] = true := by rw [hg]; exact jeg hk' hk
    have e1 : s.take (k + 1) = s.take k ++ [(S s)[k]] := by rw [hg]; exact List.take_succ_eq_append_getElem hk'
    refine (jeP b (S s)[k] (numC (s.take k)) u hB (jdn _) hd).mono ?_; rintro e u' ⟨rfl, h1, h2⟩; refine ⟨rfl, ?_, hU.trans h2⟩
    show Box u' b (.int .i64 (numC (s.take (k + 1)) : Nat)) _
    rw [e1, jhg]; exact h1
  · intro h u ⟨hB, hU⟩; have hk' : (s.takeWhile jr).length < s.length := by rw [jB] at h; exact h
    have hg : (S s)[(s.takeWhile jr).length] = s[(s.takeWhile jr).length] := jh8 s _ h hk'; refine (jfO b (S s)[(s.takeWhile jr).length] u (by rw [hg]; exact jfm hk')).mono ?_; rintro e u' ⟨rfl, rfl⟩; exact ⟨rfl, hB, hU⟩
  · rintro e u ⟨rfl, h1, h2⟩; exact ⟨rfl, by rw [← htk]; simpa [htk] using h1, h2⟩
theorem je3 (r : List UInt8) : (zE r = (1, r)) ∨ ∃ c t m, r = c :: t ∧ zE r = (m, t) ∧ (m = 1024 ∨ m = 1048576) := by
  cases r with
  | nil => exact Or.inl rfl
  | cons c t =>
    have e0 : zE (c :: t) = if c = 75 ∨ c = 107 then (1024, t) else if c = 77 ∨ c = 109 then (1048576, t) else (1, c :: t) := rfl
    rw [e0]; split
    · exact Or.inr ⟨c, t, 1024, rfl, rfl, Or.inl rfl⟩
    · split
      · exact Or.inr ⟨c, t, 1048576, rfl, rfl, Or.inr rfl⟩
      · exact Or.inl rfl
set_option maxRecDepth 100000 in
theorem jeI {s r2 : List UInt8} {m : Nat} (ht : zE (s.dropWhile jr) = (m, r2)) (hm : m = 1 ∨ m = 1024 ∨ m = 1048576) :
    numM s = if vK r2 then .error 3 else if 2147483647 < numC (s.takeWhile jr) * m then .error 6 else .ok ({ kind := 3, text := [], num := (numC (s.takeWhile jr) * m : Nat) }, r2) := by
  unfold numM; rw [ht]; simp only; split
  · rfl
  · have hc : numC (s.takeWhile jr) = min (decV (s.takeWhile jr)) 2147483648 := rfl; rw [hc]; generalize decV (s.takeWhile jr) = x; have hm1 : 1 ≤ m := by rcases hm with rfl | rfl | rfl <;> decide
    by_cases hx : x ≤ 2147483648
    · rw [Nat.min_eq_left hx]
    · have h1 : 2147483647 < x * m := Nat.lt_of_lt_of_le (show 2147483647 < x by omega) (Nat.le_mul_of_pos_right x hm1); have h2 : 2147483647 < 2147483648 * m := Nat.lt_of_lt_of_le (show 2147483647 < 2147483648 by omega) (Nat.le_mul_of_pos_right _ hm1); rw [Nat.min_eq_right (by omega), if_pos h1, if_pos h2]
theorem jae (p : UInt8 → Bool) (s : List UInt8) : s.drop (s.takeWhile p).length = s.dropWhile p := by
  have := List.takeWhile_append_dropWhile (p := p) (l := s)
  conv => lhs; arg 2; rw [← this]
  rw [List.drop_left]
theorem jc9 {s r2 : List UInt8} {n : Nat} (hn : s.drop n = r2) (c : UInt8) (t : List UInt8) (h2 : r2 = c :: t) (h : n < (S s).size) : (S s)[n] = c := by
  rw [jB] at h; have := jh8 s n (by rw [jB]; exact h) h; rw [this]; rw [h2, List.drop_eq_getElem_cons h] at hn; exact (List.cons.inj hn).1
set_option maxHeartbeats 8000000 in
set_option maxRecDepth 100000 in
theorem jdZ (s r2 : List UInt8) (w : World) (hs : s.length ≤ 2000) (ht : zE (s.dropWhile jr) = (1, r2)) (hl : s.length = (s.takeWhile jr).length + 0 + r2.length) (hr2 : s.drop ((s.takeWhile jr).length + 0) = r2) :
    Calls Tryz.prog 60 #[.string (S s)] w (Tk w s (numM s)) := by
  have HN : Hid _ := jeI ht (by simp); obtain ⟨d, hd⟩ : ∃ d, d = s.takeWhile jr := ⟨_, rfl⟩; rw [← hd] at hl hr2; have hsz : (S s).size = d.length + 0 + r2.length := by rw [jB]; exact hl
  have HZ : Hid (s.length ≤ maxLen) := by unfold Hid maxLen; omega
  have HX : Hid ((S s).extract d.length (S s).size = S (s.dropWhile jr)) := by unfold Hid; rw [qR, hd, jae]
  have HU : Hid ((zE (s.dropWhile jr)).1 = 1) := by unfold Hid; rw [ht]
  have hs2 : (S s).size ≤ 2000 := by rw [jB]; exact hs
  have HSZ : Hid _ := hsz; have HD : Hid _ := hd; have HR : Hid _ := hr2; have HL : Hid _ := hl; obtain ⟨v, hv⟩ : ∃ v, v = numC d := ⟨_, rfl⟩; have hvb : v ≤ 2147483648 := by rw [hv]; exact jdn d
  have HV : Hid _ := hv; have i1 : (0 : Int) ≤ (d.length : Int) := by omega
  have i2 : (d.length : Int) ≤ ((S s).size : Int) := by omega
  have hdl : d.length ≤ 2000 := by rw [jB] at hsz; omega
  obtain ⟨W0, hW0⟩ : ∃ W0, W0 = (w.alloc (.cells #[.int .i64 0, .string ⟨#[]⟩, .int .i64 0] 50)).alloc (.cells #[.int .i64 0] 3) := ⟨_, rfl⟩; have HT0 : Hid (TokB W0 w.heap.size qx) := by unfold Hid; rw [hW0]; exact (qB w qx).next ((Below.refl _ _).alloc (Nat.le_refl _) _)
  have HB0 : Hid (Box W0 (w.heap.size + 1) (.int .i64 0) 3) := by unfold Hid; rw [hW0]; have := Box.new (w.alloc (.cells #[.int .i64 0, .string ⟨#[]⟩, .int .i64 0] 50)) (.int .i64 0) 3; simpa using this
  have HE0 : Hid (Below w.heap.size w W0) := by unfold Hid; rw [hW0]; exact ((Below.refl _ _).alloc (Nat.le_refl _) _).alloc (by simp) _
  have HW : Hid _ := hW0; clear hW0 hd hv hr2 hl ht hs hsz; go_enter Tryz.func60, Tryz.ntmps60; go_wp2_with fail; rw [← HW.out]; refine (jc3 s (w.heap.size + 1) _ HZ.out HB0.out).mono ?_; rintro e u ⟨rfl, h1, h2⟩; rw [← HD.out, ← HV.out] at h1; rw [← HD.out]; have hT : TokB u w.heap.size qx := HT0.out.but h2 (by omega); have HE : Hid (Below w.heap.size w u) := HE0.out.trans (h2.below (by omega) HE0.out.size); have hc := h1.cell; have hf := h1.free; have f0 := hT.free 0; have f1 := hT.free 1; have f2 := hT.free 2; have k0 : u.cell? ⟨w.heap.size, 0, none⟩ = some (.int .i64 0) := hT.c0; have k1 : u.cell? ⟨w.heap.size, 1, none⟩ = some (.string ⟨#[]⟩) := hT.c1; have k2 : u.cell? ⟨w.heap.size, 2, none⟩ = some (.int .i64 0) := hT.c2; clear h1 h2 hT; go_wp2_with fail; rw [HX.out]; refine (jdt (s.dropWhile jr) _).mono ?_; rintro e u' ⟨rfl, hu⟩; have hu' := hu.symm; subst hu'; rw [HU.out]; cases r2 with
  | nil =>
    have HQ : Hid (vK [] = false) := rfl; have hnl : ¬ ((d.length : Nat) : Int) < ((S s).size : Int) := by rw [HSZ.out]; simp
    by_cases hb : 2147483647 < v * 1
    · have HM : Hid (numM s = .error 6) := by unfold Hid; rw [HN.out, HQ.out, ← HD.out, ← HV.out, if_neg (by simp), if_pos hb]
      have hbi : (2147483647 : Int) < (v : Int) := by omega
      clear hb; go_wp2; exact bodyPost_ret (v := .tuple #[.agg #[.int .i64 0, .string ⟨#[]⟩, .int .i64 0], .int .i64 0, .int .i64 6]) (by simp [results, Tryz.results60, go_sem, k0, k1, k2]) rfl (by rw [HM.out]; exact ⟨rfl, by first | exact HE.out | (repeat (first | exact HE.out | refine Below.setCell ?_ (by simp) _))⟩)
    · have HM : Hid (numM s = .ok ({ kind := 3, text := [], num := (v * 1 : Nat) }, [])) := by unfold Hid; rw [HN.out, HQ.out, ← HD.out, ← HV.out, if_neg (by simp), if_neg hb]
      have hbi : ¬ (2147483647 : Int) < (v : Int) := by omega
      clear hb; have HK : Hid (((s.length - ([] : List UInt8).length : Nat) : Int) = ((d.length : Nat) : Int)) := by unfold Hid; have := HL.out; omega
      go_wp2; exact bodyPost_ret (v := .tuple #[.agg #[.int .i64 3, .string ⟨#[]⟩, .int .i64 ((v : Int))], .int .i64 ((d.length : Nat) : Int), .int .i64 0]) (by simp [results, Tryz.results60, go_sem, k0, k1, k2]) rfl (by rw [HM.out]; exact ⟨by rw [HK.out]; simp [tokV, S], by first | exact HE.out | (repeat (first | exact HE.out | refine Below.setCell ?_ (by simp) _))⟩)
  | cons c t =>
    have hlt : d.length < (S s).size := by rw [HSZ.out]; simp
    have HG : Hid ((S s)[d.length]'hlt = c) := jc9 HR.out c t rfl hlt; cases hq : jH c with
    | true =>
      have HM : Hid (numM s = .error 3) := by unfold Hid; rw [HN.out, if_pos (show vK (c :: t) = true from hq)]
      have HC : Hid _ := hq; clear hq; go_wp2_with fail; refine (zB ((S s)[d.length]'hlt) _).mono ?_; rintro e u' ⟨rfl, hu⟩; have hu' := hu.symm; subst hu'; rw [HG.out, HC.out]; go_wp2; exact bodyPost_ret (v := .tuple #[.agg #[.int .i64 0, .string ⟨#[]⟩, .int .i64 0], .int .i64 0, .int .i64 3]) (by simp [results, Tryz.results60, go_sem, k0, k1, k2]) rfl (by rw [HM.out]; exact ⟨rfl, by first | exact HE.out | (repeat (first | exact HE.out | refine Below.setCell ?_ (by simp) _))⟩)
    | false =>
      have HQ : Hid (vK (c :: t) = false) := hq; have HC : Hid _ := hq; clear hq
      by_cases hb : 2147483647 < v * 1
      · have HM : Hid (numM s = .error 6) := by unfold Hid; rw [HN.out, HQ.out, ← HD.out, ← HV.out, if_neg (by simp), if_pos hb]
        have hbi : (2147483647 : Int) < (v : Int) := by omega
        clear hb; go_wp2_with fail; refine (zB ((S s)[d.length]'hlt) _).mono ?_; rintro e u' ⟨rfl, hu⟩; have hu' := hu.symm; subst hu'; rw [HG.out, HC.out]; go_wp2; exact bodyPost_ret (v := .tuple #[.agg #[.int .i64 0, .string ⟨#[]⟩, .int .i64 0], .int .i64 0, .int .i64 6]) (by simp [results, Tryz.results60, go_sem, k0, k1, k2]) rfl (by rw [HM.out]; exact ⟨rfl, by first | exact HE.out | (repeat (first | exact HE.out | refine Below.setCell ?_ (by simp) _))⟩)
      · have HM : Hid (numM s = .ok ({ kind := 3, text := [], num := (v * 1 : Nat) }, (c :: t))) := by unfold Hid; rw [HN.out, HQ.out, ← HD.out, ← HV.out, if_neg (by simp), if_neg hb]
        have hbi : ¬ (2147483647 : Int) < (v : Int) := by omega
        clear hb; have HK : Hid (((s.length - ((c :: t) : List UInt8).length : Nat) : Int) = ((d.length : Nat) : Int)) := by unfold Hid; have := HL.out; omega
        go_wp2_with fail; refine (zB ((S s)[d.length]'hlt) _).mono ?_; rintro e u' ⟨rfl, hu⟩; have hu' := hu.symm; subst hu'; rw [HG.out, HC.out]; go_wp2; exact bodyPost_ret (v := .tuple #[.agg #[.int .i64 3, .string ⟨#[]⟩, .int .i64 ((v : Int))], .int .i64 ((d.length : Nat) : Int), .int .i64 0]) (by simp [results, Tryz.results60, go_sem, k0, k1, k2]) rfl (by rw [HM.out]; exact ⟨by rw [HK.out]; simp [tokV, S], by first | exact HE.out | (repeat (first | exact HE.out | refine Below.setCell ?_ (by simp) _))⟩)
set_option maxHeartbeats 8000000 in
set_option maxRecDepth 100000 in
theorem jb0 (s r2 : List UInt8) (w : World) (hs : s.length ≤ 2000) (ht : zE (s.dropWhile jr) = (1024, r2)) (hl : s.length = (s.takeWhile jr).length + 1 + r2.length) (hr2 : s.drop ((s.takeWhile jr).length + 1) = r2) :
    Calls Tryz.prog 60 #[.string (S s)] w (Tk w s (numM s)) := by
  have HN : Hid _ := jeI ht (by simp); obtain ⟨d, hd⟩ : ∃ d, d = s.takeWhile jr := ⟨_, rfl⟩; rw [← hd] at hl hr2; have hsz : (S s).size = d.length + 1 + r2.length := by rw [jB]; exact hl
  have HZ : Hid (s.length ≤ maxLen) := by unfold Hid maxLen; omega
  have HX : Hid ((S s).extract d.length (S s).size = S (s.dropWhile jr)) := by unfold Hid; rw [qR, hd, jae]
  have HU : Hid ((zE (s.dropWhile jr)).1 = 1024) := by unfold Hid; rw [ht]
  have hs2 : (S s).size ≤ 2000 := by rw [jB]; exact hs
  have HSZ : Hid _ := hsz; have HD : Hid _ := hd; have HR : Hid _ := hr2; have HL : Hid _ := hl; obtain ⟨v, hv⟩ : ∃ v, v = numC d := ⟨_, rfl⟩; have hvb : v ≤ 2147483648 := by rw [hv]; exact jdn d
  have HV : Hid _ := hv; have i1 : (0 : Int) ≤ (d.length : Int) := by omega
  have i2 : (d.length : Int) ≤ ((S s).size : Int) := by omega
  have hdl : d.length ≤ 2000 := by rw [jB] at hsz; omega
  obtain ⟨W0, hW0⟩ : ∃ W0, W0 = (w.alloc (.cells #[.int .i64 0, .string ⟨#[]⟩, .int .i64 0] 50)).alloc (.cells #[.int .i64 0] 3) := ⟨_, rfl⟩; have HT0 : Hid (TokB W0 w.heap.size qx) := by unfold Hid; rw [hW0]; exact (qB w qx).next ((Below.refl _ _).alloc (Nat.le_refl _) _)
  have HB0 : Hid (Box W0 (w.heap.size + 1) (.int .i64 0) 3) := by unfold Hid; rw [hW0]; have := Box.new (w.alloc (.cells #[.int .i64 0, .string ⟨#[]⟩, .int .i64 0] 50)) (.int .i64 0) 3; simpa using this
  have HE0 : Hid (Below w.heap.size w W0) := by unfold Hid; rw [hW0]; exact ((Below.refl _ _).alloc (Nat.le_refl _) _).alloc (by simp) _
  have HW : Hid _ := hW0; clear hW0 hd hv hr2 hl ht hs hsz; go_enter Tryz.func60, Tryz.ntmps60; go_wp2_with fail; rw [← HW.out]; refine (jc3 s (w.heap.size + 1) _ HZ.out HB0.out).mono ?_; rintro e u ⟨rfl, h1, h2⟩; rw [← HD.out, ← HV.out] at h1; rw [← HD.out]; have hT : TokB u w.heap.size qx := HT0.out.but h2 (by omega); have HE : Hid (Below w.heap.size w u) := HE0.out.trans (h2.below (by omega) HE0.out.size); have hc := h1.cell; have hf := h1.free; have f0 := hT.free 0; have f1 := hT.free 1; have f2 := hT.free 2; have k0 : u.cell? ⟨w.heap.size, 0, none⟩ = some (.int .i64 0) := hT.c0; have k1 : u.cell? ⟨w.heap.size, 1, none⟩ = some (.string ⟨#[]⟩) := hT.c1; have k2 : u.cell? ⟨w.heap.size, 2, none⟩ = some (.int .i64 0) := hT.c2; clear h1 h2 hT; go_wp2_with fail; rw [HX.out]; refine (jdt (s.dropWhile jr) _).mono ?_; rintro e u' ⟨rfl, hu⟩; have hu' := hu.symm; subst hu'; rw [HU.out]; cases r2 with
  | nil =>
    have HQ : Hid (vK [] = false) := rfl; have hnl : ¬ ((d.length + 1 : Nat) : Int) < ((S s).size : Int) := by rw [HSZ.out]; simp
    by_cases hb : 2147483647 < v * 1024
    · have HM : Hid (numM s = .error 6) := by unfold Hid; rw [HN.out, HQ.out, ← HD.out, ← HV.out, if_neg (by simp), if_pos hb]
      have hbi : (2147483647 : Int) < (v : Int) * 1024 := by omega
      clear hb; go_wp2; exact bodyPost_ret (v := .tuple #[.agg #[.int .i64 0, .string ⟨#[]⟩, .int .i64 0], .int .i64 0, .int .i64 6]) (by simp [results, Tryz.results60, go_sem, k0, k1, k2]) rfl (by rw [HM.out]; exact ⟨rfl, by first | exact HE.out | (repeat (first | exact HE.out | refine Below.setCell ?_ (by simp) _))⟩)
    · have HM : Hid (numM s = .ok ({ kind := 3, text := [], num := (v * 1024 : Nat) }, [])) := by unfold Hid; rw [HN.out, HQ.out, ← HD.out, ← HV.out, if_neg (by simp), if_neg hb]
      have hbi : ¬ (2147483647 : Int) < (v : Int) * 1024 := by omega
      clear hb; have HK : Hid (((s.length - ([] : List UInt8).length : Nat) : Int) = ((d.length + 1 : Nat) : Int)) := by unfold Hid; have := HL.out; omega
      go_wp2; exact bodyPost_ret (v := .tuple #[.agg #[.int .i64 3, .string ⟨#[]⟩, .int .i64 ((v : Int) * 1024)], .int .i64 ((d.length + 1 : Nat) : Int), .int .i64 0]) (by simp [results, Tryz.results60, go_sem, k0, k1, k2]) rfl (by rw [HM.out]; exact ⟨by rw [HK.out]; simp [tokV, S], by first | exact HE.out | (repeat (first | exact HE.out | refine Below.setCell ?_ (by simp) _))⟩)
  | cons c t =>
    have hlt : d.length + 1 < (S s).size := by rw [HSZ.out]; simp
    have HG : Hid ((S s)[d.length + 1]'hlt = c) := jc9 HR.out c t rfl hlt; cases hq : jH c with
    | true =>
      have HM : Hid (numM s = .error 3) := by unfold Hid; rw [HN.out, if_pos (show vK (c :: t) = true from hq)]
      have HC : Hid _ := hq; clear hq; go_wp2_with fail; refine (zB ((S s)[d.length + 1]'hlt) _).mono ?_; rintro e u' ⟨rfl, hu⟩; have hu' := hu.symm; subst hu'; rw [HG.out, HC.out]; go_wp2; exact bodyPost_ret (v := .tuple #[.agg #[.int .i64 0, .string ⟨#[]⟩, .int .i64 0], .int .i64 0, .int .i64 3]) (by simp [results, Tryz.results60, go_sem, k0, k1, k2]) rfl (by rw [HM.out]; exact ⟨rfl, by first | exact HE.out | (repeat (first | exact HE.out | refine Below.setCell ?_ (by simp) _))⟩)
    | false =>
      have HQ : Hid (vK (c :: t) = false) := hq; have HC : Hid _ := hq; clear hq
      by_cases hb : 2147483647 < v * 1024
      · have HM : Hid (numM s = .error 6) := by unfold Hid; rw [HN.out, HQ.out, ← HD.out, ← HV.out, if_neg (by simp), if_pos hb]
        have hbi : (2147483647 : Int) < (v : Int) * 1024 := by omega
        clear hb; go_wp2_with fail; refine (zB ((S s)[d.length + 1]'hlt) _).mono ?_; rintro e u' ⟨rfl, hu⟩; have hu' := hu.symm; subst hu'; rw [HG.out, HC.out]; go_wp2; exact bodyPost_ret (v := .tuple #[.agg #[.int .i64 0, .string ⟨#[]⟩, .int .i64 0], .int .i64 0, .int .i64 6]) (by simp [results, Tryz.results60, go_sem, k0, k1, k2]) rfl (by rw [HM.out]; exact ⟨rfl, by first | exact HE.out | (repeat (first | exact HE.out | refine Below.setCell ?_ (by simp) _))⟩)
      · have HM : Hid (numM s = .ok ({ kind := 3, text := [], num := (v * 1024 : Nat) }, (c :: t))) := by unfold Hid; rw [HN.out, HQ.out, ← HD.out, ← HV.out, if_neg (by simp), if_neg hb]
        have hbi : ¬ (2147483647 : Int) < (v : Int) * 1024 := by omega
        clear hb; have HK : Hid (((s.length - ((c :: t) : List UInt8).length : Nat) : Int) = ((d.length + 1 : Nat) : Int)) := by unfold Hid; have := HL.out; omega
        go_wp2_with fail; refine (zB ((S s)[d.length + 1]'hlt) _).mono ?_; rintro e u' ⟨rfl, hu⟩; have hu' := hu.symm; subst hu'; rw [HG.out, HC.out]; go_wp2; exact bodyPost_ret (v := .tuple #[.agg #[.int .i64 3, .string ⟨#[]⟩, .int .i64 ((v : Int) * 1024)], .int .i64 ((d.length + 1 : Nat) : Int), .int .i64 0]) (by simp [results, Tryz.results60, go_sem, k0, k1, k2]) rfl (by rw [HM.out]; exact ⟨by rw [HK.out]; simp [tokV, S], by first | exact HE.out | (repeat (first | exact HE.out | refine Below.setCell ?_ (by simp) _))⟩)
set_option maxHeartbeats 8000000 in
set_option maxRecDepth 100000 in
theorem jaC (s r2 : List UInt8) (w : World) (hs : s.length ≤ 2000) (ht : zE (s.dropWhile jr) = (1048576, r2)) (hl : s.length = (s.takeWhile jr).length + 1 + r2.length) (hr2 : s.drop ((s.takeWhile jr).length + 1) = r2) :
    Calls Tryz.prog 60 #[.string (S s)] w (Tk w s (numM s)) := by
  have HN : Hid _ := jeI ht (by simp); obtain ⟨d, hd⟩ : ∃ d, d = s.takeWhile jr := ⟨_, rfl⟩; rw [← hd] at hl hr2; have hsz : (S s).size = d.length + 1 + r2.length := by rw [jB]; exact hl
  have HZ : Hid (s.length ≤ maxLen) := by unfold Hid maxLen; omega
  have HX : Hid ((S s).extract d.length (S s).size = S (s.dropWhile jr)) := by unfold Hid; rw [qR, hd, jae]
  have HU : Hid ((zE (s.dropWhile jr)).1 = 1048576) := by unfold Hid; rw [ht]
  have hs2 : (S s).size ≤ 2000 := by rw [jB]; exact hs
  have HSZ : Hid _ := hsz; have HD : Hid _ := hd; have HR : Hid _ := hr2; have HL : Hid _ := hl; obtain ⟨v, hv⟩ : ∃ v, v = numC d := ⟨_, rfl⟩; have hvb : v ≤ 2147483648 := by rw [hv]; exact jdn d
  have HV : Hid _ := hv; have i1 : (0 : Int) ≤ (d.length : Int) := by omega
  have i2 : (d.length : Int) ≤ ((S s).size : Int) := by omega
  have hdl : d.length ≤ 2000 := by rw [jB] at hsz; omega
  obtain ⟨W0, hW0⟩ : ∃ W0, W0 = (w.alloc (.cells #[.int .i64 0, .string ⟨#[]⟩, .int .i64 0] 50)).alloc (.cells #[.int .i64 0] 3) := ⟨_, rfl⟩; have HT0 : Hid (TokB W0 w.heap.size qx) := by unfold Hid; rw [hW0]; exact (qB w qx).next ((Below.refl _ _).alloc (Nat.le_refl _) _)
  have HB0 : Hid (Box W0 (w.heap.size + 1) (.int .i64 0) 3) := by unfold Hid; rw [hW0]; have := Box.new (w.alloc (.cells #[.int .i64 0, .string ⟨#[]⟩, .int .i64 0] 50)) (.int .i64 0) 3; simpa using this
  have HE0 : Hid (Below w.heap.size w W0) := by unfold Hid; rw [hW0]; exact ((Below.refl _ _).alloc (Nat.le_refl _) _).alloc (by simp) _
  have HW : Hid _ := hW0; clear hW0 hd hv hr2 hl ht hs hsz; go_enter Tryz.func60, Tryz.ntmps60; go_wp2_with fail; rw [← HW.out]; refine (jc3 s (w.heap.size + 1) _ HZ.out HB0.out).mono ?_; rintro e u ⟨rfl, h1, h2⟩; rw [← HD.out, ← HV.out] at h1; rw [← HD.out]; have hT : TokB u w.heap.size qx := HT0.out.but h2 (by omega); have HE : Hid (Below w.heap.size w u) := HE0.out.trans (h2.below (by omega) HE0.out.size); have hc := h1.cell; have hf := h1.free; have f0 := hT.free 0; have f1 := hT.free 1; have f2 := hT.free 2; have k0 : u.cell? ⟨w.heap.size, 0, none⟩ = some (.int .i64 0) := hT.c0; have k1 : u.cell? ⟨w.heap.size, 1, none⟩ = some (.string ⟨#[]⟩) := hT.c1; have k2 : u.cell? ⟨w.heap.size, 2, none⟩ = some (.int .i64 0) := hT.c2; clear h1 h2 hT; go_wp2_with fail; rw [HX.out]; refine (jdt (s.dropWhile jr) _).mono ?_; rintro e u' ⟨rfl, hu⟩; have hu' := hu.symm; subst hu'; rw [HU.out]; cases r2 with
  | nil =>
    have HQ : Hid (vK [] = false) := rfl; have hnl : ¬ ((d.length + 1 : Nat) : Int) < ((S s).size : Int) := by rw [HSZ.out]; simp
    by_cases hb : 2147483647 < v * 1048576
    · have HM : Hid (numM s = .error 6) := by unfold Hid; rw [HN.out, HQ.out, ← HD.out, ← HV.out, if_neg (by simp), if_pos hb]
      have hbi : (2147483647 : Int) < (v : Int) * 1048576 := by omega
      clear hb; go_wp2; exact bodyPost_ret (v := .tuple #[.agg #[.int .i64 0, .string ⟨#[]⟩, .int .i64 0], .int .i64 0, .int .i64 6]) (by simp [results, Tryz.results60, go_sem, k0, k1, k2]) rfl (by rw [HM.out]; exact ⟨rfl, by first | exact HE.out | (repeat (first | exact HE.out | refine Below.setCell ?_ (by simp) _))⟩)
    · have HM : Hid (numM s = .ok ({ kind := 3, text := [], num := (v * 1048576 : Nat) }, [])) := by unfold Hid; rw [HN.out, HQ.out, ← HD.out, ← HV.out, if_neg (by simp), if_neg hb]
      have hbi : ¬ (2147483647 : Int) < (v : Int) * 1048576 := by omega
      clear hb; have HK : Hid (((s.length - ([] : List UInt8).length : Nat) : Int) = ((d.length + 1 : Nat) : Int)) := by unfold Hid; have := HL.out; omega
      go_wp2; exact bodyPost_ret (v := .tuple #[.agg #[.int .i64 3, .string ⟨#[]⟩, .int .i64 ((v : Int) * 1048576)], .int .i64 ((d.length + 1 : Nat) : Int), .int .i64 0]) (by simp [results, Tryz.results60, go_sem, k0, k1, k2]) rfl (by rw [HM.out]; exact ⟨by rw [HK.out]; simp [tokV, S], by first | exact HE.out | (repeat (first | exact HE.out | refine Below.setCell ?_ (by simp) _))⟩)
  | cons c t =>
    have hlt : d.length + 1 < (S s).size := by rw [HSZ.out]; simp
    have HG : Hid ((S s)[d.length + 1]'hlt = c) := jc9 HR.out c t rfl hlt; cases hq : jH c with
    | true =>
      have HM : Hid (numM s = .error 3) := by unfold Hid; rw [HN.out, if_pos (show vK (c :: t) = true from hq)]
      have HC : Hid _ := hq; clear hq; go_wp2_with fail; refine (zB ((S s)[d.length + 1]'hlt) _).mono ?_; rintro e u' ⟨rfl, hu⟩; have hu' := hu.symm; subst hu'; rw [HG.out, HC.out]; go_wp2; exact bodyPost_ret (v := .tuple #[.agg #[.int .i64 0, .string ⟨#[]⟩, .int .i64 0], .int .i64 0, .int .i64 3]) (by simp [results, Tryz.results60, go_sem, k0, k1, k2]) rfl (by rw [HM.out]; exact ⟨rfl, by first | exact HE.out | (repeat (first | exact HE.out | refine Below.setCell ?_ (by simp) _))⟩)
    | false =>
      have HQ : Hid (vK (c :: t) = false) := hq; have HC : Hid _ := hq; clear hq
      by_cases hb : 2147483647 < v * 1048576
      · have HM : Hid (numM s = .error 6) := by unfold Hid; rw [HN.out, HQ.out, ← HD.out, ← HV.out, if_neg (by simp), if_pos hb]
        have hbi : (2147483647 : Int) < (v : Int) * 1048576 := by omega
        clear hb; go_wp2_with fail; refine (zB ((S s)[d.length + 1]'hlt) _).mono ?_; rintro e u' ⟨rfl, hu⟩; have hu' := hu.symm; subst hu'; rw [HG.out, HC.out]; go_wp2; exact bodyPost_ret (v := .tuple #[.agg #[.int .i64 0, .string ⟨#[]⟩, .int .i64 0], .int .i64 0, .int .i64 6]) (by simp [results, Tryz.results60, go_sem, k0, k1, k2]) rfl (by rw [HM.out]; exact ⟨rfl, by first | exact HE.out | (repeat (first | exact HE.out | refine Below.setCell ?_ (by simp) _))⟩)
      · have HM : Hid (numM s = .ok ({ kind := 3, text := [], num := (v * 1048576 : Nat) }, (c :: t))) := by unfold Hid; rw [HN.out, HQ.out, ← HD.out, ← HV.out, if_neg (by simp), if_neg hb]
        have hbi : ¬ (2147483647 : Int) < (v : Int) * 1048576 := by omega
        clear hb; have HK : Hid (((s.length - ((c :: t) : List UInt8).length : Nat) : Int) = ((d.length + 1 : Nat) : Int)) := by unfold Hid; have := HL.out; omega
        go_wp2_with fail; refine (zB ((S s)[d.length + 1]'hlt) _).mono ?_; rintro e u' ⟨rfl, hu⟩; have hu' := hu.symm; subst hu'; rw [HG.out, HC.out]; go_wp2; exact bodyPost_ret (v := .tuple #[.agg #[.int .i64 3, .string ⟨#[]⟩, .int .i64 ((v : Int) * 1048576)], .int .i64 ((d.length + 1 : Nat) : Int), .int .i64 0]) (by simp [results, Tryz.results60, go_sem, k0, k1, k2]) rfl (by rw [HM.out]; exact ⟨by rw [HK.out]; simp [tokV, S], by first | exact HE.out | (repeat (first | exact HE.out | refine Below.setCell ?_ (by simp) _))⟩)
theorem jcu (s : List UInt8) (w : World) (hs : s.length ≤ 2000) :
    Calls Tryz.prog 60 #[.string (S s)] w (Tk w s (numM s)) := by
  have hsp := congrArg List.length (List.takeWhile_append_dropWhile (p := jr) (l := s)); rw [List.length_append] at hsp; have hdr := jae jr s
  rcases je3 (s.dropWhile jr) with h | ⟨c, t, m, h1, h2, h3⟩
  · exact jdZ s _ w hs h (by omega) hdr
  · have e1 : s.drop ((s.takeWhile jr).length + 1) = t := by rw [← List.drop_drop, hdr, h1]; rfl
    have e2 : s.length = (s.takeWhile jr).length + 1 + t.length := by rw [h1, List.length_cons] at hsp; omega
    rcases h3 with rfl | rfl
    · exact jb0 s t w hs h2 e2 e1
    · exact jaC s t w hs h2 e2 e1
end Go.Proofs.YthikilhhmianlaaGreatDoor
namespace Go.Proofs.YthikilhhmianlaaGreatDoor
open Go.RowKit
theorem jjZ : (Tryz.prog.info? 5).map (fun i => (i.zero, i.size, i.bytes)) = some (some (.int .u8 0), 1, 1) := by kernel_rfl
def vI (l : List UInt8) : List Value := l.map fun c => .int .u8 c.toNat
theorem jcc (l : List UInt8) (c : UInt8) (x : Int) (hx : (c.toNat : Int) = x) : vI (l ++ [c]) = vI l ++ [.int .u8 x] := by
  simp [vI, ← hx]
theorem jbV {w : World} {base n : Nat} {v : Value} {l : List UInt8} (h : w.ownsRow base 5 1 v n (vI l)) :
    (convert 46 9 v).run Tryz.prog w = .ok (.string (S l)) w := by
  have hl : l.length = n := by have := h.1; simpa [vI] using this
  rcases h.2 with ⟨rfl, hn⟩ | ⟨g, cap, cur, rfl, _⟩
  · rw [run_convert_bytes_nil w 46 5 Tryz.underlying46 Tryz.underlying5 0 0 9 Tryz.underlying9]; have : l = [] := List.length_eq_zero_iff.1 (by omega); subst this; rfl
  · have := run_convert_bytes_back (P := Tryz.prog) w 46 9 5 ⟨g, 0, none⟩ cap l Tryz.underlying46 Tryz.underlying5 Tryz.underlying9 (fun j hj => by
      have e : (⟨g, 0, none⟩ : Addr).add j = ⟨g, j, none⟩ := by simp [Addr.add]; omega
      rw [e, h.cellAt j (by omega)]
      simp [vI, hj])
    rw [hl] at this; exact this
theorem jcZ {w : World} {base : Nat} {e : TypeId} {size : Nat} {v : Value} {n : Nat} {xs : List Value} (h : w.ownsRow base e size v n xs) : ∃ a c, v = .slice a n c := by
  rcases h.2 with ⟨hv, rfl⟩ | ⟨g, cap, cur, hv, _⟩
  · exact ⟨_, _, hv⟩
  · exact ⟨_, _, hv⟩
theorem zU (w : World) (x : Value) (t : TypeId) : ∀ (j : Nat) u, [x][j]? = some u → (w.alloc (.cells #[x] t)).cell? ((⟨w.heap.size, 0, none⟩ : Addr).add j) = some u := by
  intro j u hj; rw [Addr.add_lit, Nat.zero_add]
  match j, hj with
  | 0, hj => simp at hj; subst hj; simp
def jke (c : UInt8) : UInt8 := UInt8.ofNat (97 + c.toNat % 26)
theorem jh7 (c : UInt8) : ((jke c).toNat : Int) = 97 + (c.toNat : Int) % 26 := by
  unfold jke; have h : 97 + c.toNat % 26 < 256 := by omega
  rw [UInt8.toNat_ofNat_of_lt' (by simpa using h)]; omega
def jdz (l : List UInt8) (k : Nat) : List UInt8 := (l.take k).map jke
def jaq (l : List UInt8) : List UInt8 := if l = [] then [120] else jdz l 8
theorem qF (l : List UInt8) : (jaq l).length ≤ 8 := by unfold jaq jdz; split <;> simp; omega
theorem jhc (s : ByteArray) (k : Nat) (hk : k < s.size) : vI (jdz s.data.toList (k + 1)) = vI (jdz s.data.toList k) ++ [.int .u8 (97 + (s[k].toNat : Int) % 26)] := by
  unfold jdz; rw [jhM s k hk, List.map_append]; exact jcc _ _ _ (jh7 _)
set_option maxHeartbeats 1000000 in
set_option maxRecDepth 100000 in
theorem jdc (s : ByteArray) (w : World) (hs : s.size ≤ maxLen) :
    Calls Tryz.prog 66 #[.string s] w fun e w' => e = .returned (.string (S (jaq s.data.toList))) ∧ Below w.heap.size w w' := by
  unfold maxLen at hs; obtain ⟨i0, hi, hz0, hz1, hz2⟩ := info_parts jjZ; go_enter Tryz.func66, Tryz.ntmps66; go_wp2
  go_loopw [3, 4] (fun v i wr => ∃ k : Nat, k ≤ s.size ∧ k ≤ 8 ∧ i = .int .i64 k ∧ wr.ownsRow w.heap.size 5 1 v k (vI (jdz s.data.toList k)) ∧ Below w.heap.size w wr) (fun _ i _ => 8 - (intOf i).toNat)
  case atStart => exact ⟨0, Nat.zero_le _, Nat.zero_le _, rfl, World.ownsRow_nil _ _ _ _, Below.refl _ _⟩
  case round =>
    obtain ⟨k, hk, hk8, rfl, hown, hB⟩ := hrel
    by_cases hlt : k < s.size ∧ k < 8
    · obtain ⟨hl1, hl2⟩ := hlt; have hu := s[k].toNat_lt; have hu0 : (0 : Int) ≤ (s[k].toNat : Int) := by omega
      have hu1 : (s[k].toNat : Int) ≤ 255 := by omega
      have HS : Hid _ := jhc s k hl1
      go_wp2_with (at_builtin; refine wpList_append_own _ rfl _ _ 46 rfl w.heap.size 5 i0 (.int .u8 0) 1 1 Tryz.underlying46 hi hz0 hz1 hz2 rfl (by decide) _ _ _ rfl (hown.alloc _) ⟨wr.heap.size, 0, none⟩ 1 1 [.int .u8 (97 + (s[k].toNat : Int) % 26)] rfl rfl (zU _ _ _) ?c2 ?c3 ?c4 ?c5 ?_)
      case c2 => intro u hu; simp at hu; subst hu; rfl
      case c3 => unfold maxLen; omega
      case c4 => omega
      case c5 => have := hB.size; simp; omega
      intro v' w2 hown' hgrow _; have hsz := hB.size; have hB2 : Below w.heap.size w w2 := (hB.alloc hsz _).grown hgrow (by simp; omega) (fun j hj => (hown.lt j hj).1); rw [← HS.out] at hown'; clear hgrow hown; go_wp2
      go_roundw
      case rel => first | exact ⟨k + 1, by omega, by omega, by go_num, hown', hB2⟩ | ((repeat apply Exists.intro); exact ⟨⟨k + 1, by omega, by omega, by go_num, hown', hB2⟩, rfl⟩) | (refine ⟨trivial, ?_⟩; (repeat apply Exists.intro); exact ⟨⟨k + 1, by omega, by omega, by go_num, hown', hB2⟩, rfl⟩)
      case measure => simp [intOf]; omega
    · by_cases h0 : s.size = 0
      · have hk0 : k = 0 := by omega
        subst hk0; have HW : Hid (jaq s.data.toList = [120]) := by
          have : s.data.toList = [] := List.length_eq_zero_iff.1 (by rw [size_list]; exact h0); unfold Hid jaq; rw [if_pos this]
        obtain ⟨a0, c0, rfl⟩ := jcZ hown; go_wp2; go_ret; exact ⟨by rw [HW.out]; rfl, hB⟩
      · have HT : Hid (jaq s.data.toList = jdz s.data.toList k) := by
          have hne : s.data.toList ≠ [] := fun e => by have := size_list s; rw [e] at this; simp at this; omega
          unfold Hid jaq; rw [if_neg hne]
          by_cases h8 : k = 8
          · rw [h8]
          · unfold jdz; rw [List.take_of_length_le (by rw [size_list]; omega), List.take_of_length_le (by rw [size_list]; omega)]
        have hkp : (k : Int) ≠ 0 := by omega
        have hkb : ((k : Int) == 0) = false := by simpa using hkp
        have hrun := jbV hown; obtain ⟨a0, c0, rfl⟩ := jcZ hown
        by_cases h8 : k < s.size
        · have hk8' : ¬ k < 8 := fun h => hlt ⟨h8, h⟩
          go_wp2; go_ret; exact ⟨by rw [HT.out]; rfl, hB⟩
        · go_wp2; go_ret; exact ⟨by rw [HT.out]; rfl, hB⟩
end Go.Proofs.YthikilhhmianlaaGreatDoor
namespace Go.Proofs.YthikilhhmianlaaGreatDoor
open Go.RowKit Go.Proofs
def qv (x : Bool × List UInt8) (c : UInt8) : Bool × List UInt8 := if x.1 then (false, x.2 ++ [c]) else if c = 92 then (true, x.2) else (false, x.2 ++ [c])
def runS : Bool → List UInt8 → Nat
  | _, [] => 0
  | true, _ :: t => runS false t + 1
  | false, c :: t => if c = 34 then 0 else if c = 92 then runS true t + 1 else runS false t + 1
theorem jhv (l : List UInt8) : ∀ b, runS b l ≤ l.length := by
  induction l with
  | nil => intro b; cases b <;> simp [runS]
  | cons c t ih =>
    intro b; cases b with
    | true => simp only [runS, List.length_cons]; have := ih false; omega
    | false =>
      simp only [runS, List.length_cons]; split
      · omega
      · split
        · have := ih true; omega
        · have := ih false; omega
theorem jiJ (l : List UInt8) : ∀ b acc k (h : k < l.length), k < runS b l → ((l.take k).foldl qv (b, acc)).1 = true ∨ l[k] ≠ 34 := by
  induction l with
  | nil => intro b acc k h; simp at h
  | cons c t ih =>
    intro b acc k h hk; cases k with
    | zero =>
      cases b with
      | true => exact Or.inl rfl
      | false =>
        simp only [runS] at hk; split at hk
        · omega
        · rename_i hc; exact Or.inr hc
    | succ k =>
      have h' : k < t.length := by simpa using h
      simp only [List.take_succ_cons, List.foldl_cons, List.getElem_cons_succ]; cases b with
      | true =>
        simp only [runS] at hk; have e : qv (true, acc) c = (false, acc ++ [c]) := rfl; rw [e]; exact ih false _ k h' (by omega)
      | false =>
        simp only [runS] at hk; split at hk
        · omega
        · split at hk
          · rename_i h2; have e : qv (false, acc) c = (true, acc) := by simp [qv, h2]
            rw [e]; exact ih true _ k h' (by omega)
          · rename_i h2; have e : qv (false, acc) c = (false, acc ++ [c]) := by simp [qv, h2]
            rw [e]; exact ih false _ k h' (by omega)
theorem jj0 (l : List UInt8) : ∀ b acc (h : runS b l < l.length), ((l.take (runS b l)).foldl qv (b, acc)).1 = false ∧ l[runS b l] = 34 := by
  induction l with
  | nil => intro b acc h; simp at h
  | cons c t ih =>
    intro b acc h; cases b with
    | true =>
      simp only [runS, List.length_cons] at h; have e : qv (true, acc) c = (false, acc ++ [c]) := rfl; simp only [runS, List.take_succ_cons, List.foldl_cons, List.getElem_cons_succ]; rw [e]; exact ih false _ (by omega)
    | false =>
      by_cases h1 : c = 34
      · have e0 : runS false (c :: t) = 0 := by simp [runS, h1]
        simp only [e0, List.take_zero, List.foldl_nil, List.getElem_cons_zero]; exact ⟨trivial, h1⟩
      · by_cases h2 : c = 92
        · have e0 : runS false (c :: t) = runS true t + 1 := by simp [runS, h2]
          have e : qv (false, acc) c = (true, acc) := by simp [qv, h2]
          simp only [e0, List.length_cons] at h; simp only [e0, List.take_succ_cons, List.foldl_cons, List.getElem_cons_succ]; rw [e]; exact ih true _ (by omega)
        · have e0 : runS false (c :: t) = runS false t + 1 := by simp [runS, h1, h2]
          have e : qv (false, acc) c = (false, acc ++ [c]) := by simp [qv, h2]
          simp only [e0, List.length_cons] at h; simp only [e0, List.take_succ_cons, List.foldl_cons, List.getElem_cons_succ]; rw [e]; exact ih false _ (by omega)
theorem jiq (l : List UInt8) : ∀ b, match strM b l with
    | none => runS b l = l.length
    | some (x, r) => runS b l < l.length ∧ r = l.drop (runS b l + 1) ∧ ∀ acc, ((l.take (runS b l)).foldl qv (b, acc)).2 = acc ++ x := by
  induction l with
  | nil => intro b; cases b <;> simp [strM, runS]
  | cons c t ih =>
    intro b; have more : ∀ (b' : Bool) (g : List UInt8 → List UInt8), runS b (c :: t) = runS b' t + 1 → strM b (c :: t) = (strM b' t).map (fun x => (g x.1, x.2)) → (∀ acc, ∃ acc', qv (b, acc) c = (b', acc') ∧ ∀ x, acc' ++ x = acc ++ g x) →
        (match strM b (c :: t) with
        | none => runS b (c :: t) = (c :: t).length
        | some (x, r) => runS b (c :: t) < (c :: t).length ∧ r = (c :: t).drop (runS b (c :: t) + 1) ∧ ∀ acc, (((c :: t).take (runS b (c :: t))).foldl qv (b, acc)).2 = acc ++ x) := by
      intro b' g h1 h2 h3; have hh := ih b'; rw [h2, h1]; cases hs : strM b' t with
      | none => rw [hs] at hh; simp only at hh; simp [hh]
      | some x =>
        rw [hs] at hh; obtain ⟨q1, q2, q3⟩ := hh; simp only [Option.map_some]; refine ⟨by simp; omega, by rw [q2]; rfl, fun acc => ?_⟩; obtain ⟨acc', e1, e2⟩ := h3 acc; rw [List.take_succ_cons, List.foldl_cons, e1, q3, e2]
    cases b with
    | true => exact more false (c :: ·) (by simp [runS]) (by simp [strM]) (fun acc => ⟨acc ++ [c], rfl, by simp⟩)
    | false =>
      by_cases h1 : c = 34
      · have e0 : runS false (c :: t) = 0 := by simp [runS, h1]
        have e1 : strM false (c :: t) = some ([], t) := by simp [strM, h1]
        rw [e1, e0]; exact ⟨by simp, rfl, by simp⟩
      · by_cases h2 : c = 92
        · exact more true id (by simp [runS, h2]) (by simp [strM, h2]) (fun acc => ⟨acc, by simp [qv, h2], by simp⟩)
        · exact more false (c :: ·) (by simp [runS, h1, h2]) (by simp [strM, h1, h2]) (fun acc => ⟨acc ++ [c], by simp [qv, h2], by simp⟩)
def stS (l : List UInt8) (k : Nat) : Bool × List UInt8 := (l.take k).foldl qv (false, [])
theorem jfq {l : List UInt8} {k : Nat} (h : k < l.length) : stS l (k + 1) = qv (stS l k) l[k] := by
  unfold stS; rw [List.take_succ_eq_append_getElem h, List.foldl_append]; rfl
theorem jkp (l : List UInt8) (k : Nat) : (stS l k).2.length ≤ k := by
  induction k with
  | zero => simp [stS]
  | succ k ih =>
    by_cases h : k < l.length
    · rw [jfq h]; unfold qv; split
      · simp; omega
      · split
        · simp only; omega
        · simp; omega
    · have : stS l (k + 1) = stS l k := by unfold stS; rw [List.take_of_length_le (by omega), List.take_of_length_le (by omega)]
      rw [this]; omega
def StrI (h : Nat) (x : Bool × List UInt8) (u : World) : Prop :=
  Box u (h + 2) (.bool x.1) 4 ∧ (∃ a c, Box u (h + 1) (.slice a x.2.length c) 46 ∧ u.ownsRow (h + 3) 5 1 (.slice a x.2.length c) x.2.length (vI x.2)) ∧ h + 3 ≤ u.heap.size
set_option maxHeartbeats 2000000 in
theorem jf4 (h : Nat) (c : UInt8) (l : List UInt8) (w : World) (hI : StrI h (false, l) w) (hc : c = 34) :
    Calls Tryz.prog 87 #[.int .u8 c.toNat, .pointer (some ⟨h + 2, 0, none⟩), .pointer (some ⟨h + 1, 0, none⟩)] w fun e w' => e = .returned (.bool false) ∧ w' = w := by
  have h1 := hI.1.cell; have hq : (c.toNat : Int) = 34 := by rw [hc]; rfl
  clear hc hI; go_enter Tryz.func87, Tryz.ntmps87; go_wp2; go_ret; exact ⟨rfl, rfl⟩
set_option maxHeartbeats 2000000 in
theorem jef (h : Nat) (c : UInt8) (l : List UInt8) (w : World) (hI : StrI h (false, l) w) (hc : c = 92) :
    Calls Tryz.prog 87 #[.int .u8 c.toNat, .pointer (some ⟨h + 2, 0, none⟩), .pointer (some ⟨h + 1, 0, none⟩)] w fun e w' => e = .returned (.bool true) ∧ StrI h (true, l) w' ∧ Below (h + 1) w w' := by
  obtain ⟨hP, ⟨a, cp, hT, hO⟩, hz⟩ := hI; have h1 := hP.cell; have h2 := hP.free; have hq : (c.toNat : Int) = 92 := by rw [hc]; rfl
  have HP : Hid _ := hP; have HT : Hid _ := hT; have HO : Hid _ := hO; clear hc hP hT hO; go_enter Tryz.func87, Tryz.ntmps87; go_wp2; go_ret; refine ⟨rfl, ⟨Box.set HP.out _, ⟨a, cp, Box.but HT.out (But.set _ _) (by omega), qV HO.out (But.set _ _) (by omega)⟩, by simpa [World.setCell] using hz⟩, (But.set _ _).below (by omega) (by omega)⟩
theorem jb5 (W : World) (n : Nat) (hn : W.heap.size = n) (x : Value) (t : TypeId) : ∀ (j : Nat) u, [x][j]? = some u → (W.alloc (.cells #[x] t)).cell? ((⟨n, 0, none⟩ : Addr).add j) = some u := by
  subst hn; exact zU W x t
set_option maxHeartbeats 4000000 in
set_option maxRecDepth 100000 in
theorem jeA (h : Nat) (c : UInt8) (b : Bool) (l : List UInt8) (w : World) (hI : StrI h (b, l) w) (hl : l.length ≤ 2000) (hc : b = true ∨ (c ≠ 34 ∧ c ≠ 92)) :
    Calls Tryz.prog 87 #[.int .u8 c.toNat, .pointer (some ⟨h + 2, 0, none⟩), .pointer (some ⟨h + 1, 0, none⟩)] w fun e w' => e = .returned (.bool true) ∧ StrI h (false, l ++ [c]) w' ∧ Below (h + 1) w w' := by
  obtain ⟨i0, hi, hz0, hz1, hz2⟩ := info_parts jjZ; obtain ⟨hP, ⟨a, cp, hT, hO⟩, hz⟩ := hI; simp only at hP hT hO; have h1 := hP.cell; have h2 := hP.free; have h3 := hT.cell; have h4 := hT.free; have HP : Hid _ := hP; have HT : Hid _ := hT; have HO : Hid _ := hO; have hO1 : (w.setCell ⟨h + 2, 0, none⟩ (.bool false)).ownsRow (h + 3) 5 1 (.slice a l.length cp) l.length (vI l) := qV HO.out (But.set _ _) (by omega); have HO1 : Hid _ := hO1; have hzw : h + 3 ≤ (w.setCell ⟨h + 2, 0, none⟩ (.bool false)).heap.size := by simpa [World.setCell] using hz
  have HZW : Hid _ := hzw; have HPs : Hid (Box (w.setCell ⟨h + 2, 0, none⟩ (.bool false)) (h + 2) (.bool false) 4) := Box.set HP.out _; have HTs : Hid (Box (w.setCell ⟨h + 2, 0, none⟩ (.bool false)) (h + 1) (.slice a l.length cp) 46) := Box.but HT.out (But.set _ _) (by omega); have HBs : Hid (Below (h + 1) w (w.setCell ⟨h + 2, 0, none⟩ (.bool false))) := (But.set _ _).below (by omega) (by omega); have hc' : (b = true) ∨ (b = false ∧ ¬ (c.toNat : Int) = 34 ∧ ¬ (c.toNat : Int) = 92) := by
    rcases hc with hc | ⟨q1, q2⟩
    · exact Or.inl hc
    · cases b with
      | true => exact Or.inl rfl
      | false => exact Or.inr ⟨rfl, fun e => q1 (UInt8.toNat_inj.1 (by show c.toNat = 34; omega)), fun e => q2 (UInt8.toNat_inj.1 (by show c.toNat = 92; omega))⟩
  clear hc hP hT hO hO1 hzw; have fin : ∀ (v' : Value) (w2 : World), w2.ownsRow (h + 3) 5 1 v' (l.length + 1) (vI l ++ [.int .u8 c.toNat]) → Below (h + 3) (w.setCell ⟨h + 2, 0, none⟩ (.bool false)) w2 → ∃ a2 c2, v' = .slice a2 (l.length + 1) c2 ∧ w2.cell? ⟨h + 1, 0, none⟩ = some (.slice a l.length cp) ∧ w2.frozen? ⟨h + 1, 0, none⟩ = false ∧ StrI h (false, l ++ [c]) (w2.setCell ⟨h + 1, 0, none⟩ v') ∧ Below (h + 1) w (w2.setCell ⟨h + 1, 0, none⟩ v') := by
    intro v' w2 hown hbel; obtain ⟨a2, c2, rfl⟩ := jcZ hown; have hTb := HTs.out.below hbel (by omega); have hPb := HPs.out.below hbel (by omega); have e : (l ++ [c]).length = l.length + 1 := by simp
    refine ⟨a2, c2, rfl, hTb.cell, hTb.free, ⟨Box.but hPb (But.set _ _) (by omega), ⟨a2, c2, ?_, ?_⟩, ?_⟩, ?_⟩
    · simp only [e]; exact Box.set hTb _
    · simp only [e]; rw [jcc l c _ rfl]; exact qV hown (But.set _ _) (by omega)
    · have := hbel.size; have hz3 := HZW.out; simp only [World.setCell] at this hz3 ⊢; simp at this hz3 ⊢; omega
    · exact (HBs.out.trans (hbel.mono (by omega))).setCell (by simp) _
  have FIN : Hid _ := fin; clear fin
  rcases hc' with hb | ⟨hb, q1, q2⟩
  · subst hb; go_enter Tryz.func87, Tryz.ntmps87
    go_wp2_with (at_builtin; refine wpList_append_own _ rfl _ _ 46 rfl (h + 3) 5 i0 (.int .u8 0) 1 1 Tryz.underlying46 hi hz0 hz1 hz2 rfl (by decide) _ _ _ rfl (World.ownsRow.alloc HO1.out _) ⟨w.heap.size, 0, none⟩ 1 1 [.int .u8 c.toNat] rfl rfl (jb5 _ _ (by simp [World.setCell]) _ _) ?c2a ?c3a ?c4a ?c5a ?_)
    case c2a => intro u hu; simp at hu; subst hu; rfl
    case c3a => unfold maxLen; omega
    case c4a => omega
    case c5a => have := HZW.out; simp at this ⊢; omega
    intro v' w2 hown' hgrow _; have hB2 : Below (h + 3) (w.setCell ⟨h + 2, 0, none⟩ (.bool false)) w2 := ((Below.refl _ _).alloc HZW.out _).grown hgrow (by have := HZW.out; simp at this ⊢; omega) (fun j hj => (World.ownsRow.lt HO1.out j hj).1); obtain ⟨a2, c2, rfl, d1, d2, d3, d4⟩ := FIN.out v' w2 hown' hB2; have D3 : Hid _ := d3; have D4 : Hid _ := d4; clear hown' hgrow hB2 d3 d4; go_wp2; go_ret; exact ⟨rfl, D3.out, D4.out⟩
  · subst hb; go_enter Tryz.func87, Tryz.ntmps87
    go_wp2_with (at_builtin; refine wpList_append_own _ rfl _ _ 46 rfl (h + 3) 5 i0 (.int .u8 0) 1 1 Tryz.underlying46 hi hz0 hz1 hz2 rfl (by decide) _ _ _ rfl (World.ownsRow.alloc HO1.out _) ⟨w.heap.size, 0, none⟩ 1 1 [.int .u8 c.toNat] rfl rfl (jb5 _ _ (by simp [World.setCell]) _ _) ?c2b ?c3b ?c4b ?c5b ?_)
    case c2b => intro u hu; simp at hu; subst hu; rfl
    case c3b => unfold maxLen; omega
    case c4b => omega
    case c5b => have := HZW.out; simp at this ⊢; omega
    intro v' w2 hown' hgrow _; have hB2 : Below (h + 3) (w.setCell ⟨h + 2, 0, none⟩ (.bool false)) w2 := ((Below.refl _ _).alloc HZW.out _).grown hgrow (by have := HZW.out; simp at this ⊢; omega) (fun j hj => (World.ownsRow.lt HO1.out j hj).1); obtain ⟨a2, c2, rfl, d1, d2, d3, d4⟩ := FIN.out v' w2 hown' hB2; have D3 : Hid _ := d3; have D4 : Hid _ := d4; clear hown' hgrow hB2 d3 d4; go_wp2; go_ret; exact ⟨rfl, D3.out, D4.out⟩
end Go.Proofs.YthikilhhmianlaaGreatDoor
