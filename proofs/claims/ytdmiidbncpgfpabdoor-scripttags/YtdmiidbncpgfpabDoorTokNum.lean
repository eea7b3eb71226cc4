/-
  What token.readNumber does: the walk. Its closure counts in a variable that it has captured.
-/
import Derived.Test.YtdmiidbncpgfpabDoorTokMem
import Derived.Test.YtdmiidbncpgfpabDoorTokUnit
import Derived.Test.YtdmiidbncpgfpabDoorTokLaws
namespace Go.Proofs.YtdmiidbncpgfpabDoor
open Go.RowKit Go.Proofs

/-- The number of digits, up to just above the bound. -/
def numC (l : List UInt8) : Nat := min (decV l) 2147483648
theorem numC_snoc (l : List UInt8) (c : UInt8) : numC (l ++ [c]) = min (numC l * 10 + (c.toNat - 48)) 2147483648 := by unfold numC; rw [decV_snoc]; omega
theorem numC_le (l : List UInt8) : numC l ≤ 2147483648 := by unfold numC; omega

set_option maxHeartbeats 2000000 in
theorem numStep_yes (b : Nat) (c : UInt8) (v : Nat) (w : World) (hb : Box w b (.int .i64 v) 3) (hv : v ≤ 2147483648) (hc : digitC c = true) :
    Calls Tryd.prog 57 #[.int .u8 c.toNat, .pointer (some ⟨b, 0, none⟩)] w fun e w' => e = .returned (.bool true) ∧ Box w' b (.int .i64 (min (v * 10 + (c.toNat - 48)) 2147483648 : Nat)) 3 ∧ But b w w' := by
  have h1 := hb.cell
  have h2 := hb.free
  have HC : Hid _ := hc
  have hc' : 48 ≤ c.toNat ∧ c.toNat ≤ 57 := by unfold digitC at hc; simpa using hc
  obtain ⟨c1, c2⟩ := hc'
  have c3 : (48 : Int) ≤ (c.toNat : Int) := by omega
  have c4 : (c.toNat : Int) ≤ 57 := by omega
  have HB : Hid _ := hb
  clear hc hb
  go_enter Tryd.func57, Tryd.ntmps57
  go_wp2_with fail
  refine (isDigit_any c _).mono ?_
  rintro e u ⟨rfl, hu⟩
  have hu' := hu.symm
  subst hu'
  rw [HC.out]
  go_wp2
  · go_ret
    refine ⟨rfl, ?_, But.set _ _⟩
    have e : ((min (v * 10 + (c.toNat - 48)) 2147483648 : Nat) : Int) = 2147483648 := by omega
    rw [e]
    exact Box.set HB.out _
  · go_ret
    refine ⟨rfl, ?_, But.set _ _⟩
    have e : ((min (v * 10 + (c.toNat - 48)) 2147483648 : Nat) : Int) = (v : Int) * 10 + ((c.toNat : Int) - 48) := by omega
    rw [e]
    exact Box.set HB.out _

set_option maxHeartbeats 2000000 in
theorem numStep_no (b : Nat) (c : UInt8) (w : World) (hc : digitC c = false) :
    Calls Tryd.prog 57 #[.int .u8 c.toNat, .pointer (some ⟨b, 0, none⟩)] w fun e w' => e = .returned (.bool false) ∧ w' = w := by
  have HC : Hid _ := hc
  clear hc
  go_enter Tryd.func57, Tryd.ntmps57
  go_wp2_with fail
  refine (isDigit_any c _).mono ?_
  rintro e u ⟨rfl, hu⟩
  have hu' := hu.symm
  subst hu'
  rw [HC.out]
  go_wp2
  go_ret
  exact ⟨rfl, rfl⟩
theorem entersNum : ∀ args w, (callFunc 57 args).run Tryd.prog w = .ok (.enter 57 args) w := enters_of Tryd.func57 (by kernel_rfl) rfl

theorem span_num (s : List UInt8) (b : Nat) (w : World) (hs : s.length ≤ maxLen) (hb : Box w b (.int .i64 0) 3) :
    Calls Tryd.prog 28 #[.string (S s), .func (.func 57) #[] #[.pointer (some ⟨b, 0, none⟩)]] w fun e w' => e = .returned (.int .i64 ((s.takeWhile digitC).length : Nat)) ∧ Box w' b (.int .i64 (numC (s.takeWhile digitC) : Nat)) 3 ∧ But b w w' := by
  have hle : (s.takeWhile digitC).length ≤ (S s).size := by rw [size_S]; exact (List.takeWhile_prefix digitC).length_le
  have htk : s.take (s.takeWhile digitC).length = s.takeWhile digitC := by
    have := List.takeWhile_append_dropWhile (p := digitC) (l := s)
    conv => lhs; arg 2; rw [← this]
    rw [List.take_left]
  refine (span_any (S s) 57 _ entersNum (s.takeWhile digitC).length (fun k u => Box u b (.int .i64 (numC (s.take k) : Nat)) 3 ∧ But b w u) w (by rw [size_S]; exact hs) hle ?_ ?_ ⟨hb, But.refl _ _⟩).mono ?_
  · intro k h u hk ⟨hB, hU⟩
    have hk' : k < s.length := by rw [size_S] at h; exact h
    have hg : (S s)[k] = s[k] := S_get s k h hk'
    have hd : digitC (S s)[k] = true := by rw [hg]; exact takeW_yes hk' hk
    have e1 : s.take (k + 1) = s.take k ++ [(S s)[k]] := by rw [hg]; exact List.take_succ_eq_append_getElem hk'
    refine (numStep_yes b (S s)[k] (numC (s.take k)) u hB (numC_le _) hd).mono ?_
    rintro e u' ⟨rfl, h1, h2⟩
    refine ⟨rfl, ?_, hU.trans h2⟩
    show Box u' b (.int .i64 (numC (s.take (k + 1)) : Nat)) _
    rw [e1, numC_snoc]
    exact h1
  · intro h u ⟨hB, hU⟩
    have hk' : (s.takeWhile digitC).length < s.length := by rw [size_S] at h; exact h
    have hg : (S s)[(s.takeWhile digitC).length] = s[(s.takeWhile digitC).length] := S_get s _ h hk'
    refine (numStep_no b (S s)[(s.takeWhile digitC).length] u (by rw [hg]; exact takeW_no hk')).mono ?_
    rintro e u' ⟨rfl, rfl⟩
    exact ⟨rfl, hB, hU⟩
  · rintro e u ⟨rfl, h1, h2⟩
    exact ⟨rfl, by rw [← htk]; simpa [htk] using h1, h2⟩

theorem times_cases (r : List UInt8) : (timesM r = (1, r)) ∨ ∃ c t m, r = c :: t ∧ timesM r = (m, t) ∧ (m = 1024 ∨ m = 1048576) := by
  cases r with
  | nil => exact Or.inl rfl
  | cons c t =>
    have e0 : timesM (c :: t) = if c = 75 ∨ c = 107 then (1024, t) else if c = 77 ∨ c = 109 then (1048576, t) else (1, c :: t) := rfl
    rw [e0]
    split
    · exact Or.inr ⟨c, t, 1024, rfl, rfl, Or.inl rfl⟩
    · split
      · exact Or.inr ⟨c, t, 1048576, rfl, rfl, Or.inr rfl⟩
      · exact Or.inl rfl
set_option maxRecDepth 100000 in
/-- What numM comes to, by the capped count. -/
theorem numM_by {s r2 : List UInt8} {m : Nat} (ht : timesM (s.dropWhile digitC) = (m, r2)) (hm : m = 1 ∨ m = 1024 ∨ m = 1048576) :
    numM s = if headW r2 then .error 3 else if 2147483647 < numC (s.takeWhile digitC) * m then .error 6 else .ok ({ kind := 3, text := [], num := (numC (s.takeWhile digitC) * m : Nat) }, r2) := by
  unfold numM
  rw [ht]
  simp only
  split
  · rfl
  · have hc : numC (s.takeWhile digitC) = min (decV (s.takeWhile digitC)) 2147483648 := rfl
    rw [hc]
    generalize decV (s.takeWhile digitC) = x
    have hm1 : 1 ≤ m := by rcases hm with rfl | rfl | rfl <;> decide
    by_cases hx : x ≤ 2147483648
    · rw [Nat.min_eq_left hx]
    · have h1 : 2147483647 < x * m := Nat.lt_of_lt_of_le (show 2147483647 < x by omega) (Nat.le_mul_of_pos_right x hm1)
      have h2 : 2147483647 < 2147483648 * m := Nat.lt_of_lt_of_le (show 2147483647 < 2147483648 by omega) (Nat.le_mul_of_pos_right _ hm1)
      rw [Nat.min_eq_right (by omega), if_pos h1, if_pos h2]
theorem drop_takeW (p : UInt8 → Bool) (s : List UInt8) : s.drop (s.takeWhile p).length = s.dropWhile p := by
  have := List.takeWhile_append_dropWhile (p := p) (l := s)
  conv => lhs; arg 2; rw [← this]
  rw [List.drop_left]
theorem headW_at {s r2 : List UInt8} {n : Nat} (hn : s.drop n = r2) (c : UInt8) (t : List UInt8) (h2 : r2 = c :: t) (h : n < (S s).size) : (S s)[n] = c := by
  rw [size_S] at h
  have := S_get s n (by rw [size_S]; exact h) h
  rw [this]
  rw [h2, List.drop_eq_getElem_cons h] at hn
  exact (List.cons.inj hn).1

set_option maxHeartbeats 8000000 in
set_option maxRecDepth 100000 in
theorem readNumber_1 (s r2 : List UInt8) (w : World) (hs : s.length ≤ 2000) (ht : timesM (s.dropWhile digitC) = (1, r2)) (hl : s.length = (s.takeWhile digitC).length + 0 + r2.length) (hr2 : s.drop ((s.takeWhile digitC).length + 0) = r2) :
    Calls Tryd.prog 37 #[.string (S s)] w (Tk w s (numM s)) := by
  have HN : Hid _ := numM_by ht (by simp)
  obtain ⟨d, hd⟩ : ∃ d, d = s.takeWhile digitC := ⟨_, rfl⟩
  rw [← hd] at hl hr2
  have hsz : (S s).size = d.length + 0 + r2.length := by rw [size_S]; exact hl
  have HZ : Hid (s.length ≤ maxLen) := by unfold Hid maxLen; omega
  have HX : Hid ((S s).extract d.length (S s).size = S (s.dropWhile digitC)) := by unfold Hid; rw [S_drop, hd, drop_takeW]
  have HU : Hid ((timesM (s.dropWhile digitC)).1 = 1) := by unfold Hid; rw [ht]
  have hs2 : (S s).size ≤ 2000 := by rw [size_S]; exact hs
  have HSZ : Hid _ := hsz
  have HD : Hid _ := hd
  have HR : Hid _ := hr2
  have HL : Hid _ := hl
  obtain ⟨v, hv⟩ : ∃ v, v = numC d := ⟨_, rfl⟩
  have hvb : v ≤ 2147483648 := by rw [hv]; exact numC_le d
  have HV : Hid _ := hv
  have i1 : (0 : Int) ≤ (d.length : Int) := by omega
  have i2 : (d.length : Int) ≤ ((S s).size : Int) := by omega
  have hdl : d.length ≤ 2000 := by rw [size_S] at hsz; omega
  obtain ⟨W0, hW0⟩ : ∃ W0, W0 = (w.alloc (.cells #[.int .i64 0, .string ⟨#[]⟩, .int .i64 0] 48)).alloc (.cells #[.int .i64 0] 3) := ⟨_, rfl⟩
  have HT0 : Hid (TokB W0 w.heap.size zeroT) := by unfold Hid; rw [hW0]; exact (tokB_new w zeroT).next ((Below.refl _ _).alloc (Nat.le_refl _) _)
  have HB0 : Hid (Box W0 (w.heap.size + 1) (.int .i64 0) 3) := by unfold Hid; rw [hW0]; have := Box.new (w.alloc (.cells #[.int .i64 0, .string ⟨#[]⟩, .int .i64 0] 48)) (.int .i64 0) 3; simpa using this
  have HE0 : Hid (Below w.heap.size w W0) := by unfold Hid; rw [hW0]; exact ((Below.refl _ _).alloc (Nat.le_refl _) _).alloc (by simp) _
  have HW : Hid _ := hW0
  clear hW0 hd hv hr2 hl ht hs hsz
  go_enter Tryd.func37, Tryd.ntmps37
  go_wp2_with fail
  rw [← HW.out]
  refine (span_num s (w.heap.size + 1) _ HZ.out HB0.out).mono ?_
  rintro e u ⟨rfl, h1, h2⟩
  rw [← HD.out, ← HV.out] at h1
  rw [← HD.out]
  have hT : TokB u w.heap.size zeroT := HT0.out.but h2 (by omega)
  have HE : Hid (Below w.heap.size w u) := HE0.out.trans (h2.below (by omega) HE0.out.size)
  have hc := h1.cell
  have hf := h1.free
  have f0 := hT.free 0
  have f1 := hT.free 1
  have f2 := hT.free 2
  have k0 : u.cell? ⟨w.heap.size, 0, none⟩ = some (.int .i64 0) := hT.c0
  have k1 : u.cell? ⟨w.heap.size, 1, none⟩ = some (.string ⟨#[]⟩) := hT.c1
  have k2 : u.cell? ⟨w.heap.size, 2, none⟩ = some (.int .i64 0) := hT.c2
  clear h1 h2 hT
  go_wp2_with fail
  rw [HX.out]
  refine (unit_any (s.dropWhile digitC) _).mono ?_
  rintro e u' ⟨rfl, hu⟩
  have hu' := hu.symm
  subst hu'
  rw [HU.out]
  cases r2 with
  | nil =>
    have HQ : Hid (headW [] = false) := rfl
    have hnl : ¬ ((d.length : Nat) : Int) < ((S s).size : Int) := by rw [HSZ.out]; simp
    by_cases hb : 2147483647 < v * 1
    · have HM : Hid (numM s = .error 6) := by unfold Hid; rw [HN.out, HQ.out, ← HD.out, ← HV.out, if_neg (by simp), if_pos hb]
      have hbi : (2147483647 : Int) < (v : Int) := by omega
      clear hb
      go_wp2
      exact bodyPost_ret (v := .tuple #[.agg #[.int .i64 0, .string ⟨#[]⟩, .int .i64 0], .int .i64 0, .int .i64 6]) (by simp [results, Tryd.results37, go_sem, k0, k1, k2]) rfl (by rw [HM.out]; exact ⟨rfl, by first | exact HE.out | (repeat (first | exact HE.out | refine Below.setCell ?_ (by simp) _))⟩)
    · have HM : Hid (numM s = .ok ({ kind := 3, text := [], num := (v * 1 : Nat) }, [])) := by unfold Hid; rw [HN.out, HQ.out, ← HD.out, ← HV.out, if_neg (by simp), if_neg hb]
      have hbi : ¬ (2147483647 : Int) < (v : Int) := by omega
      clear hb
      have HK : Hid (((s.length - ([] : List UInt8).length : Nat) : Int) = ((d.length : Nat) : Int)) := by unfold Hid; have := HL.out; omega
      go_wp2
      exact bodyPost_ret (v := .tuple #[.agg #[.int .i64 3, .string ⟨#[]⟩, .int .i64 ((v : Int))], .int .i64 ((d.length : Nat) : Int), .int .i64 0]) (by simp [results, Tryd.results37, go_sem, k0, k1, k2]) rfl (by rw [HM.out]; exact ⟨by rw [HK.out]; simp [tokV, S], by first | exact HE.out | (repeat (first | exact HE.out | refine Below.setCell ?_ (by simp) _))⟩)
  | cons c t =>
    have hlt : d.length < (S s).size := by rw [HSZ.out]; simp
    have HG : Hid ((S s)[d.length]'hlt = c) := headW_at HR.out c t rfl hlt
    cases hq : wordyC c with
    | true =>
      have HM : Hid (numM s = .error 3) := by unfold Hid; rw [HN.out, if_pos (show headW (c :: t) = true from hq)]
      have HC : Hid _ := hq
      clear hq
      go_wp2_with fail
      refine (inWord_any ((S s)[d.length]'hlt) _).mono ?_
      rintro e u' ⟨rfl, hu⟩
      have hu' := hu.symm
      subst hu'
      rw [HG.out, HC.out]
      go_wp2
      exact bodyPost_ret (v := .tuple #[.agg #[.int .i64 0, .string ⟨#[]⟩, .int .i64 0], .int .i64 0, .int .i64 3]) (by simp [results, Tryd.results37, go_sem, k0, k1, k2]) rfl (by rw [HM.out]; exact ⟨rfl, by first | exact HE.out | (repeat (first | exact HE.out | refine Below.setCell ?_ (by simp) _))⟩)
    | false =>
      have HQ : Hid (headW (c :: t) = false) := hq
      have HC : Hid _ := hq
      clear hq
      by_cases hb : 2147483647 < v * 1
      · have HM : Hid (numM s = .error 6) := by unfold Hid; rw [HN.out, HQ.out, ← HD.out, ← HV.out, if_neg (by simp), if_pos hb]
        have hbi : (2147483647 : Int) < (v : Int) := by omega
        clear hb
        go_wp2_with fail
        refine (inWord_any ((S s)[d.length]'hlt) _).mono ?_
        rintro e u' ⟨rfl, hu⟩
        have hu' := hu.symm
        subst hu'
        rw [HG.out, HC.out]
        go_wp2
        exact bodyPost_ret (v := .tuple #[.agg #[.int .i64 0, .string ⟨#[]⟩, .int .i64 0], .int .i64 0, .int .i64 6]) (by simp [results, Tryd.results37, go_sem, k0, k1, k2]) rfl (by rw [HM.out]; exact ⟨rfl, by first | exact HE.out | (repeat (first | exact HE.out | refine Below.setCell ?_ (by simp) _))⟩)
      · have HM : Hid (numM s = .ok ({ kind := 3, text := [], num := (v * 1 : Nat) }, (c :: t))) := by unfold Hid; rw [HN.out, HQ.out, ← HD.out, ← HV.out, if_neg (by simp), if_neg hb]
        have hbi : ¬ (2147483647 : Int) < (v : Int) := by omega
        clear hb
        have HK : Hid (((s.length - ((c :: t) : List UInt8).length : Nat) : Int) = ((d.length : Nat) : Int)) := by unfold Hid; have := HL.out; omega
        go_wp2_with fail
        refine (inWord_any ((S s)[d.length]'hlt) _).mono ?_
        rintro e u' ⟨rfl, hu⟩
        have hu' := hu.symm
        subst hu'
        rw [HG.out, HC.out]
        go_wp2
        exact bodyPost_ret (v := .tuple #[.agg #[.int .i64 3, .string ⟨#[]⟩, .int .i64 ((v : Int))], .int .i64 ((d.length : Nat) : Int), .int .i64 0]) (by simp [results, Tryd.results37, go_sem, k0, k1, k2]) rfl (by rw [HM.out]; exact ⟨by rw [HK.out]; simp [tokV, S], by first | exact HE.out | (repeat (first | exact HE.out | refine Below.setCell ?_ (by simp) _))⟩)

set_option maxHeartbeats 8000000 in
set_option maxRecDepth 100000 in
theorem readNumber_1024 (s r2 : List UInt8) (w : World) (hs : s.length ≤ 2000) (ht : timesM (s.dropWhile digitC) = (1024, r2)) (hl : s.length = (s.takeWhile digitC).length + 1 + r2.length) (hr2 : s.drop ((s.takeWhile digitC).length + 1) = r2) :
    Calls Tryd.prog 37 #[.string (S s)] w (Tk w s (numM s)) := by
  have HN : Hid _ := numM_by ht (by simp)
  obtain ⟨d, hd⟩ : ∃ d, d = s.takeWhile digitC := ⟨_, rfl⟩
  rw [← hd] at hl hr2
  have hsz : (S s).size = d.length + 1 + r2.length := by rw [size_S]; exact hl
  have HZ : Hid (s.length ≤ maxLen) := by unfold Hid maxLen; omega
  have HX : Hid ((S s).extract d.length (S s).size = S (s.dropWhile digitC)) := by unfold Hid; rw [S_drop, hd, drop_takeW]
  have HU : Hid ((timesM (s.dropWhile digitC)).1 = 1024) := by unfold Hid; rw [ht]
  have hs2 : (S s).size ≤ 2000 := by rw [size_S]; exact hs
  have HSZ : Hid _ := hsz
  have HD : Hid _ := hd
  have HR : Hid _ := hr2
  have HL : Hid _ := hl
  obtain ⟨v, hv⟩ : ∃ v, v = numC d := ⟨_, rfl⟩
  have hvb : v ≤ 2147483648 := by rw [hv]; exact numC_le d
  have HV : Hid _ := hv
  have i1 : (0 : Int) ≤ (d.length : Int) := by omega
  have i2 : (d.length : Int) ≤ ((S s).size : Int) := by omega
  have hdl : d.length ≤ 2000 := by rw [size_S] at hsz; omega
  obtain ⟨W0, hW0⟩ : ∃ W0, W0 = (w.alloc (.cells #[.int .i64 0, .string ⟨#[]⟩, .int .i64 0] 48)).alloc (.cells #[.int .i64 0] 3) := ⟨_, rfl⟩
  have HT0 : Hid (TokB W0 w.heap.size zeroT) := by unfold Hid; rw [hW0]; exact (tokB_new w zeroT).next ((Below.refl _ _).alloc (Nat.le_refl _) _)
  have HB0 : Hid (Box W0 (w.heap.size + 1) (.int .i64 0) 3) := by unfold Hid; rw [hW0]; have := Box.new (w.alloc (.cells #[.int .i64 0, .string ⟨#[]⟩, .int .i64 0] 48)) (.int .i64 0) 3; simpa using this
  have HE0 : Hid (Below w.heap.size w W0) := by unfold Hid; rw [hW0]; exact ((Below.refl _ _).alloc (Nat.le_refl _) _).alloc (by simp) _
  have HW : Hid _ := hW0
  clear hW0 hd hv hr2 hl ht hs hsz
  go_enter Tryd.func37, Tryd.ntmps37
  go_wp2_with fail
  rw [← HW.out]
  refine (span_num s (w.heap.size + 1) _ HZ.out HB0.out).mono ?_
  rintro e u ⟨rfl, h1, h2⟩
  rw [← HD.out, ← HV.out] at h1
  rw [← HD.out]
  have hT : TokB u w.heap.size zeroT := HT0.out.but h2 (by omega)
  have HE : Hid (Below w.heap.size w u) := HE0.out.trans (h2.below (by omega) HE0.out.size)
  have hc := h1.cell
  have hf := h1.free
  have f0 := hT.free 0
  have f1 := hT.free 1
  have f2 := hT.free 2
  have k0 : u.cell? ⟨w.heap.size, 0, none⟩ = some (.int .i64 0) := hT.c0
  have k1 : u.cell? ⟨w.heap.size, 1, none⟩ = some (.string ⟨#[]⟩) := hT.c1
  have k2 : u.cell? ⟨w.heap.size, 2, none⟩ = some (.int .i64 0) := hT.c2
  clear h1 h2 hT
  go_wp2_with fail
  rw [HX.out]
  refine (unit_any (s.dropWhile digitC) _).mono ?_
  rintro e u' ⟨rfl, hu⟩
  have hu' := hu.symm
  subst hu'
  rw [HU.out]
  cases r2 with
  | nil =>
    have HQ : Hid (headW [] = false) := rfl
    have hnl : ¬ ((d.length + 1 : Nat) : Int) < ((S s).size : Int) := by rw [HSZ.out]; simp
    by_cases hb : 2147483647 < v * 1024
    · have HM : Hid (numM s = .error 6) := by unfold Hid; rw [HN.out, HQ.out, ← HD.out, ← HV.out, if_neg (by simp), if_pos hb]
      have hbi : (2147483647 : Int) < (v : Int) * 1024 := by omega
      clear hb
      go_wp2
      exact bodyPost_ret (v := .tuple #[.agg #[.int .i64 0, .string ⟨#[]⟩, .int .i64 0], .int .i64 0, .int .i64 6]) (by simp [results, Tryd.results37, go_sem, k0, k1, k2]) rfl (by rw [HM.out]; exact ⟨rfl, by first | exact HE.out | (repeat (first | exact HE.out | refine Below.setCell ?_ (by simp) _))⟩)
    · have HM : Hid (numM s = .ok ({ kind := 3, text := [], num := (v * 1024 : Nat) }, [])) := by unfold Hid; rw [HN.out, HQ.out, ← HD.out, ← HV.out, if_neg (by simp), if_neg hb]
      have hbi : ¬ (2147483647 : Int) < (v : Int) * 1024 := by omega
      clear hb
      have HK : Hid (((s.length - ([] : List UInt8).length : Nat) : Int) = ((d.length + 1 : Nat) : Int)) := by unfold Hid; have := HL.out; omega
      go_wp2
      exact bodyPost_ret (v := .tuple #[.agg #[.int .i64 3, .string ⟨#[]⟩, .int .i64 ((v : Int) * 1024)], .int .i64 ((d.length + 1 : Nat) : Int), .int .i64 0]) (by simp [results, Tryd.results37, go_sem, k0, k1, k2]) rfl (by rw [HM.out]; exact ⟨by rw [HK.out]; simp [tokV, S], by first | exact HE.out | (repeat (first | exact HE.out | refine Below.setCell ?_ (by simp) _))⟩)
  | cons c t =>
    have hlt : d.length + 1 < (S s).size := by rw [HSZ.out]; simp
    have HG : Hid ((S s)[d.length + 1]'hlt = c) := headW_at HR.out c t rfl hlt
    cases hq : wordyC c with
    | true =>
      have HM : Hid (numM s = .error 3) := by unfold Hid; rw [HN.out, if_pos (show headW (c :: t) = true from hq)]
      have HC : Hid _ := hq
      clear hq
      go_wp2_with fail
      refine (inWord_any ((S s)[d.length + 1]'hlt) _).mono ?_
      rintro e u' ⟨rfl, hu⟩
      have hu' := hu.symm
      subst hu'
      rw [HG.out, HC.out]
      go_wp2
      exact bodyPost_ret (v := .tuple #[.agg #[.int .i64 0, .string ⟨#[]⟩, .int .i64 0], .int .i64 0, .int .i64 3]) (by simp [results, Tryd.results37, go_sem, k0, k1, k2]) rfl (by rw [HM.out]; exact ⟨rfl, by first | exact HE.out | (repeat (first | exact HE.out | refine Below.setCell ?_ (by simp) _))⟩)
    | false =>
      have HQ : Hid (headW (c :: t) = false) := hq
      have HC : Hid _ := hq
      clear hq
      by_cases hb : 2147483647 < v * 1024
      · have HM : Hid (numM s = .error 6) := by unfold Hid; rw [HN.out, HQ.out, ← HD.out, ← HV.out, if_neg (by simp), if_pos hb]
        have hbi : (2147483647 : Int) < (v : Int) * 1024 := by omega
        clear hb
        go_wp2_with fail
        refine (inWord_any ((S s)[d.length + 1]'hlt) _).mono ?_
        rintro e u' ⟨rfl, hu⟩
        have hu' := hu.symm
        subst hu'
        rw [HG.out, HC.out]
        go_wp2
        exact bodyPost_ret (v := .tuple #[.agg #[.int .i64 0, .string ⟨#[]⟩, .int .i64 0], .int .i64 0, .int .i64 6]) (by simp [results, Tryd.results37, go_sem, k0, k1, k2]) rfl (by rw [HM.out]; exact ⟨rfl, by first | exact HE.out | (repeat (first | exact HE.out | refine Below.setCell ?_ (by simp) _))⟩)
      · have HM : Hid (numM s = .ok ({ kind := 3, text := [], num := (v * 1024 : Nat) }, (c :: t))) := by unfold Hid; rw [HN.out, HQ.out, ← HD.out, ← HV.out, if_neg (by simp), if_neg hb]
        have hbi : ¬ (2147483647 : Int) < (v : Int) * 1024 := by omega
        clear hb
        have HK : Hid (((s.length - ((c :: t) : List UInt8).length : Nat) : Int) = ((d.length + 1 : Nat) : Int)) := by unfold Hid; have := HL.out; omega
        go_wp2_with fail
        refine (inWord_any ((S s)[d.length + 1]'hlt) _).mono ?_
        rintro e u' ⟨rfl, hu⟩
        have hu' := hu.symm
        subst hu'
        rw [HG.out, HC.out]
        go_wp2
        exact bodyPost_ret (v := .tuple #[.agg #[.int .i64 3, .string ⟨#[]⟩, .int .i64 ((v : Int) * 1024)], .int .i64 ((d.length + 1 : Nat) : Int), .int .i64 0]) (by simp [results, Tryd.results37, go_sem, k0, k1, k2]) rfl (by rw [HM.out]; exact ⟨by rw [HK.out]; simp [tokV, S], by first | exact HE.out | (repeat (first | exact HE.out | refine Below.setCell ?_ (by simp) _))⟩)

set_option maxHeartbeats 8000000 in
set_option maxRecDepth 100000 in
theorem readNumber_1048576 (s r2 : List UInt8) (w : World) (hs : s.length ≤ 2000) (ht : timesM (s.dropWhile digitC) = (1048576, r2)) (hl : s.length = (s.takeWhile digitC).length + 1 + r2.length) (hr2 : s.drop ((s.takeWhile digitC).length + 1) = r2) :
    Calls Tryd.prog 37 #[.string (S s)] w (Tk w s (numM s)) := by
  have HN : Hid _ := numM_by ht (by simp)
  obtain ⟨d, hd⟩ : ∃ d, d = s.takeWhile digitC := ⟨_, rfl⟩
  rw [← hd] at hl hr2
  have hsz : (S s).size = d.length + 1 + r2.length := by rw [size_S]; exact hl
  have HZ : Hid (s.length ≤ maxLen) := by unfold Hid maxLen; omega
  have HX : Hid ((S s).extract d.length (S s).size = S (s.dropWhile digitC)) := by unfold Hid; rw [S_drop, hd, drop_takeW]
  have HU : Hid ((timesM (s.dropWhile digitC)).1 = 1048576) := by unfold Hid; rw [ht]
  have hs2 : (S s).size ≤ 2000 := by rw [size_S]; exact hs
  have HSZ : Hid _ := hsz
  have HD : Hid _ := hd
  have HR : Hid _ := hr2
  have HL : Hid _ := hl
  obtain ⟨v, hv⟩ : ∃ v, v = numC d := ⟨_, rfl⟩
  have hvb : v ≤ 2147483648 := by rw [hv]; exact numC_le d
  have HV : Hid _ := hv
  have i1 : (0 : Int) ≤ (d.length : Int) := by omega
  have i2 : (d.length : Int) ≤ ((S s).size : Int) := by omega
  have hdl : d.length ≤ 2000 := by rw [size_S] at hsz; omega
  obtain ⟨W0, hW0⟩ : ∃ W0, W0 = (w.alloc (.cells #[.int .i64 0, .string ⟨#[]⟩, .int .i64 0] 48)).alloc (.cells #[.int .i64 0] 3) := ⟨_, rfl⟩
  have HT0 : Hid (TokB W0 w.heap.size zeroT) := by unfold Hid; rw [hW0]; exact (tokB_new w zeroT).next ((Below.refl _ _).alloc (Nat.le_refl _) _)
  have HB0 : Hid (Box W0 (w.heap.size + 1) (.int .i64 0) 3) := by unfold Hid; rw [hW0]; have := Box.new (w.alloc (.cells #[.int .i64 0, .string ⟨#[]⟩, .int .i64 0] 48)) (.int .i64 0) 3; simpa using this
  have HE0 : Hid (Below w.heap.size w W0) := by unfold Hid; rw [hW0]; exact ((Below.refl _ _).alloc (Nat.le_refl _) _).alloc (by simp) _
  have HW : Hid _ := hW0
  clear hW0 hd hv hr2 hl ht hs hsz
  go_enter Tryd.func37, Tryd.ntmps37
  go_wp2_with fail
  rw [← HW.out]
  refine (span_num s (w.heap.size + 1) _ HZ.out HB0.out).mono ?_
  rintro e u ⟨rfl, h1, h2⟩
  rw [← HD.out, ← HV.out] at h1
  rw [← HD.out]
  have hT : TokB u w.heap.size zeroT := HT0.out.but h2 (by omega)
  have HE : Hid (Below w.heap.size w u) := HE0.out.trans (h2.below (by omega) HE0.out.size)
  have hc := h1.cell
  have hf := h1.free
  have f0 := hT.free 0
  have f1 := hT.free 1
  have f2 := hT.free 2
  have k0 : u.cell? ⟨w.heap.size, 0, none⟩ = some (.int .i64 0) := hT.c0
  have k1 : u.cell? ⟨w.heap.size, 1, none⟩ = some (.string ⟨#[]⟩) := hT.c1
  have k2 : u.cell? ⟨w.heap.size, 2, none⟩ = some (.int .i64 0) := hT.c2
  clear h1 h2 hT
  go_wp2_with fail
  rw [HX.out]
  refine (unit_any (s.dropWhile digitC) _).mono ?_
  rintro e u' ⟨rfl, hu⟩
  have hu' := hu.symm
  subst hu'
  rw [HU.out]
  cases r2 with
  | nil =>
    have HQ : Hid (headW [] = false) := rfl
    have hnl : ¬ ((d.length + 1 : Nat) : Int) < ((S s).size : Int) := by rw [HSZ.out]; simp
    by_cases hb : 2147483647 < v * 1048576
    · have HM : Hid (numM s = .error 6) := by unfold Hid; rw [HN.out, HQ.out, ← HD.out, ← HV.out, if_neg (by simp), if_pos hb]
      have hbi : (2147483647 : Int) < (v : Int) * 1048576 := by omega
      clear hb
      go_wp2
      exact bodyPost_ret (v := .tuple #[.agg #[.int .i64 0, .string ⟨#[]⟩, .int .i64 0], .int .i64 0, .int .i64 6]) (by simp [results, Tryd.results37, go_sem, k0, k1, k2]) rfl (by rw [HM.out]; exact ⟨rfl, by first | exact HE.out | (repeat (first | exact HE.out | refine Below.setCell ?_ (by simp) _))⟩)
    · have HM : Hid (numM s = .ok ({ kind := 3, text := [], num := (v * 1048576 : Nat) }, [])) := by unfold Hid; rw [HN.out, HQ.out, ← HD.out, ← HV.out, if_neg (by simp), if_neg hb]
      have hbi : ¬ (2147483647 : Int) < (v : Int) * 1048576 := by omega
      clear hb
      have HK : Hid (((s.length - ([] : List UInt8).length : Nat) : Int) = ((d.length + 1 : Nat) : Int)) := by unfold Hid; have := HL.out; omega
      go_wp2
      exact bodyPost_ret (v := .tuple #[.agg #[.int .i64 3, .string ⟨#[]⟩, .int .i64 ((v : Int) * 1048576)], .int .i64 ((d.length + 1 : Nat) : Int), .int .i64 0]) (by simp [results, Tryd.results37, go_sem, k0, k1, k2]) rfl (by rw [HM.out]; exact ⟨by rw [HK.out]; simp [tokV, S], by first | exact HE.out | (repeat (first | exact HE.out | refine Below.setCell ?_ (by simp) _))⟩)
  | cons c t =>
    have hlt : d.length + 1 < (S s).size := by rw [HSZ.out]; simp
    have HG : Hid ((S s)[d.length + 1]'hlt = c) := headW_at HR.out c t rfl hlt
    cases hq : wordyC c with
    | true =>
      have HM : Hid (numM s = .error 3) := by unfold Hid; rw [HN.out, if_pos (show headW (c :: t) = true from hq)]
      have HC : Hid _ := hq
      clear hq
      go_wp2_with fail
      refine (inWord_any ((S s)[d.length + 1]'hlt) _).mono ?_
      rintro e u' ⟨rfl, hu⟩
      have hu' := hu.symm
      subst hu'
      rw [HG.out, HC.out]
      go_wp2
      exact bodyPost_ret (v := .tuple #[.agg #[.int .i64 0, .string ⟨#[]⟩, .int .i64 0], .int .i64 0, .int .i64 3]) (by simp [results, Tryd.results37, go_sem, k0, k1, k2]) rfl (by rw [HM.out]; exact ⟨rfl, by first | exact HE.out | (repeat (first | exact HE.out | refine Below.setCell ?_ (by simp) _))⟩)
    | false =>
      have HQ : Hid (headW (c :: t) = false) := hq
      have HC : Hid _ := hq
      clear hq
      by_cases hb : 2147483647 < v * 1048576
      · have HM : Hid (numM s = .error 6) := by unfold Hid; rw [HN.out, HQ.out, ← HD.out, ← HV.out, if_neg (by simp), if_pos hb]
        have hbi : (2147483647 : Int) < (v : Int) * 1048576 := by omega
        clear hb
        go_wp2_with fail
        refine (inWord_any ((S s)[d.length + 1]'hlt) _).mono ?_
        rintro e u' ⟨rfl, hu⟩
        have hu' := hu.symm
        subst hu'
        rw [HG.out, HC.out]
        go_wp2
        exact bodyPost_ret (v := .tuple #[.agg #[.int .i64 0, .string ⟨#[]⟩, .int .i64 0], .int .i64 0, .int .i64 6]) (by simp [results, Tryd.results37, go_sem, k0, k1, k2]) rfl (by rw [HM.out]; exact ⟨rfl, by first | exact HE.out | (repeat (first | exact HE.out | refine Below.setCell ?_ (by simp) _))⟩)
      · have HM : Hid (numM s = .ok ({ kind := 3, text := [], num := (v * 1048576 : Nat) }, (c :: t))) := by unfold Hid; rw [HN.out, HQ.out, ← HD.out, ← HV.out, if_neg (by simp), if_neg hb]
        have hbi : ¬ (2147483647 : Int) < (v : Int) * 1048576 := by omega
        clear hb
        have HK : Hid (((s.length - ((c :: t) : List UInt8).length : Nat) : Int) = ((d.length + 1 : Nat) : Int)) := by unfold Hid; have := HL.out; omega
        go_wp2_with fail
        refine (inWord_any ((S s)[d.length + 1]'hlt) _).mono ?_
        rintro e u' ⟨rfl, hu⟩
        have hu' := hu.symm
        subst hu'
        rw [HG.out, HC.out]
        go_wp2
        exact bodyPost_ret (v := .tuple #[.agg #[.int .i64 3, .string ⟨#[]⟩, .int .i64 ((v : Int) * 1048576)], .int .i64 ((d.length + 1 : Nat) : Int), .int .i64 0]) (by simp [results, Tryd.results37, go_sem, k0, k1, k2]) rfl (by rw [HM.out]; exact ⟨by rw [HK.out]; simp [tokV, S], by first | exact HE.out | (repeat (first | exact HE.out | refine Below.setCell ?_ (by simp) _))⟩)

theorem readNumber_any (s : List UInt8) (w : World) (hs : s.length ≤ 2000) :
    Calls Tryd.prog 37 #[.string (S s)] w (Tk w s (numM s)) := by
  have hsp := congrArg List.length (List.takeWhile_append_dropWhile (p := digitC) (l := s))
  rw [List.length_append] at hsp
  have hdr := drop_takeW digitC s
  rcases times_cases (s.dropWhile digitC) with h | ⟨c, t, m, h1, h2, h3⟩
  · exact readNumber_1 s _ w hs h (by omega) hdr
  · have e1 : s.drop ((s.takeWhile digitC).length + 1) = t := by rw [← List.drop_drop, hdr, h1]; rfl
    have e2 : s.length = (s.takeWhile digitC).length + 1 + t.length := by rw [h1, List.length_cons] at hsp; omega
    rcases h3 with rfl | rfl
    · exact readNumber_1024 s t w hs h2 e2 e1
    · exact readNumber_1048576 s t w hs h2 e2 e1
end Go.Proofs.YtdmiidbncpgfpabDoor
