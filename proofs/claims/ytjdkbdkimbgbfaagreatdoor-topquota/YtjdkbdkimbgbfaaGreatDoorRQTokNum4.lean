/-
  What token.readNumber does: the walk. Its closure counts in a variable that it has captured.
-/
import Derived.Test.YtjdkbdkimbgbfaaGreatDoorRQPure12
import Derived.Test.YtjdkbdkimbgbfaaGreatDoorRows
set_option maxHeartbeats 8000000
set_option maxRecDepth 100000
namespace Go.Proofs.YtjdkbdkimbgbfaaGreatDoor
open Go.RowKit Go.Proofs
variable {l r2 s : List UInt8} {base n : Nat} {v : Value} {w : World}
def numC (l : List UInt8) : Nat := min (decV l) 2147483648
theorem jlh (l : List UInt8) (c : UInt8) : numC (l ++ [c]) = min (numC l * 10 + (c.toNat - 48)) 2147483648 := by unfold numC; rw [jkh]; omega
theorem jeo (l : List UInt8) : numC l <= 2147483648 := by unfold numC; omega
theorem jgV (b : Nat) (c : UInt8) (v : Nat) (w : World) (hb : Box w b (.int .i64 v) 3) (hv : v <= 2147483648) (hc : je c = true) :
 Calls Tryz.prog 152 #[.int .u8 c.toNat, .pointer (some ⟨b, 0, none⟩)] w fun e w' => e = .returned (.bool true) /\ Box w' b (.int .i64 (min (v * 10 + (c.toNat - 48)) 2147483648 : Nat)) 3 /\ But b w w' := by
 have h1 := hb.cell; have h2 := hb.free; have HC : Hid _ := hc; have hc' : 48 <= c.toNat /\ c.toNat <= 57 := by unfold je at hc; simpa using hc
 obtain ⟨c1, c2⟩ := hc'; have c3 : (48 : Int) <= (c.toNat : Int) := by omega
 have c4 : (c.toNat : Int) <= 57 := by omega
 have HB : Hid _ := hb; clear hc hb; go_enter Tryz.func152, Tryz.ntmps152; go_wp2_with fail; refine (jO c _).mono ?_; rintro e u ⟨rfl, hu⟩; have b6 := hu.symm; subst b6; rw [HC.out]; go_wp2
 . go_ret; refine ⟨rfl, ?_, But.set _ _⟩; have e : ((min (v * 10 + (c.toNat - 48)) 2147483648 : Nat) : Int) = 2147483648 := by omega
   rw [e]; exact Box.set HB.out _
 . go_ret; refine ⟨rfl, ?_, But.set _ _⟩; have e : ((min (v * 10 + (c.toNat - 48)) 2147483648 : Nat) : Int) = (v : Int) * 10 + ((c.toNat : Int) - 48) := by omega
   rw [e]; exact Box.set HB.out _
theorem jje (b : Nat) (c : UInt8) (w : World) (hc : je c = false) :
 Calls Tryz.prog 152 #[.int .u8 c.toNat, .pointer (some ⟨b, 0, none⟩)] w fun e w' => e = .returned (.bool false) /\ w' = w := by
 have HC : Hid _ := hc; clear hc; go_enter Tryz.func152, Tryz.ntmps152; go_wp2_with fail; refine (jO c _).mono ?_; rintro e u ⟨rfl, hu⟩; have b6 := hu.symm; subst b6; rw [HC.out]; go_wp2; go_ret; exact ⟨rfl, rfl⟩
theorem jko : ∀ args w, (callFunc 152 args).run Tryz.prog w = .ok (.enter 152 args) w := enters_of Tryz.func152 (by kernel_rfl) rfl
theorem jeF (s : List UInt8) (b : Nat) (w : World) (hs : s.length <= maxLen) (hb : Box w b (.int .i64 0) 3) :
 Calls Tryz.prog 104 #[.string (S s), .func (.func 152) #[] #[.pointer (some ⟨b, 0, none⟩)]] w fun e w' => e = .returned (.int .i64 ((s.takeWhile je).length : Nat)) /\ Box w' b (.int .i64 (numC (s.takeWhile je) : Nat)) 3 /\ But b w w' := by
 have hle : (s.takeWhile je).length <= (S s).size := by rw [jb]; exact (List.takeWhile_prefix je).length_le
 have gC : s.take (s.takeWhile je).length = s.takeWhile je := by
  have := bF (p := je) (l := s)
  conv => lhs; arg 2; rw [<- this]
  rw [List.take_left]
 refine (jeD (S s) 152 _ jko (s.takeWhile je).length (fun k u => Box u b (.int .i64 (numC (s.take k) : Nat)) 3 /\ But b w u) w (by rw [jb]; exact hs) hle ?_ ?_ ⟨hb, But.refl _ _⟩).mono ?_
 . intro k h u hk ⟨hB, hU⟩; have dF : k < s.length := by rw [jb] at h; exact h
   have hg : (S s)[k] = s[k] := jjQ s k h dF; have hd : je (S s)[k] = true := by rw [hg]; exact jfW dF hk
   have e1 : s.take (k + 1) = s.take k ++ [(S s)[k]] := by rw [hg]; exact aU dF
   refine (jgV b (S s)[k] (numC (s.take k)) u hB (jeo _) hd).mono ?_; rintro e u' ⟨rfl, h1, h2⟩; refine ⟨rfl, ?_, hU.trans h2⟩
   show Box u' b (.int .i64 (numC (s.take (k + 1)) : Nat)) _
   rw [e1, jlh]; exact h1
 . intro h u ⟨hB, hU⟩; have dF : (s.takeWhile je).length < s.length := by rw [jb] at h; exact h
   have hg : (S s)[(s.takeWhile je).length] = s[(s.takeWhile je).length] := jjQ s _ h dF; refine (jje b (S s)[(s.takeWhile je).length] u (by rw [hg]; exact jh8 dF)).mono ?_; rintro e u' ⟨rfl, rfl⟩; exact ⟨rfl, hB, hU⟩
 . rintro e u ⟨rfl, h1, h2⟩; exact ⟨rfl, by rw [<- gC]; simpa [gC] using h1, h2⟩
theorem jhj (r : List UInt8) : (zr r = (1, r)) ∨ ∃ c t m, r = c :: t /\ zr r = (m, t) /\ (m = 1024 ∨ m = 1048576) := by
 cases r with
 | nil => exact Or.inl rfl
 | cons c t =>
   have e0 : zr (c :: t) = if c = 75 ∨ c = 107 then (1024, t) else if c = 77 ∨ c = 109 then (1048576, t) else (1, c :: t) := rfl
   rw [e0]; split
   . exact Or.inr ⟨c, t, 1024, rfl, rfl, Or.inl rfl⟩
   . split
     . exact Or.inr ⟨c, t, 1048576, rfl, rfl, Or.inr rfl⟩
     . exact Or.inl rfl
theorem jgU {m : Nat} (ht : zr (s.dropWhile je) = (m, r2)) (hm : m = 1 ∨ m = 1024 ∨ m = 1048576) :
 numM s = if jcH r2 then .error 3 else if 2147483647 < numC (s.takeWhile je) * m then .error 6 else .ok ({ kind := 3, text := [], num := (numC (s.takeWhile je) * m : Nat) }, r2) := by
 unfold numM; rw [ht]; simp only; split
 . rfl
 . have hc : numC (s.takeWhile je) = min (decV (s.takeWhile je)) 2147483648 := rfl; rw [hc]; generalize decV (s.takeWhile je) = x; have wj : 1 <= m := by rcases hm with rfl | rfl | rfl <;> decide
   by_cases hx : x <= 2147483648
   . rw [Nat.min_eq_left hx]
   . have h1 : 2147483647 < x * m := aK (show 2147483647 < x by omega) (Nat.le_mul_of_pos_right x wj); have h2 : 2147483647 < 2147483648 * m := aK (show 2147483647 < 2147483648 by omega) (Nat.le_mul_of_pos_right _ wj); rw [Nat.min_eq_right (by omega), if_pos h1, if_pos h2]
theorem jaF (p : UInt8 -> Bool) (s : List UInt8) : s.drop (s.takeWhile p).length = s.dropWhile p := by
 have := bF (p := p) (l := s)
 conv => lhs; arg 2; rw [<- this]
 rw [List.drop_left]
theorem jeb (hn : s.drop n = r2) (c : UInt8) (t : List UInt8) (h2 : r2 = c :: t) (h : n < (S s).size) : (S s)[n] = c := by
 rw [jb] at h; have := jjQ s n (by rw [jb]; exact h) h; rw [this]; rw [h2, aT h] at hn; exact (List.cons.inj hn).1
theorem jfH (s r2 : List UInt8) (w : World) (hs : s.length <= 2000) (ht : zr (s.dropWhile je) = (1, r2)) (hl : s.length = (s.takeWhile je).length + 0 + r2.length) (hr2 : s.drop ((s.takeWhile je).length + 0) = r2) :
 Calls Tryz.prog 112 #[.string (S s)] w (Tk w s (numM s)) := by
 have HN : Hid _ := jgU ht (by simp); obtain ⟨d, hd⟩ : ∃ d, d = s.takeWhile je := ⟨_, rfl⟩; rw [<- hd] at hl hr2; have hsz : (S s).size = d.length + 0 + r2.length := by rw [jb]; exact hl
 have HZ : Hid (s.length <= maxLen) := by unfold Hid maxLen; omega
 have HX : Hid ((S s).extract d.length (S s).size = S (s.dropWhile je)) := by unfold Hid; rw [qe, hd, jaF]
 have HU : Hid ((zr (s.dropWhile je)).1 = 1) := by unfold Hid; rw [ht]
 have hs2 : (S s).size <= 2000 := by rw [jb]; exact hs
 have ep : Hid _ := hsz; have HD : Hid _ := hd; have HR : Hid _ := hr2; have HL : Hid _ := hl; obtain ⟨v, hv⟩ : ∃ v, v = numC d := ⟨_, rfl⟩; have yZ : v <= 2147483648 := by rw [hv]; exact jeo d
 have HV : Hid _ := hv; have i1 : (0 : Int) <= (d.length : Int) := by omega
 have i2 : (d.length : Int) <= ((S s).size : Int) := by omega
 have ou : d.length <= 2000 := by rw [jb] at hsz; omega
 obtain ⟨W0, hW0⟩ : ∃ W0, W0 = (w.alloc (.cells #[.int .i64 0, .string ⟨#[]⟩, .int .i64 0] 147)).alloc (.cells #[.int .i64 0] 3) := ⟨_, rfl⟩; have fo : Hid (TokB W0 w.heap.size qq) := by unfold Hid; rw [hW0]; exact (vN w qq).next (nb0 _ _)
 have cj : Hid (Box W0 (w.heap.size + 1) (.int .i64 0) 3) := by unfold Hid; rw [hW0]; have := Box.new (w.alloc (.cells #[.int .i64 0, .string ⟨#[]⟩, .int .i64 0] 147)) (.int .i64 0) 3; simpa using this
 have kM : Hid (Below w.heap.size w W0) := by unfold Hid; rw [hW0]; exact (nb0 _ _).alloc (by simp) _
 have HW : Hid _ := hW0; clear hW0 hd hv hr2 hl ht hs hsz; go_enter Tryz.func112, Tryz.ntmps112; go_wp2_with fail; rw [<- HW.out]; refine (jeF s (w.heap.size + 1) _ HZ.out cj.out).mono ?_; rintro e u ⟨rfl, h1, h2⟩; rw [<- HD.out, <- HV.out] at h1; rw [<- HD.out]; have hT : TokB u w.heap.size qq := fo.out.but h2 (by omega); have HE : Hid (Below w.heap.size w u) := kM.out.trans (h2.below (by omega) kM.out.size); have hc := h1.cell; have hf := h1.free; have f0 := hT.free 0; have f1 := hT.free 1; have f2 := hT.free 2; have k0 : u.cell? ⟨w.heap.size, 0, none⟩ = some (.int .i64 0) := hT.c0; have k1 : u.cell? ⟨w.heap.size, 1, none⟩ = some (.string ⟨#[]⟩) := hT.c1; have k2 : u.cell? ⟨w.heap.size, 2, none⟩ = some (.int .i64 0) := hT.c2; clear h1 h2 hT; go_wp2_with fail; rw [HX.out]; refine (jeN (s.dropWhile je) _).mono ?_; rintro e u' ⟨rfl, hu⟩; have b6 := hu.symm; subst b6; rw [HU.out]; cases r2 with
 | nil =>
   have HQ : Hid (jcH [] = false) := rfl; have kx : ¬ ((d.length : Nat) : Int) < ((S s).size : Int) := by rw [ep.out]; simp
   by_cases hb : 2147483647 < v * 1
   . have HM : Hid (numM s = .error 6) := by unfold Hid; rw [HN.out, HQ.out, <- HD.out, <- HV.out, if_neg (by simp), if_pos hb]
     have kj : (2147483647 : Int) < (v : Int) := by omega
     clear hb; go_wp2; exact aD (v := .tuple #[.agg #[.int .i64 0, .string ⟨#[]⟩, .int .i64 0], .int .i64 0, .int .i64 6]) (by simp [results, Tryz.results112, go_sem, k0, k1, k2]) rfl (by rw [HM.out]; exact ⟨rfl, by first | exact HE.out | (repeat (first | exact HE.out | refine Below.setCell ?_ (by simp) _))⟩)
   . have HM : Hid (numM s = .ok ({ kind := 3, text := [], num := (v * 1 : Nat) }, [])) := by unfold Hid; rw [HN.out, HQ.out, <- HD.out, <- HV.out, if_neg (by simp), if_neg hb]
     have kj : ¬ (2147483647 : Int) < (v : Int) := by omega
     clear hb; have HK : Hid (((s.length - ([] : List UInt8).length : Nat) : Int) = ((d.length : Nat) : Int)) := by unfold Hid; have := HL.out; omega
     go_wp2; exact aD (v := .tuple #[.agg #[.int .i64 3, .string ⟨#[]⟩, .int .i64 ((v : Int))], .int .i64 ((d.length : Nat) : Int), .int .i64 0]) (by simp [results, Tryz.results112, go_sem, k0, k1, k2]) rfl (by rw [HM.out]; exact ⟨by rw [HK.out]; simp [tokV, S], by first | exact HE.out | (repeat (first | exact HE.out | refine Below.setCell ?_ (by simp) _))⟩)
 | cons c t =>
   have hlt : d.length < (S s).size := by rw [ep.out]; simp
   have HG : Hid ((S s)[d.length]'hlt = c) := jeb HR.out c t rfl hlt; cases hq : jw c with
   | true =>
     have HM : Hid (numM s = .error 3) := by unfold Hid; rw [HN.out, if_pos (show jcH (c :: t) = true from hq)]
     have HC : Hid _ := hq; clear hq; go_wp2_with fail; refine (zm ((S s)[d.length]'hlt) _).mono ?_; rintro e u' ⟨rfl, hu⟩; have b6 := hu.symm; subst b6; rw [HG.out, HC.out]; go_wp2; exact aD (v := .tuple #[.agg #[.int .i64 0, .string ⟨#[]⟩, .int .i64 0], .int .i64 0, .int .i64 3]) (by simp [results, Tryz.results112, go_sem, k0, k1, k2]) rfl (by rw [HM.out]; exact ⟨rfl, by first | exact HE.out | (repeat (first | exact HE.out | refine Below.setCell ?_ (by simp) _))⟩)
   | false =>
     have HQ : Hid (jcH (c :: t) = false) := hq; have HC : Hid _ := hq; clear hq
     by_cases hb : 2147483647 < v * 1
     . have HM : Hid (numM s = .error 6) := by unfold Hid; rw [HN.out, HQ.out, <- HD.out, <- HV.out, if_neg (by simp), if_pos hb]
       have kj : (2147483647 : Int) < (v : Int) := by omega
       clear hb; go_wp2_with fail; refine (zm ((S s)[d.length]'hlt) _).mono ?_; rintro e u' ⟨rfl, hu⟩; have b6 := hu.symm; subst b6; rw [HG.out, HC.out]; go_wp2; exact aD (v := .tuple #[.agg #[.int .i64 0, .string ⟨#[]⟩, .int .i64 0], .int .i64 0, .int .i64 6]) (by simp [results, Tryz.results112, go_sem, k0, k1, k2]) rfl (by rw [HM.out]; exact ⟨rfl, by first | exact HE.out | (repeat (first | exact HE.out | refine Below.setCell ?_ (by simp) _))⟩)
     . have HM : Hid (numM s = .ok ({ kind := 3, text := [], num := (v * 1 : Nat) }, (c :: t))) := by unfold Hid; rw [HN.out, HQ.out, <- HD.out, <- HV.out, if_neg (by simp), if_neg hb]
       have kj : ¬ (2147483647 : Int) < (v : Int) := by omega
       clear hb; have HK : Hid (((s.length - ((c :: t) : List UInt8).length : Nat) : Int) = ((d.length : Nat) : Int)) := by unfold Hid; have := HL.out; omega
       go_wp2_with fail; refine (zm ((S s)[d.length]'hlt) _).mono ?_; rintro e u' ⟨rfl, hu⟩; have b6 := hu.symm; subst b6; rw [HG.out, HC.out]; go_wp2; exact aD (v := .tuple #[.agg #[.int .i64 3, .string ⟨#[]⟩, .int .i64 ((v : Int))], .int .i64 ((d.length : Nat) : Int), .int .i64 0]) (by simp [results, Tryz.results112, go_sem, k0, k1, k2]) rfl (by rw [HM.out]; exact ⟨by rw [HK.out]; simp [tokV, S], by first | exact HE.out | (repeat (first | exact HE.out | refine Below.setCell ?_ (by simp) _))⟩)
theorem jcP (s r2 : List UInt8) (w : World) (hs : s.length <= 2000) (ht : zr (s.dropWhile je) = (1024, r2)) (hl : s.length = (s.takeWhile je).length + 1 + r2.length) (hr2 : s.drop ((s.takeWhile je).length + 1) = r2) :
 Calls Tryz.prog 112 #[.string (S s)] w (Tk w s (numM s)) := by
 have HN : Hid _ := jgU ht (by simp); obtain ⟨d, hd⟩ : ∃ d, d = s.takeWhile je := ⟨_, rfl⟩; rw [<- hd] at hl hr2; have hsz : (S s).size = d.length + 1 + r2.length := by rw [jb]; exact hl
 have HZ : Hid (s.length <= maxLen) := by unfold Hid maxLen; omega
 have HX : Hid ((S s).extract d.length (S s).size = S (s.dropWhile je)) := by unfold Hid; rw [qe, hd, jaF]
 have HU : Hid ((zr (s.dropWhile je)).1 = 1024) := by unfold Hid; rw [ht]
 have hs2 : (S s).size <= 2000 := by rw [jb]; exact hs
 have ep : Hid _ := hsz; have HD : Hid _ := hd; have HR : Hid _ := hr2; have HL : Hid _ := hl; obtain ⟨v, hv⟩ : ∃ v, v = numC d := ⟨_, rfl⟩; have yZ : v <= 2147483648 := by rw [hv]; exact jeo d
 have HV : Hid _ := hv; have i1 : (0 : Int) <= (d.length : Int) := by omega
 have i2 : (d.length : Int) <= ((S s).size : Int) := by omega
 have ou : d.length <= 2000 := by rw [jb] at hsz; omega
 obtain ⟨W0, hW0⟩ : ∃ W0, W0 = (w.alloc (.cells #[.int .i64 0, .string ⟨#[]⟩, .int .i64 0] 147)).alloc (.cells #[.int .i64 0] 3) := ⟨_, rfl⟩; have fo : Hid (TokB W0 w.heap.size qq) := by unfold Hid; rw [hW0]; exact (vN w qq).next (nb0 _ _)
 have cj : Hid (Box W0 (w.heap.size + 1) (.int .i64 0) 3) := by unfold Hid; rw [hW0]; have := Box.new (w.alloc (.cells #[.int .i64 0, .string ⟨#[]⟩, .int .i64 0] 147)) (.int .i64 0) 3; simpa using this
 have kM : Hid (Below w.heap.size w W0) := by unfold Hid; rw [hW0]; exact (nb0 _ _).alloc (by simp) _
 have HW : Hid _ := hW0; clear hW0 hd hv hr2 hl ht hs hsz; go_enter Tryz.func112, Tryz.ntmps112; go_wp2_with fail; rw [<- HW.out]; refine (jeF s (w.heap.size + 1) _ HZ.out cj.out).mono ?_; rintro e u ⟨rfl, h1, h2⟩; rw [<- HD.out, <- HV.out] at h1; rw [<- HD.out]; have hT : TokB u w.heap.size qq := fo.out.but h2 (by omega); have HE : Hid (Below w.heap.size w u) := kM.out.trans (h2.below (by omega) kM.out.size); have hc := h1.cell; have hf := h1.free; have f0 := hT.free 0; have f1 := hT.free 1; have f2 := hT.free 2; have k0 : u.cell? ⟨w.heap.size, 0, none⟩ = some (.int .i64 0) := hT.c0; have k1 : u.cell? ⟨w.heap.size, 1, none⟩ = some (.string ⟨#[]⟩) := hT.c1; have k2 : u.cell? ⟨w.heap.size, 2, none⟩ = some (.int .i64 0) := hT.c2; clear h1 h2 hT; go_wp2_with fail; rw [HX.out]; refine (jeN (s.dropWhile je) _).mono ?_; rintro e u' ⟨rfl, hu⟩; have b6 := hu.symm; subst b6; rw [HU.out]; cases r2 with
 | nil =>
   have HQ : Hid (jcH [] = false) := rfl; have kx : ¬ ((d.length + 1 : Nat) : Int) < ((S s).size : Int) := by rw [ep.out]; simp
   by_cases hb : 2147483647 < v * 1024
   . have HM : Hid (numM s = .error 6) := by unfold Hid; rw [HN.out, HQ.out, <- HD.out, <- HV.out, if_neg (by simp), if_pos hb]
     have kj : (2147483647 : Int) < (v : Int) * 1024 := by omega
     clear hb; go_wp2; exact aD (v := .tuple #[.agg #[.int .i64 0, .string ⟨#[]⟩, .int .i64 0], .int .i64 0, .int .i64 6]) (by simp [results, Tryz.results112, go_sem, k0, k1, k2]) rfl (by rw [HM.out]; exact ⟨rfl, by first | exact HE.out | (repeat (first | exact HE.out | refine Below.setCell ?_ (by simp) _))⟩)
   . have HM : Hid (numM s = .ok ({ kind := 3, text := [], num := (v * 1024 : Nat) }, [])) := by unfold Hid; rw [HN.out, HQ.out, <- HD.out, <- HV.out, if_neg (by simp), if_neg hb]
     have kj : ¬ (2147483647 : Int) < (v : Int) * 1024 := by omega
     clear hb; have HK : Hid (((s.length - ([] : List UInt8).length : Nat) : Int) = ((d.length + 1 : Nat) : Int)) := by unfold Hid; have := HL.out; omega
     go_wp2; exact aD (v := .tuple #[.agg #[.int .i64 3, .string ⟨#[]⟩, .int .i64 ((v : Int) * 1024)], .int .i64 ((d.length + 1 : Nat) : Int), .int .i64 0]) (by simp [results, Tryz.results112, go_sem, k0, k1, k2]) rfl (by rw [HM.out]; exact ⟨by rw [HK.out]; simp [tokV, S], by first | exact HE.out | (repeat (first | exact HE.out | refine Below.setCell ?_ (by simp) _))⟩)
 | cons c t =>
   have hlt : d.length + 1 < (S s).size := by rw [ep.out]; simp
   have HG : Hid ((S s)[d.length + 1]'hlt = c) := jeb HR.out c t rfl hlt; cases hq : jw c with
   | true =>
     have HM : Hid (numM s = .error 3) := by unfold Hid; rw [HN.out, if_pos (show jcH (c :: t) = true from hq)]
     have HC : Hid _ := hq; clear hq; go_wp2_with fail; refine (zm ((S s)[d.length + 1]'hlt) _).mono ?_; rintro e u' ⟨rfl, hu⟩; have b6 := hu.symm; subst b6; rw [HG.out, HC.out]; go_wp2; exact aD (v := .tuple #[.agg #[.int .i64 0, .string ⟨#[]⟩, .int .i64 0], .int .i64 0, .int .i64 3]) (by simp [results, Tryz.results112, go_sem, k0, k1, k2]) rfl (by rw [HM.out]; exact ⟨rfl, by first | exact HE.out | (repeat (first | exact HE.out | refine Below.setCell ?_ (by simp) _))⟩)
   | false =>
     have HQ : Hid (jcH (c :: t) = false) := hq; have HC : Hid _ := hq; clear hq
     by_cases hb : 2147483647 < v * 1024
     . have HM : Hid (numM s = .error 6) := by unfold Hid; rw [HN.out, HQ.out, <- HD.out, <- HV.out, if_neg (by simp), if_pos hb]
       have kj : (2147483647 : Int) < (v : Int) * 1024 := by omega
       clear hb; go_wp2_with fail; refine (zm ((S s)[d.length + 1]'hlt) _).mono ?_; rintro e u' ⟨rfl, hu⟩; have b6 := hu.symm; subst b6; rw [HG.out, HC.out]; go_wp2; exact aD (v := .tuple #[.agg #[.int .i64 0, .string ⟨#[]⟩, .int .i64 0], .int .i64 0, .int .i64 6]) (by simp [results, Tryz.results112, go_sem, k0, k1, k2]) rfl (by rw [HM.out]; exact ⟨rfl, by first | exact HE.out | (repeat (first | exact HE.out | refine Below.setCell ?_ (by simp) _))⟩)
     . have HM : Hid (numM s = .ok ({ kind := 3, text := [], num := (v * 1024 : Nat) }, (c :: t))) := by unfold Hid; rw [HN.out, HQ.out, <- HD.out, <- HV.out, if_neg (by simp), if_neg hb]
       have kj : ¬ (2147483647 : Int) < (v : Int) * 1024 := by omega
       clear hb; have HK : Hid (((s.length - ((c :: t) : List UInt8).length : Nat) : Int) = ((d.length + 1 : Nat) : Int)) := by unfold Hid; have := HL.out; omega
       go_wp2_with fail; refine (zm ((S s)[d.length + 1]'hlt) _).mono ?_; rintro e u' ⟨rfl, hu⟩; have b6 := hu.symm; subst b6; rw [HG.out, HC.out]; go_wp2; exact aD (v := .tuple #[.agg #[.int .i64 3, .string ⟨#[]⟩, .int .i64 ((v : Int) * 1024)], .int .i64 ((d.length + 1 : Nat) : Int), .int .i64 0]) (by simp [results, Tryz.results112, go_sem, k0, k1, k2]) rfl (by rw [HM.out]; exact ⟨by rw [HK.out]; simp [tokV, S], by first | exact HE.out | (repeat (first | exact HE.out | refine Below.setCell ?_ (by simp) _))⟩)
theorem jbt (s r2 : List UInt8) (w : World) (hs : s.length <= 2000) (ht : zr (s.dropWhile je) = (1048576, r2)) (hl : s.length = (s.takeWhile je).length + 1 + r2.length) (hr2 : s.drop ((s.takeWhile je).length + 1) = r2) :
 Calls Tryz.prog 112 #[.string (S s)] w (Tk w s (numM s)) := by
 have HN : Hid _ := jgU ht (by simp); obtain ⟨d, hd⟩ : ∃ d, d = s.takeWhile je := ⟨_, rfl⟩; rw [<- hd] at hl hr2; have hsz : (S s).size = d.length + 1 + r2.length := by rw [jb]; exact hl
 have HZ : Hid (s.length <= maxLen) := by unfold Hid maxLen; omega
 have HX : Hid ((S s).extract d.length (S s).size = S (s.dropWhile je)) := by unfold Hid; rw [qe, hd, jaF]
 have HU : Hid ((zr (s.dropWhile je)).1 = 1048576) := by unfold Hid; rw [ht]
 have hs2 : (S s).size <= 2000 := by rw [jb]; exact hs
 have ep : Hid _ := hsz; have HD : Hid _ := hd; have HR : Hid _ := hr2; have HL : Hid _ := hl; obtain ⟨v, hv⟩ : ∃ v, v = numC d := ⟨_, rfl⟩; have yZ : v <= 2147483648 := by rw [hv]; exact jeo d
 have HV : Hid _ := hv; have i1 : (0 : Int) <= (d.length : Int) := by omega
 have i2 : (d.length : Int) <= ((S s).size : Int) := by omega
 have ou : d.length <= 2000 := by rw [jb] at hsz; omega
 obtain ⟨W0, hW0⟩ : ∃ W0, W0 = (w.alloc (.cells #[.int .i64 0, .string ⟨#[]⟩, .int .i64 0] 147)).alloc (.cells #[.int .i64 0] 3) := ⟨_, rfl⟩; have fo : Hid (TokB W0 w.heap.size qq) := by unfold Hid; rw [hW0]; exact (vN w qq).next (nb0 _ _)
 have cj : Hid (Box W0 (w.heap.size + 1) (.int .i64 0) 3) := by unfold Hid; rw [hW0]; have := Box.new (w.alloc (.cells #[.int .i64 0, .string ⟨#[]⟩, .int .i64 0] 147)) (.int .i64 0) 3; simpa using this
 have kM : Hid (Below w.heap.size w W0) := by unfold Hid; rw [hW0]; exact (nb0 _ _).alloc (by simp) _
 have HW : Hid _ := hW0; clear hW0 hd hv hr2 hl ht hs hsz; go_enter Tryz.func112, Tryz.ntmps112; go_wp2_with fail; rw [<- HW.out]; refine (jeF s (w.heap.size + 1) _ HZ.out cj.out).mono ?_; rintro e u ⟨rfl, h1, h2⟩; rw [<- HD.out, <- HV.out] at h1; rw [<- HD.out]; have hT : TokB u w.heap.size qq := fo.out.but h2 (by omega); have HE : Hid (Below w.heap.size w u) := kM.out.trans (h2.below (by omega) kM.out.size); have hc := h1.cell; have hf := h1.free; have f0 := hT.free 0; have f1 := hT.free 1; have f2 := hT.free 2; have k0 : u.cell? ⟨w.heap.size, 0, none⟩ = some (.int .i64 0) := hT.c0; have k1 : u.cell? ⟨w.heap.size, 1, none⟩ = some (.string ⟨#[]⟩) := hT.c1; have k2 : u.cell? ⟨w.heap.size, 2, none⟩ = some (.int .i64 0) := hT.c2; clear h1 h2 hT; go_wp2_with fail; rw [HX.out]; refine (jeN (s.dropWhile je) _).mono ?_; rintro e u' ⟨rfl, hu⟩; have b6 := hu.symm; subst b6; rw [HU.out]; cases r2 with
 | nil =>
   have HQ : Hid (jcH [] = false) := rfl; have kx : ¬ ((d.length + 1 : Nat) : Int) < ((S s).size : Int) := by rw [ep.out]; simp
   by_cases hb : 2147483647 < v * 1048576
   . have HM : Hid (numM s = .error 6) := by unfold Hid; rw [HN.out, HQ.out, <- HD.out, <- HV.out, if_neg (by simp), if_pos hb]
     have kj : (2147483647 : Int) < (v : Int) * 1048576 := by omega
     clear hb; go_wp2; exact aD (v := .tuple #[.agg #[.int .i64 0, .string ⟨#[]⟩, .int .i64 0], .int .i64 0, .int .i64 6]) (by simp [results, Tryz.results112, go_sem, k0, k1, k2]) rfl (by rw [HM.out]; exact ⟨rfl, by first | exact HE.out | (repeat (first | exact HE.out | refine Below.setCell ?_ (by simp) _))⟩)
   . have HM : Hid (numM s = .ok ({ kind := 3, text := [], num := (v * 1048576 : Nat) }, [])) := by unfold Hid; rw [HN.out, HQ.out, <- HD.out, <- HV.out, if_neg (by simp), if_neg hb]
     have kj : ¬ (2147483647 : Int) < (v : Int) * 1048576 := by omega
     clear hb; have HK : Hid (((s.length - ([] : List UInt8).length : Nat) : Int) = ((d.length + 1 : Nat) : Int)) := by unfold Hid; have := HL.out; omega
     go_wp2; exact aD (v := .tuple #[.agg #[.int .i64 3, .string ⟨#[]⟩, .int .i64 ((v : Int) * 1048576)], .int .i64 ((d.length + 1 : Nat) : Int), .int .i64 0]) (by simp [results, Tryz.results112, go_sem, k0, k1, k2]) rfl (by rw [HM.out]; exact ⟨by rw [HK.out]; simp [tokV, S], by first | exact HE.out | (repeat (first | exact HE.out | refine Below.setCell ?_ (by simp) _))⟩)
 | cons c t =>
   have hlt : d.length + 1 < (S s).size := by rw [ep.out]; simp
   have HG : Hid ((S s)[d.length + 1]'hlt = c) := jeb HR.out c t rfl hlt; cases hq : jw c with
   | true =>
     have HM : Hid (numM s = .error 3) := by unfold Hid; rw [HN.out, if_pos (show jcH (c :: t) = true from hq)]
     have HC : Hid _ := hq; clear hq; go_wp2_with fail; refine (zm ((S s)[d.length + 1]'hlt) _).mono ?_; rintro e u' ⟨rfl, hu⟩; have b6 := hu.symm; subst b6; rw [HG.out, HC.out]; go_wp2; exact aD (v := .tuple #[.agg #[.int .i64 0, .string ⟨#[]⟩, .int .i64 0], .int .i64 0, .int .i64 3]) (by simp [results, Tryz.results112, go_sem, k0, k1, k2]) rfl (by rw [HM.out]; exact ⟨rfl, by first | exact HE.out | (repeat (first | exact HE.out | refine Below.setCell ?_ (by simp) _))⟩)
   | false =>
     have HQ : Hid (jcH (c :: t) = false) := hq; have HC : Hid _ := hq; clear hq
     by_cases hb : 2147483647 < v * 1048576
     . have HM : Hid (numM s = .error 6) := by unfold Hid; rw [HN.out, HQ.out, <- HD.out, <- HV.out, if_neg (by simp), if_pos hb]
       have kj : (2147483647 : Int) < (v : Int) * 1048576 := by omega
       clear hb; go_wp2_with fail; refine (zm ((S s)[d.length + 1]'hlt) _).mono ?_; rintro e u' ⟨rfl, hu⟩; have b6 := hu.symm; subst b6; rw [HG.out, HC.out]; go_wp2; exact aD (v := .tuple #[.agg #[.int .i64 0, .string ⟨#[]⟩, .int .i64 0], .int .i64 0, .int .i64 6]) (by simp [results, Tryz.results112, go_sem, k0, k1, k2]) rfl (by rw [HM.out]; exact ⟨rfl, by first | exact HE.out | (repeat (first | exact HE.out | refine Below.setCell ?_ (by simp) _))⟩)
     . have HM : Hid (numM s = .ok ({ kind := 3, text := [], num := (v * 1048576 : Nat) }, (c :: t))) := by unfold Hid; rw [HN.out, HQ.out, <- HD.out, <- HV.out, if_neg (by simp), if_neg hb]
       have kj : ¬ (2147483647 : Int) < (v : Int) * 1048576 := by omega
       clear hb; have HK : Hid (((s.length - ((c :: t) : List UInt8).length : Nat) : Int) = ((d.length + 1 : Nat) : Int)) := by unfold Hid; have := HL.out; omega
       go_wp2_with fail; refine (zm ((S s)[d.length + 1]'hlt) _).mono ?_; rintro e u' ⟨rfl, hu⟩; have b6 := hu.symm; subst b6; rw [HG.out, HC.out]; go_wp2; exact aD (v := .tuple #[.agg #[.int .i64 3, .string ⟨#[]⟩, .int .i64 ((v : Int) * 1048576)], .int .i64 ((d.length + 1 : Nat) : Int), .int .i64 0]) (by simp [results, Tryz.results112, go_sem, k0, k1, k2]) rfl (by rw [HM.out]; exact ⟨by rw [HK.out]; simp [tokV, S], by first | exact HE.out | (repeat (first | exact HE.out | refine Below.setCell ?_ (by simp) _))⟩)
theorem jdf (s : List UInt8) (w : World) (hs : s.length <= 2000) :
 Calls Tryz.prog 112 #[.string (S s)] w (Tk w s (numM s)) := by
 have hsp := congrArg List.length (bF (p := je) (l := s)); rw [aB] at hsp; have hdr := jaF je s
 rcases jhj (s.dropWhile je) with h | ⟨c, t, m, h1, h2, h3⟩
 . exact jfH s _ w hs h (by omega) hdr
 . have e1 : s.drop ((s.takeWhile je).length + 1) = t := by rw [<- List.drop_drop, hdr, h1]; rfl
   have e2 : s.length = (s.takeWhile je).length + 1 + t.length := by rw [h1, aI] at hsp; omega
   rcases h3 with rfl | rfl
   . exact jcP s t w hs h2 e2 e1
   . exact jbt s t w hs h2 e2 e1
theorem joF : (Tryz.prog.info? 5).map (fun i => (i.zero, i.size, i.bytes)) = some (some (.int .u8 0), 1, 1) := by kernel_rfl
def vR (l : List UInt8) : List Value := l.map fun c => .int .u8 c.toNat
theorem jcy (l : List UInt8) (c : UInt8) (x : Int) (hx : (c.toNat : Int) = x) : vR (l ++ [c]) = vR l ++ [.int .u8 x] := by
 simp [vR, <- hx]
theorem jcx (h : w.ownsRow base 5 1 v n (vR l)) :
 (convert 66 9 v).run Tryz.prog w = .ok (.string (S l)) w := by
 have hl : l.length = n := by have := h.1; simpa [vR] using this
 rcases h.2 with ⟨rfl, hn⟩ | ⟨g, cap, cur, rfl, _⟩
 . rw [run_convert_bytes_nil w 66 5 Tryz.underlying66 Tryz.underlying5 0 0 9 Tryz.underlying9]; have : l = [] := bh.1 (by omega); subst this; rfl
 . have := run_convert_bytes_back (P := Tryz.prog) w 66 9 5 ⟨g, 0, none⟩ cap l Tryz.underlying66 Tryz.underlying5 Tryz.underlying9 (fun j hj => by
    have e : (⟨g, 0, none⟩ : Addr).add j = ⟨g, j, none⟩ := by simp [Addr.add]; omega
    rw [e, h.cellAt j (by omega)]
    simp [vR, hj])
   rw [hl] at this; exact this
theorem jaP {e : TypeId} {size : Nat} {xs : List Value} (h : w.ownsRow base e size v n xs) : ∃ a c, v = .slice a n c := by
 rcases h.2 with ⟨hv, rfl⟩ | ⟨g, cap, cur, hv, _⟩
 . exact ⟨_, _, hv⟩
 . exact ⟨_, _, hv⟩
theorem jaW (w : World) (x : Value) (t : TypeId) : ∀ (j : Nat) u, [x][j]? = some u -> (w.alloc (.cells #[x] t)).cell? ((⟨w.heap.size, 0, none⟩ : Addr).add j) = some u := by
 intro j u hj; rw [bg, bc]
 match j, hj with
 | 0, hj => simp at hj; subst hj; simp
def jql (c : UInt8) : UInt8 := UInt8.ofNat (97 + c.toNat % 26)
theorem jf5 (c : UInt8) : ((jql c).toNat : Int) = 97 + (c.toNat : Int) % 26 := by
 unfold jql; have h : 97 + c.toNat % 26 < 256 := by omega
 rw [UInt8.toNat_ofNat_of_lt' (by simpa using h)]; omega
def jdm (l : List UInt8) (k : Nat) : List UInt8 := (l.take k).map jql
def jaA (l : List UInt8) : List UInt8 := if l = [] then [120] else jdm l 8
theorem jaB (l : List UInt8) : (jaA l).length <= 8 := by unfold jaA jdm; split <;> simp; omega
theorem jmo (s : ByteArray) (k : Nat) (hk : k < s.size) : vR (jdm s.data.toList (k + 1)) = vR (jdm s.data.toList k) ++ [.int .u8 (97 + (s[k].toNat : Int) % 26)] := by
 unfold jdm; rw [jfX s k hk, bK]; exact jcy _ _ _ (jf5 _)
def ql (x : Bool × List UInt8) (c : UInt8) : Bool × List UInt8 := if x.1 then (false, x.2 ++ [c]) else if c = 92 then (true, x.2) else (false, x.2 ++ [c])
def runS : Bool -> List UInt8 -> Nat
 | _, [] => 0
 | true, _ :: t => runS false t + 1
 | false, c :: t => if c = 34 then 0 else if c = 92 then runS true t + 1 else runS false t + 1
theorem jlU (l : List UInt8) : ∀ b, runS b l <= l.length := by
 induction l with
 | nil => intro b; cases b <;> simp [runS]
 | cons c t ih =>
   intro b; cases b with
   | true => simp only [runS, aI]; have := ih false; omega
   | false =>
     simp only [runS, aI]; split
     . omega
     . split
       . have := ih true; omega
       . have := ih false; omega
theorem jnY (l : List UInt8) : ∀ b acc k (h : k < l.length), k < runS b l -> ((l.take k).foldl ql (b, acc)).1 = true ∨ l[k] ≠ 34 := by
 induction l with
 | nil => intro b acc k h; simp at h
 | cons c t ih =>
   intro b acc k h hk; cases k with
   | zero =>
     cases b with
     | true => exact Or.inl rfl
     | false =>
       simp only [runS] at hk; split at hk
       . omega
       . rename_i hc; exact Or.inr hc
   | succ k =>
     have h' : k < t.length := by simpa using h
     simp only [List.take_succ_cons, List.foldl_cons, List.getElem_cons_succ]; cases b with
     | true =>
       simp only [runS] at hk; have e : ql (true, acc) c = (false, acc ++ [c]) := rfl; rw [e]; exact ih false _ k h' (by omega)
     | false =>
       simp only [runS] at hk; split at hk
       . omega
       . split at hk
         . rename_i h2; have e : ql (false, acc) c = (true, acc) := by simp [ql, h2]
           rw [e]; exact ih true _ k h' (by omega)
         . rename_i h2; have e : ql (false, acc) c = (false, acc ++ [c]) := by simp [ql, h2]
           rw [e]; exact ih false _ k h' (by omega)
theorem jqa (l : List UInt8) : ∀ b acc (h : runS b l < l.length), ((l.take (runS b l)).foldl ql (b, acc)).1 = false /\ l[runS b l] = 34 := by
 induction l with
 | nil => intro b acc h; simp at h
 | cons c t ih =>
   intro b acc h; cases b with
   | true =>
     simp only [runS, aI] at h; have e : ql (true, acc) c = (false, acc ++ [c]) := rfl; simp only [runS, List.take_succ_cons, List.foldl_cons, List.getElem_cons_succ]; rw [e]; exact ih false _ (by omega)
   | false =>
     by_cases h1 : c = 34
     . have e0 : runS false (c :: t) = 0 := by simp [runS, h1]
       simp only [e0, List.take_zero, List.foldl_nil, List.getElem_cons_zero]; exact ⟨trivial, h1⟩
     . by_cases h2 : c = 92
       . have e0 : runS false (c :: t) = runS true t + 1 := by simp [runS, h2]
         have e : ql (false, acc) c = (true, acc) := by simp [ql, h2]
         simp only [e0, aI] at h; simp only [e0, List.take_succ_cons, List.foldl_cons, List.getElem_cons_succ]; rw [e]; exact ih true _ (by omega)
       . have e0 : runS false (c :: t) = runS false t + 1 := by simp [runS, h1, h2]
         have e : ql (false, acc) c = (false, acc ++ [c]) := by simp [ql, h2]
         simp only [e0, aI] at h; simp only [e0, List.take_succ_cons, List.foldl_cons, List.getElem_cons_succ]; rw [e]; exact ih false _ (by omega)
theorem jn3 (l : List UInt8) : ∀ b, match strM b l with
 | none => runS b l = l.length
 | some (x, r) => runS b l < l.length /\ r = l.drop (runS b l + 1) /\ ∀ acc, ((l.take (runS b l)).foldl ql (b, acc)).2 = acc ++ x := by
 induction l with
 | nil => intro b; cases b <;> simp [strM, runS]
 | cons c t ih =>
   intro b; have more : ∀ (b' : Bool) (g : List UInt8 -> List UInt8), runS b (c :: t) = runS b' t + 1 -> strM b (c :: t) = (strM b' t).map (fun x => (g x.1, x.2)) -> (∀ acc, ∃ acc', ql (b, acc) c = (b', acc') /\ ∀ x, acc' ++ x = acc ++ g x) ->
        (match strM b (c :: t) with
        | none => runS b (c :: t) = (c :: t).length
        | some (x, r) => runS b (c :: t) < (c :: t).length /\ r = (c :: t).drop (runS b (c :: t) + 1) /\ ∀ acc, (((c :: t).take (runS b (c :: t))).foldl ql (b, acc)).2 = acc ++ x) := by
    intro b' g h1 h2 h3; have hh := ih b'; rw [h2, h1]; cases hs : strM b' t with
    | none => rw [hs] at hh; simp only at hh; simp [hh]
    | some x =>
      rw [hs] at hh; obtain ⟨q1, q2, q3⟩ := hh; simp only [Option.map_some]; refine ⟨by simp; omega, by rw [q2]; rfl, fun acc => ?_⟩; obtain ⟨acc', e1, e2⟩ := h3 acc; rw [List.take_succ_cons, List.foldl_cons, e1, q3, e2]
   cases b with
   | true => exact more false (c :: ·) (by simp [runS]) (by simp [strM]) (fun acc => ⟨acc ++ [c], rfl, by simp⟩)
   | false =>
     by_cases h1 : c = 34
     . have e0 : runS false (c :: t) = 0 := by simp [runS, h1]
       have e1 : strM false (c :: t) = some ([], t) := by simp [strM, h1]
       rw [e1, e0]; exact ⟨by simp, rfl, by simp⟩
     . by_cases h2 : c = 92
       . exact more true id (by simp [runS, h2]) (by simp [strM, h2]) (fun acc => ⟨acc, by simp [ql, h2], by simp⟩)
       . exact more false (c :: ·) (by simp [runS, h1, h2]) (by simp [strM, h1, h2]) (fun acc => ⟨acc ++ [c], by simp [ql, h2], by simp⟩)
def stS (l : List UInt8) (k : Nat) : Bool × List UInt8 := (l.take k).foldl ql (false, [])
theorem jh7 {k : Nat} (h : k < l.length) : stS l (k + 1) = ql (stS l k) l[k] := by
 unfold stS; rw [aU h, List.foldl_append]; rfl
theorem jqg (l : List UInt8) (k : Nat) : (stS l k).2.length <= k := by
 induction k with
 | zero => simp [stS]
 | succ k ih =>
   by_cases h : k < l.length
   . rw [jh7 h]; unfold ql; split
     . simp; omega
     . split
       . simp only; omega
       . simp; omega
   . have : stS l (k + 1) = stS l k := by unfold stS; rw [aV (by omega), aV (by omega)]
     rw [this]; omega
def StrI (h : Nat) (x : Bool × List UInt8) (u : World) : Prop :=
 Box u (h + 2) (.bool x.1) 4 /\ (∃ a c, Box u (h + 1) (.slice a x.2.length c) 66 /\ u.ownsRow (h + 3) 5 1 (.slice a x.2.length c) x.2.length (vR x.2)) /\ h + 3 <= u.heap.size
theorem jjE (h : Nat) (c : UInt8) (l : List UInt8) (w : World) (hI : StrI h (false, l) w) (hc : c = 34) :
 Calls Tryz.prog 154 #[.int .u8 c.toNat, .pointer (some ⟨h + 2, 0, none⟩), .pointer (some ⟨h + 1, 0, none⟩)] w fun e w' => e = .returned (.bool false) /\ w' = w := by
 have h1 := hI.1.cell; have hq : (c.toNat : Int) = 34 := by rw [hc]; rfl
 clear hc hI; go_enter Tryz.func154, Tryz.ntmps154; go_wp2; go_ret; exact ⟨rfl, rfl⟩
theorem jfU (h : Nat) (c : UInt8) (l : List UInt8) (w : World) (hI : StrI h (false, l) w) (hc : c = 92) :
 Calls Tryz.prog 154 #[.int .u8 c.toNat, .pointer (some ⟨h + 2, 0, none⟩), .pointer (some ⟨h + 1, 0, none⟩)] w fun e w' => e = .returned (.bool true) /\ StrI h (true, l) w' /\ Below (h + 1) w w' := by
 obtain ⟨hP, ⟨a, cp, hT, hO⟩, hz⟩ := hI; have h1 := hP.cell; have h2 := hP.free; have hq : (c.toNat : Int) = 92 := by rw [hc]; rfl
 have HP : Hid _ := hP; have HT : Hid _ := hT; have HO : Hid _ := hO; clear hc hP hT hO; go_enter Tryz.func154, Tryz.ntmps154; go_wp2; go_ret; refine ⟨rfl, ⟨Box.set HP.out _, ⟨a, cp, Box.but HT.out (But.set _ _) (by omega), vM HO.out (But.set _ _) (by omega)⟩, by simpa [World.setCell] using hz⟩, (But.set _ _).below (by omega) (by omega)⟩
theorem jcz (W : World) (n : Nat) (hn : W.heap.size = n) (x : Value) (t : TypeId) : ∀ (j : Nat) u, [x][j]? = some u -> (W.alloc (.cells #[x] t)).cell? ((⟨n, 0, none⟩ : Addr).add j) = some u := by
 subst hn; exact jaW W x t
theorem jhg (h : Nat) (c : UInt8) (b : Bool) (l : List UInt8) (w : World) (hI : StrI h (b, l) w) (hl : l.length <= 2000) (hc : b = true ∨ (c ≠ 34 /\ c ≠ 92)) :
 Calls Tryz.prog 154 #[.int .u8 c.toNat, .pointer (some ⟨h + 2, 0, none⟩), .pointer (some ⟨h + 1, 0, none⟩)] w fun e w' => e = .returned (.bool true) /\ StrI h (false, l ++ [c]) w' /\ Below (h + 1) w w' := by
 obtain ⟨i0, hi, hz0, hz1, hz2⟩ := info_parts joF; obtain ⟨hP, ⟨a, cp, hT, hO⟩, hz⟩ := hI; simp only at hP hT hO; have h1 := hP.cell; have h2 := hP.free; have h3 := hT.cell; have h4 := hT.free; have HP : Hid _ := hP; have HT : Hid _ := hT; have HO : Hid _ := hO; have gG : (w.setCell ⟨h + 2, 0, none⟩ (.bool false)).ownsRow (h + 3) 5 1 (.slice a l.length cp) l.length (vR l) := vM HO.out (But.set _ _) (by omega); have nR : Hid _ := gG; have Ag : h + 3 <= (w.setCell ⟨h + 2, 0, none⟩ (.bool false)).heap.size := by simpa [World.setCell] using hz
 have ng : Hid _ := Ag; have Bd : Hid (Box (w.setCell ⟨h + 2, 0, none⟩ (.bool false)) (h + 2) (.bool false) 4) := Box.set HP.out _; have By : Hid (Box (w.setCell ⟨h + 2, 0, none⟩ (.bool false)) (h + 1) (.slice a l.length cp) 66) := Box.but HT.out (But.set _ _) (by omega); have Ap : Hid (Below (h + 1) w (w.setCell ⟨h + 2, 0, none⟩ (.bool false))) := (But.set _ _).below (by omega) (by omega); have hc' : (b = true) ∨ (b = false /\ ¬ (c.toNat : Int) = 34 /\ ¬ (c.toNat : Int) = 92) := by
  rcases hc with hc | ⟨q1, q2⟩
  . exact Or.inl hc
  . cases b with
    | true => exact Or.inl rfl
    | false => exact Or.inr ⟨rfl, fun e => q1 (UInt8.toNat_inj.1 (by show c.toNat = 34; omega)), fun e => q2 (UInt8.toNat_inj.1 (by show c.toNat = 92; omega))⟩
 clear hc hP hT hO gG Ag; have fin : ∀ (v' : Value) (w2 : World), w2.ownsRow (h + 3) 5 1 v' (l.length + 1) (vR l ++ [.int .u8 c.toNat]) -> Below (h + 3) (w.setCell ⟨h + 2, 0, none⟩ (.bool false)) w2 -> ∃ a2 c2, v' = .slice a2 (l.length + 1) c2 /\ w2.cell? ⟨h + 1, 0, none⟩ = some (.slice a l.length cp) /\ w2.frozen? ⟨h + 1, 0, none⟩ = false /\ StrI h (false, l ++ [c]) (w2.setCell ⟨h + 1, 0, none⟩ v') /\ Below (h + 1) w (w2.setCell ⟨h + 1, 0, none⟩ v') := by
  intro v' w2 hown il; obtain ⟨a2, c2, rfl⟩ := jaP hown; have uF := By.out.below il (by omega); have BX := Bd.out.below il (by omega); have e : (l ++ [c]).length = l.length + 1 := by simp
  refine ⟨a2, c2, rfl, uF.cell, uF.free, ⟨Box.but BX (But.set _ _) (by omega), ⟨a2, c2, ?_, ?_⟩, ?_⟩, ?_⟩
  . simp only [e]; exact Box.set uF _
  . simp only [e]; rw [jcy l c _ rfl]; exact vM hown (But.set _ _) (by omega)
  . have := il.size; have hz3 := ng.out; simp only [World.setCell] at this hz3 ⊢; simp at this hz3 ⊢; omega
  . exact (Ap.out.trans (il.mono (by omega))).setCell (by simp) _
 have FIN : Hid _ := fin; clear fin
 rcases hc' with hb | ⟨hb, q1, q2⟩
 . subst hb; go_enter Tryz.func154, Tryz.ntmps154
   go_wp2_with (at_builtin; refine wpList_append_own _ rfl _ _ 66 rfl (h + 3) 5 i0 (.int .u8 0) 1 1 Tryz.underlying66 hi hz0 hz1 hz2 rfl (by decide) _ _ _ rfl (aO nR.out _) ⟨w.heap.size, 0, none⟩ 1 1 [.int .u8 c.toNat] rfl rfl (jcz _ _ (by simp [World.setCell]) _ _) ?c2a ?c3a ?c4a ?c5a ?_)
   case c2a => intro u hu; simp at hu; subst hu; rfl
   case c3a => unfold maxLen; omega
   case c4a => omega
   case c5a => have := ng.out; simp at this ⊢; omega
   intro v' w2 hown' hgrow _; have b7 : Below (h + 3) (w.setCell ⟨h + 2, 0, none⟩ (.bool false)) w2 := ((ay _ _).alloc ng.out _).grown hgrow (by have := ng.out; simp at this ⊢; omega) (fun j hj => (aA nR.out j hj).1); obtain ⟨a2, c2, rfl, d1, d2, d3, d4⟩ := FIN.out v' w2 hown' b7; have D3 : Hid _ := d3; have D4 : Hid _ := d4; clear hown' hgrow b7 d3 d4; go_wp2; go_ret; exact ⟨rfl, D3.out, D4.out⟩
 . subst hb; go_enter Tryz.func154, Tryz.ntmps154
   go_wp2_with (at_builtin; refine wpList_append_own _ rfl _ _ 66 rfl (h + 3) 5 i0 (.int .u8 0) 1 1 Tryz.underlying66 hi hz0 hz1 hz2 rfl (by decide) _ _ _ rfl (aO nR.out _) ⟨w.heap.size, 0, none⟩ 1 1 [.int .u8 c.toNat] rfl rfl (jcz _ _ (by simp [World.setCell]) _ _) ?c2b ?c3b ?c4b ?c5b ?_)
   case c2b => intro u hu; simp at hu; subst hu; rfl
   case c3b => unfold maxLen; omega
   case c4b => omega
   case c5b => have := ng.out; simp at this ⊢; omega
   intro v' w2 hown' hgrow _; have b7 : Below (h + 3) (w.setCell ⟨h + 2, 0, none⟩ (.bool false)) w2 := ((ay _ _).alloc ng.out _).grown hgrow (by have := ng.out; simp at this ⊢; omega) (fun j hj => (aA nR.out j hj).1); obtain ⟨a2, c2, rfl, d1, d2, d3, d4⟩ := FIN.out v' w2 hown' b7; have D3 : Hid _ := d3; have D4 : Hid _ := d4; clear hown' hgrow b7 d3 d4; go_wp2; go_ret; exact ⟨rfl, D3.out, D4.out⟩
def jcY (t : List UInt8) : Cutting := match strM false t with | none => .error 4 | some x => .ok ({ kind := 4, text := x.1, num := 0 }, x.2)
theorem jkp : ∀ args w, (callFunc 154 args).run Tryz.prog w = .ok (.enter 154 args) w := enters_of Tryz.func154 (by kernel_rfl) rfl
theorem jn1 (t : List UInt8) (h : Nat) (w : World) (ht : t.length <= 2000) (hI : StrI h (false, []) w) :
 Calls Tryz.prog 104 #[.string (S t), .func (.func 154) #[] #[.pointer (some ⟨h + 2, 0, none⟩), .pointer (some ⟨h + 1, 0, none⟩)]] w fun e w' => e = .returned (.int .i64 (runS false t : Nat)) /\ StrI h (stS t (runS false t)) w' /\ Below (h + 1) w w' := by
 have hle : runS false t <= (S t).size := by rw [jb]; exact jlU t false
 refine jeD (S t) 154 _ jkp (runS false t) (fun k u => StrI h (stS t k) u /\ Below (h + 1) w u) w (by rw [jb]; unfold maxLen; omega) hle ?_ ?_ ⟨hI, ay _ _⟩
 . intro k hk u hlt ⟨hB, hU⟩; have dF : k < t.length := by rw [jb] at hk; exact hk
   have hg : (S t)[k] = t[k] := jjQ t k hk dF; have hy := jnY t false [] k dF hlt; have hl := jqg t k
   show Calls Tryz.prog _ #[.int .u8 (S t)[k].toNat, .pointer (some ⟨h + 2, 0, none⟩), .pointer (some ⟨h + 1, 0, none⟩)] u _
   rw [hg, jh7 dF]; obtain ⟨⟨b, l⟩, hx⟩ : ∃ x, x = stS t k := ⟨_, rfl⟩; have hy' : b = true ∨ t[k] ≠ 34 := by
    have e : ((t.take k).foldl ql (false, [])).1 = b := by show (stS t k).1 = b; rw [<- hx]
    rw [e] at hy; exact hy
   rw [<- hx] at hB hl ⊢
   by_cases h2 : b = false /\ t[k] = 92
   . obtain ⟨rfl, h2⟩ := h2; refine (jfU h t[k] l u hB h2).mono ?_; rintro e u' ⟨rfl, q1, q2⟩; have e : ql (false, l) t[k] = (true, l) := by simp [ql, h2]
     rw [e]; exact ⟨rfl, q1, hU.trans q2⟩
   . refine (jhg h t[k] b l u hB (by simp only at hl; omega) ?_).mono ?_
     . cases b with
       | true => exact Or.inl rfl
       | false => exact Or.inr ⟨hy'.resolve_left (by simp), fun e => h2 ⟨rfl, e⟩⟩
     . rintro e u' ⟨rfl, q1, q2⟩; have e : ql (b, l) t[k] = (false, l ++ [t[k]]) := by
         cases b with
         | true => rfl
         | false => simp only [ql, Bool.false_eq_true, if_false]; rw [if_neg (fun e => h2 ⟨rfl, e⟩)]
       rw [e]; exact ⟨rfl, q1, hU.trans q2⟩
 . intro hn u ⟨hB, hU⟩; have sD : runS false t < t.length := by rw [jb] at hn; exact hn
   have hg : (S t)[runS false t] = t[runS false t] := jjQ t _ hn sD; obtain ⟨q1, q2⟩ := jqa t false [] sD; obtain ⟨⟨b, l⟩, hx⟩ : ∃ x, x = stS t (runS false t) := ⟨_, rfl⟩; have hb : b = false := by
    have e : ((t.take (runS false t)).foldl ql (false, [])).1 = b := by show (stS t (runS false t)).1 = b; rw [<- hx]
    rw [e] at q1; exact q1
   subst hb
   show Calls Tryz.prog _ #[.int .u8 (S t)[runS false t].toNat, .pointer (some ⟨h + 2, 0, none⟩), .pointer (some ⟨h + 1, 0, none⟩)] u _
   rw [hg]; refine (jjE h t[runS false t] l u (by rw [hx]; exact hB) q2).mono ?_; rintro e u' ⟨rfl, rfl⟩; exact ⟨rfl, hB, hU⟩
theorem jdg (t : List UInt8) (w : World) (hs : t.length < 2000) :
 Calls Tryz.prog 113 #[.string (S (34 :: t))] w (Tk w (34 :: t) (jcY t)) := by
 have hrun := jn3 t false; obtain ⟨n, hn⟩ : ∃ n, n = runS false t := ⟨_, rfl⟩; have kx : n <= t.length := by rw [hn]; exact jlU t false
 have HZ : Hid (t.length <= 2000) := by unfold Hid; omega
 have HX : Hid ((S (34 :: t)).extract 1 (S (34 :: t)).size = S t) := by unfold Hid; rw [qe]; rfl
 have hsz : (S (34 :: t)).size = t.length + 1 := by rw [jb]; rfl
 have hz1 : (1 : Int) <= ((S (34 :: t)).size : Int) := by omega
 have hz2 : (S (34 :: t)).size <= 2000 := by omega
 have gx : n <= 2000 := by omega
 have ep : Hid _ := hsz; have HN : Hid _ := hn; obtain ⟨W1, hW1⟩ : ∃ W1, W1 = w.alloc (.cells #[.int .i64 0, .string ⟨#[]⟩, .int .i64 0] 147) := ⟨_, rfl⟩; obtain ⟨W2, hW2⟩ : ∃ W2, W2 = W1.alloc (.cells #[.slice none 0 0] 66) := ⟨_, rfl⟩; obtain ⟨W0, hW0⟩ : ∃ W0, W0 = W2.alloc (.cells #[.bool false] 4) := ⟨_, rfl⟩; have z1 : W1.heap.size = w.heap.size + 1 := by rw [hW1]; simp
 have z2 : W2.heap.size = w.heap.size + 2 := by rw [hW2]; simp [z1]
 have z0 : W0.heap.size = w.heap.size + 3 := by rw [hW0]; simp [z2]
 have b1 : Below W1.heap.size W1 W2 := by rw [hW2]; exact nb0 _ _
 have b2 : Below W2.heap.size W2 W0 := by rw [hW0]; exact nb0 _ _
 have fo : Hid (TokB W0 w.heap.size qq) := by
  unfold Hid; have h1 : TokB W1 w.heap.size qq := by rw [hW1]; exact vN w qq
  exact (h1.next b1).next b2
 have AM : Hid (StrI w.heap.size (false, []) W0) := by
  unfold Hid; refine ⟨?_, ⟨none, 0, ?_, aR _ _ _ _⟩, by omega⟩
  . have := Box.new W2 (.bool false) 4; rw [z2] at this; rw [hW0]; exact this
  . have := Box.new W1 (.slice none 0 0) 66; rw [z1, <- hW2] at this; exact this.below b2 (by omega)
 have kM : Hid (Below w.heap.size w W0) := by
  unfold Hid; have h1 : Below w.heap.size w W1 := by rw [hW1]; exact nb0 _ _
  exact (h1.trans (b1.mono (by omega))).trans (b2.mono (by omega))
 have HW : Hid (W0 = ((w.alloc (.cells #[.int .i64 0, .string ⟨#[]⟩, .int .i64 0] 147)).alloc (.cells #[.slice none 0 0] 66)).alloc (.cells #[.bool false] 4)) := by unfold Hid; rw [hW0, hW2, hW1]
 clear hn hs hW0 hW1 hW2 z0 z1 z2 b1 b2 hsz; go_enter Tryz.func113, Tryz.ntmps113; go_wp2_with fail; rw [<- HW.out, HX.out]; refine (jn1 t w.heap.size _ HZ.out AM.out).mono ?_; rintro e u ⟨rfl, hI, hB⟩; rw [<- HN.out] at hI; rw [<- HN.out]; obtain ⟨hP, ⟨a, cp, hT, hO⟩, hz⟩ := hI; have mh : TokB u w.heap.size qq := fo.out.below hB (by omega); have HE : Hid (Below w.heap.size w u) := kM.out.trans (hB.mono (by omega)); have f0 := mh.free 0; have f1 := mh.free 1; have f2 := mh.free 2; have k0 : u.cell? ⟨w.heap.size, 0, none⟩ = some (.int .i64 0) := mh.c0; have k1 : u.cell? ⟨w.heap.size, 1, none⟩ = some (.string ⟨#[]⟩) := mh.c1; have k2 : u.cell? ⟨w.heap.size, 2, none⟩ = some (.int .i64 0) := mh.c2; have ct := hT.cell; have gJ := jcx hO; cases hs : strM false t with
 | none =>
   rw [hs] at hrun; have hq : (1 : Int) + (n : Int) = ((S (34 :: t)).size : Int) := by rw [ep.out]; have := HN.out; omega
   have HM : Hid (jcY t = .error 4) := by unfold Hid jcY; rw [hs]
   clear hrun hs hP hT hO mh hB gJ; go_wp2; exact aD (v := .tuple #[.agg #[.int .i64 0, .string ⟨#[]⟩, .int .i64 0], .int .i64 0, .int .i64 4]) (by simp [results, Tryz.results113, go_sem, k0, k1, k2]) rfl (by rw [HM.out]; exact ⟨rfl, by first | exact HE.out | (repeat (first | exact HE.out | refine Below.setCell ?_ (by simp) _))⟩)
 | some y =>
   obtain ⟨x, r⟩ := y; rw [hs] at hrun; obtain ⟨g1, g2, g3⟩ := hrun; rw [<- HN.out] at g1 g2 g3; have hq : ¬ (1 : Int) + (n : Int) = ((S (34 :: t)).size : Int) := by rw [ep.out]; omega
   have e2 : (stS t n).2 = x := by have := g3 []; simpa [stS] using this
   rw [e2] at gJ ct; have HR : Hid (((34 :: t).length - r.length : Nat) = 1 + n + 1) := by unfold Hid; rw [g2]; simp; omega
   have HM : Hid (jcY t = .ok ({ kind := 4, text := x, num := 0 }, r)) := by unfold Hid jcY; rw [hs]
   clear hs hP hT hO mh hB g1 g2 g3 e2; go_wp2; exact aD (v := .tuple #[.agg #[.int .i64 4, .string (S x), .int .i64 0], .int .i64 (1 + (n : Int) + 1), .int .i64 0]) (by simp [results, Tryz.results113, go_sem, k0, k1, k2]) rfl (by rw [HM.out]; exact ⟨by rw [HR.out]; rfl, by first | exact HE.out | (repeat (first | exact HE.out | refine Below.setCell ?_ (by simp) _))⟩)
end Go.Proofs.YtjdkbdkimbgbfaaGreatDoor
