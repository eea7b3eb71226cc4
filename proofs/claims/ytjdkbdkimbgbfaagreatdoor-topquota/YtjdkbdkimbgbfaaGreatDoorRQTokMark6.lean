/-
  What token.isMark does: the walk.
-/
import Derived.Test.YtjdkbdkimbgbfaaGreatDoorShelf
import Derived.Lib.IndexAny
import Derived.Test.YtjdkbdkimbgbfaaGreatDoorRQTokNum4
import Derived.ProofKit
set_option maxHeartbeats 8000000
set_option maxRecDepth 100000
namespace Go.Proofs.YtjdkbdkimbgbfaaGreatDoor
open Go.RowKit Go.Proofs
variable {c : Array Value} {e : Ending} {r s : List UInt8} {b : Nat} {t : TypeId} {v0 v1 v2 v3 v4 v5 v6 v7 : Value} {w w' : World}
def marksS : ByteArray := ⟨#[123, 125, 40, 41, 91, 93, 59, 44]⟩
def jbS (s : List UInt8) : Bool := match s with | [c] => jbT c | _ => false
theorem jja (c : UInt8) : decide (0 <= Lib.indexByte marksS.data.toList ((c.toNat : Int)).toNat.toUInt8) = jbT c := by
 rw [jbM]
 show decide (0 <= Lib.indexByte markL c) = markL.contains c
 rw [<- Lib.contains_iff_indexByte]
theorem jaM (s : List UInt8) (w : World) :
 Calls Tryz.prog 111 #[.string (S s)] w fun e w' => e = .returned (.bool (jbS s)) /\ w' = w := by
 by_cases h1 : s.length = 1
 . obtain ⟨c, rfl⟩ := List.length_eq_one_iff.1 h1; have hz : (S [c]).size = 1 := by rw [jb]; rfl
   have hz' : ((S [c]).size : Int) = 1 := by omega
   have hlt : 0 < (S [c]).size := by omega
   have HI : Hid (decide (0 <= Lib.indexByte marksS.data.toList ((c.toNat : Int)).toNat.toUInt8) = jbS [c]) := jja c; clear h1 hz; go_enter Tryz.func111, Tryz.ntmps111; go_wp2_with fail; refine (indexByte_any marksS (c.toNat : Int) _).mono ?_; rintro e u ⟨rfl, hu⟩; have b6 := hu.symm; subst b6; go_wp2; go_ret; exact ⟨jc (by rw [<- HI.out]; first | rfl | simp), rfl⟩
 . have hz : ¬ ((S s).size : Int) = 1 := by rw [jb]; omega
   have HB : Hid (jbS s = false) := by
    unfold Hid
    match s, h1 with
    | [], _ => rfl
    | [c], h => exact absurd rfl h
    | a :: b :: t, _ => rfl
   clear h1; go_enter Tryz.func111, Tryz.ntmps111; go_wp2; go_ret; exact ⟨jc HB.out.symm, rfl⟩
theorem jaD {c : UInt8} {t : List UInt8} {n : Nat} (hz : 0 < (S (c :: t)).size) (hn : n < 256) : (((((S (c :: t))[0]'hz).toNat : Nat) : Int) = (n : Int)) ↔ c = UInt8.ofNat n := by
 rw [jeT]
 constructor
 . intro e; refine UInt8.toNat_inj.1 ?_; rw [UInt8.toNat_ofNat_of_lt' hn]; omega
 . intro e; rw [e, UInt8.toNat_ofNat_of_lt' hn]
theorem qA (c : UInt8) (t : List UInt8) (w : World) (hs : (c :: t).length <= 2000) :
 Calls Tryz.prog 69 #[.string (S (c :: t))] w fun e w' => e = .returned (.int .i64 (jai (c :: t))) /\ Below w.heap.size w w' := by
 have hz := jga c t; have HZ : Hid ((c :: t).length <= maxLen) := by unfold Hid maxLen; omega
 have eI : Hid (t.length <= maxLen) := by unfold Hid maxLen; simp at hs; omega
 have hz1 : (1 : Int) <= ((S (c :: t)).size : Int) := by omega
 have hz2 : (S (c :: t)).size <= 2000 := by rw [jb]; exact hs
 have HX : Hid ((S (c :: t)).extract 1 (S (c :: t)).size = S t) := by unfold Hid; rw [qe]; rfl
 have HY : Hid ((S (c :: t)).extract 0 1 = S [c]) := by unfold Hid; rw [jdp]; rfl
 have e0 : jai (c :: t) = if jE c then 1 else if c = 58 /\ (t.head?.map jE).getD false = true then 2 else if je c then 3 else if c = 34 then 4 else if jbT c then 5 else 0 := rfl
 cases h1 : jE c with
 | true =>
   have HK : Hid (jai (c :: t) = 1) := by unfold Hid; rw [e0, h1]; rfl
   have hw : (0 : Int) < (wlen (c :: t) : Int) := by have := (jeQ (c :: t)).2 (by simpa using h1); omega
   clear e0 h1 hs; go_enter Tryz.func69, Tryz.ntmps69; go_wp2_with fail; refine (jD (c :: t) _ HZ.out).mono ?_; rintro e u ⟨rfl, hu⟩; have b6 := hu.symm; subst b6; go_wp2; go_ret; exact ⟨jd HK.out.symm, ay _ _⟩
 | false =>
   have hw : (wlen (c :: t) : Int) = 0 := by rw [jeP t h1]; rfl
   have HW : Hid _ := hw; rw [h1, if_neg (by simp)] at e0; clear hw hs
   by_cases h2 : c = 58
   . have q2 : ((((S (c :: t))[0]'hz).toNat : Nat) : Int) = 58 := (jaD hz (n := 58) (by decide)).2 h2; cases h3 : (t.head?.map jE).getD false with
     | true =>
       have HK : Hid (jai (c :: t) = 2) := by unfold Hid; rw [e0, if_pos ⟨h2, h3⟩]
       have hp : (0 : Int) < (wlen t : Int) := by have := (jeQ t).2 h3; omega
       clear e0 h1 h2 h3; go_enter Tryz.func69, Tryz.ntmps69; go_wp2_with fail; refine (jD (c :: t) _ HZ.out).mono ?_; rintro e u ⟨rfl, hu⟩; have b6 := hu.symm; subst b6; rw [HW.out]; go_wp2_with fail; rw [HX.out]; refine (jD t _ eI.out).mono ?_; rintro e u ⟨rfl, hu⟩; have b6 := hu.symm; subst b6; go_wp2; go_ret; exact ⟨jd HK.out.symm, ay _ _⟩
     | false =>
       have HK : Hid (jai (c :: t) = 0) := by
         unfold Hid; rw [e0, if_neg (by rintro ⟨_, h⟩; rw [h3] at h; cases h), h2]; decide
       have hp : (wlen t : Int) = 0 := by have := jeQ t; rw [h3] at this; simp at this; omega
       have HP : Hid _ := hp; have HD : Hid (je 58 = false) := by unfold Hid; decide
       have HM : Hid (jbS [c] = false) := by unfold Hid; rw [h2]; decide
       clear e0 h1 h2 h3 hp; go_enter Tryz.func69, Tryz.ntmps69; go_wp2_with fail; refine (jD (c :: t) _ HZ.out).mono ?_; rintro e u ⟨rfl, hu⟩; have b6 := hu.symm; subst b6; rw [HW.out]; go_wp2_with fail; rw [HX.out]; refine (jD t _ eI.out).mono ?_; rintro e u ⟨rfl, hu⟩; have b6 := hu.symm; subst b6; rw [HP.out]; go_wp2_with fail; refine (jO 58 _).mono ?_; rintro e u ⟨rfl, hu⟩; have b6 := hu.symm; subst b6; rw [HD.out]; go_wp2_with fail; rw [HY.out]; refine (jaM [c] _).mono ?_; rintro e u ⟨rfl, hu⟩; have b6 := hu.symm; subst b6; rw [HM.out]; go_wp2; go_ret; exact ⟨jd HK.out.symm, ay _ _⟩
   . have q2 : ¬ ((((S (c :: t))[0]'hz).toNat : Nat) : Int) = 58 := fun e => h2 ((jaD hz (n := 58) (by decide)).1 e)
     rw [if_neg (fun h => h2 h.1)] at e0; cases h3 : je c with
     | true =>
       have HK : Hid (jai (c :: t) = 3) := by unfold Hid; rw [e0, h3]; rfl
       have HD : Hid (je ((S (c :: t))[0]'hz) = true) := by unfold Hid; rw [jeT]; exact h3
       clear e0 h1 h2 h3; go_enter Tryz.func69, Tryz.ntmps69; go_wp2_with fail; refine (jD (c :: t) _ HZ.out).mono ?_; rintro e u ⟨rfl, hu⟩; have b6 := hu.symm; subst b6; rw [HW.out]; go_wp2_with fail; refine (jO ((S (c :: t))[0]'hz) _).mono ?_; rintro e u ⟨rfl, hu⟩; have b6 := hu.symm; subst b6; rw [HD.out]; go_wp2; go_ret; exact ⟨jd HK.out.symm, ay _ _⟩
     | false =>
       have HD : Hid (je ((S (c :: t))[0]'hz) = false) := by unfold Hid; rw [jeT]; exact h3
       rw [h3, if_neg (by simp)] at e0
       by_cases h4 : c = 34
       . have HK : Hid (jai (c :: t) = 4) := by unfold Hid; rw [e0, if_pos h4]
         have q4 : ((((S (c :: t))[0]'hz).toNat : Nat) : Int) = 34 := (jaD hz (n := 34) (by decide)).2 h4; have Au : Hid (je 34 = false) := by unfold Hid; decide
         clear e0 h1 h2 h3 h4; go_enter Tryz.func69, Tryz.ntmps69; go_wp2_with fail; refine (jD (c :: t) _ HZ.out).mono ?_; rintro e u ⟨rfl, hu⟩; have b6 := hu.symm; subst b6; rw [HW.out]; go_wp2_with fail; refine (jO 34 _).mono ?_; rintro e u ⟨rfl, hu⟩; have b6 := hu.symm; subst b6; rw [Au.out]; go_wp2; go_ret; exact ⟨jd HK.out.symm, ay _ _⟩
       . have q4 : ¬ ((((S (c :: t))[0]'hz).toNat : Nat) : Int) = 34 := fun e => h4 ((jaD hz (n := 34) (by decide)).1 e)
         rw [if_neg h4] at e0; cases h5 : jbT c with
         | true =>
           have HK : Hid (jai (c :: t) = 5) := by unfold Hid; rw [e0, h5]; rfl
           have HM : Hid (jbS [c] = true) := h5; clear e0 h1 h2 h3 h4 h5; go_enter Tryz.func69, Tryz.ntmps69; go_wp2_with fail; refine (jD (c :: t) _ HZ.out).mono ?_; rintro e u ⟨rfl, hu⟩; have b6 := hu.symm; subst b6; rw [HW.out]; go_wp2_with fail; refine (jO ((S (c :: t))[0]'hz) _).mono ?_; rintro e u ⟨rfl, hu⟩; have b6 := hu.symm; subst b6; rw [HD.out]; go_wp2_with fail; rw [HY.out]; refine (jaM [c] _).mono ?_; rintro e u ⟨rfl, hu⟩; have b6 := hu.symm; subst b6; rw [HM.out]; go_wp2; go_ret; exact ⟨jd HK.out.symm, ay _ _⟩
         | false =>
           have HK : Hid (jai (c :: t) = 0) := by unfold Hid; rw [e0, h5]; rfl
           have HM : Hid (jbS [c] = false) := h5; clear e0 h1 h2 h3 h4 h5; go_enter Tryz.func69, Tryz.ntmps69; go_wp2_with fail; refine (jD (c :: t) _ HZ.out).mono ?_; rintro e u ⟨rfl, hu⟩; have b6 := hu.symm; subst b6; rw [HW.out]; go_wp2_with fail; refine (jO ((S (c :: t))[0]'hz) _).mono ?_; rintro e u ⟨rfl, hu⟩; have b6 := hu.symm; subst b6; rw [HD.out]; go_wp2_with fail; rw [HY.out]; refine (jaM [c] _).mono ?_; rintro e u ⟨rfl, hu⟩; have b6 := hu.symm; subst b6; rw [HM.out]; go_wp2; go_ret; exact ⟨jd HK.out.symm, ay _ _⟩
theorem jb9 {u : World} {r : Cutting} (h : Tk u s r e w') (hb : Below w.heap.size w u) : Tk w s r e w' := by
 unfold Tk at h ⊢; cases r with
 | error x => exact ⟨h.1, hb.trans (h.2.mono hb.size)⟩
 | ok y => exact ⟨h.1, hb.trans (h.2.mono hb.size)⟩
theorem jia {r : Cutting} (h : Tk w s r e w') : ∃ (t : Tok) (n x : Int), e = .returned (.tuple #[tokV t, .int .i64 n, .int .i64 x]) /\ Below w.heap.size w w' := by
 unfold Tk at h; cases r with
 | error x => exact ⟨_, _, _, h.1, h.2⟩
 | ok y => exact ⟨_, _, _, h.1, h.2⟩
theorem jib {w1 w2 : World} {r : Cutting} (h : Tk w s r e w1) (hb : Below w.heap.size w w2) : Tk w s r e w2 := by
 unfold Tk at h ⊢; cases r with
 | error x => exact ⟨h.1, hb⟩
 | ok y => exact ⟨h.1, hb⟩
theorem jma (p : UInt8 -> Bool) (s : List UInt8) : s.take (s.takeWhile p).length = s.takeWhile p := by
 have := bF (p := p) (l := s)
 conv => lhs; arg 2; rw [<- this]
 rw [List.take_left]
theorem jes (c : UInt8) (t : List UInt8) (k : Int) (w : World) (hs : (c :: t).length <= 2000) (hk : k = jai (c :: t)) (hne : jai (c :: t) ≠ 0) :
 Calls Tryz.prog 70 #[.int .i64 k, .string (S (c :: t))] w (Tk w (c :: t) (tokM (c :: t))) := by
 have hz := jga c t; have rb : t.length < 2000 := by simp at hs; omega
 have HZ : Hid ((c :: t).length <= maxLen) := by unfold Hid maxLen; omega
 have eI : Hid (t.length <= maxLen) := by unfold Hid maxLen; simp at hs; omega
 have hz1 : (1 : Int) <= ((S (c :: t)).size : Int) := by omega
 have hz2 : (S (c :: t)).size <= 2000 := by rw [jb]; exact hs
 have HX : Hid ((S (c :: t)).extract 1 (S (c :: t)).size = S t) := by unfold Hid; rw [qe]; rfl
 have HY : Hid ((S (c :: t)).extract 0 1 = S [c]) := by unfold Hid; rw [jdp]; rfl
 have e0 : jai (c :: t) = if jE c then 1 else if c = 58 /\ (t.head?.map jE).getD false = true then 2 else if je c then 3 else if c = 34 then 4 else if jbT c then 5 else 0 := rfl
 have t0 : tokM (c :: t) = if jE c then .ok ({ kind := 1, text := c :: t.takeWhile jw, num := 0 }, t.dropWhile jw)
  else if c = 58 /\ (t.head?.map jE).getD false = true then .ok ({ kind := 2, text := t.takeWhile jw, num := 0 }, t.dropWhile jw)
  else if je c then numM (c :: t)
  else if c = 34 then jcY t
  else if jbT c then .ok ({ kind := 5, text := [c], num := 0 }, t)
  else .error 3 := by unfold jcY; rfl
 obtain ⟨W1, hW1⟩ : ∃ W1, W1 = w.alloc (.cells #[.int .i64 0, .string ⟨#[]⟩, .int .i64 0] 147) := ⟨_, rfl⟩; have kc : TokB W1 w.heap.size qq := by rw [hW1]; exact vN w qq
 have dG : Hid (Below w.heap.size w W1) := by unfold Hid; rw [hW1]; exact nb0 _ _
 have fo : Hid (TokB W1 w.heap.size qq) := kc; have HW : Hid _ := hW1; have rh : W1.heap.size = w.heap.size + 1 := by rw [hW1]; simp
 have xy : Hid _ := rh; have f0 := kc.free 0; have f1 := kc.free 1; have f2 := kc.free 2; have k0 : W1.cell? ⟨w.heap.size, 0, none⟩ = some (.int .i64 0) := kc.c0; have k1 : W1.cell? ⟨w.heap.size, 1, none⟩ = some (.string ⟨#[]⟩) := kc.c1; have k2 : W1.cell? ⟨w.heap.size, 2, none⟩ = some (.int .i64 0) := kc.c2; clear hW1 kc rh; cases h1 : jE c with
 | true =>
   rw [h1] at e0 t0; simp only [if_true] at e0 t0; rw [e0] at hk; subst hk; obtain ⟨n, hn⟩ : ∃ n, n = wlen (c :: t) := ⟨_, rfl⟩; have lO : n = 1 + (t.takeWhile jw).length := by rw [hn]; exact vO t h1
   have ow := congrArg List.length (bF (p := jw) (l := t)); rw [aB] at ow; have kx : n <= (S (c :: t)).size := by rw [jb, lO]; simp; omega
   have sE : 1 <= n := by omega
   have i1 : (0 : Int) <= (n : Int) := by omega
   have i2 : (n : Int) <= ((S (c :: t)).size : Int) := by omega
   have HT : Hid (tokM (c :: t) = .ok ({ kind := 1, text := c :: t.takeWhile jw, num := 0 }, t.dropWhile jw)) := t0; have HN : Hid _ := hn; have ec : Hid ((S (c :: t)).extract 0 n = S (c :: t.takeWhile jw)) := by
    unfold Hid; rw [jdp, lO, Nat.add_comm, List.take_succ_cons, jma]
   have HL : Hid ((c :: t).length - (t.dropWhile jw).length = n) := by unfold Hid; rw [lO]; simp; omega
   clear e0 t0 h1 hne hn lO ow hs; go_enter Tryz.func70, Tryz.ntmps70; go_wp2_with fail; rw [<- HW.out]; refine (jD (c :: t) _ HZ.out).mono ?_; rintro e u ⟨rfl, hu⟩; have b6 := hu.symm; subst b6; rw [<- HN.out]; go_wp2; exact aD (v := .tuple #[.agg #[.int .i64 1, .string ((S (c :: t)).extract 0 n), .int .i64 0], .int .i64 n, .int .i64 0]) (by simp [results, Tryz.results70, go_sem, k0, k1, k2]) rfl (by rw [HT.out]; exact ⟨by rw [ec.out, HL.out]; rfl, by first | exact dG.out | (repeat (first | exact dG.out | refine Below.setCell ?_ (by simp) _))⟩)
 | false =>
   rw [h1] at e0 t0; simp only [Bool.false_eq_true, if_false] at e0 t0
   by_cases h2 : c = 58 /\ (t.head?.map jE).getD false = true
   . rw [if_pos h2] at e0 t0; rw [e0] at hk; subst hk; obtain ⟨n, hn⟩ : ∃ n, n = wlen t := ⟨_, rfl⟩; have lO : n = (t.takeWhile jw).length := by
        rw [hn]; cases t with
        | nil => rfl
        | cons d v =>
          have hd : jE d = true := by simpa using h2.2
          rw [vO v hd, List.takeWhile_cons, if_pos (by unfold jw; rw [hd]; rfl)]; simp; omega
     have ow := congrArg List.length (bF (p := jw) (l := t)); rw [aB] at ow; have kx : 1 + n <= (S (c :: t)).size := by rw [jb, lO]; simp; omega
     have i1 : (1 : Int) <= 1 + (n : Int) := by omega
     have i2 : 1 + (n : Int) <= ((S (c :: t)).size : Int) := by omega
     have HT : Hid (tokM (c :: t) = .ok ({ kind := 2, text := t.takeWhile jw, num := 0 }, t.dropWhile jw)) := t0; have HN : Hid _ := hn; have ec : Hid ((S (c :: t)).extract 1 (1 + n) = S (t.takeWhile jw)) := by
        unfold Hid; rw [Lib.extract_eq, ji]
        show S ((t.drop 0).take (1 + n - 1)) = _
        rw [Nat.add_sub_cancel_left, lO]
        show S (t.take _) = _
        rw [jma]
     have HL : Hid ((c :: t).length - (t.dropWhile jw).length = 1 + n) := by unfold Hid; rw [lO]; simp; omega
     have gx : n <= 2000 := by omega
     clear e0 t0 h1 h2 hne hn lO ow hs; go_enter Tryz.func70, Tryz.ntmps70; go_wp2_with fail; rw [<- HW.out, HX.out]; refine (jD t _ eI.out).mono ?_; rintro e u ⟨rfl, hu⟩; have b6 := hu.symm; subst b6; rw [<- HN.out]; go_wp2; exact aD (v := .tuple #[.agg #[.int .i64 2, .string ((S (c :: t)).extract 1 (1 + n)), .int .i64 0], .int .i64 (1 + (n : Int)), .int .i64 0]) (by simp [results, Tryz.results70, go_sem, k0, k1, k2]) rfl (by rw [HT.out]; exact ⟨by rw [ec.out, HL.out]; rfl, by first | exact dG.out | (repeat (first | exact dG.out | refine Below.setCell ?_ (by simp) _))⟩)
   . rw [if_neg h2] at e0 t0; cases h3 : je c with
     | true =>
       rw [h3] at e0 t0; simp only [if_true] at e0 t0; rw [e0] at hk; subst hk; have HT : Hid _ := t0; have HS : Hid _ := hs; clear e0 t0 h1 h2 h3 hne hs f0 f1 f2 k0 k1 k2; go_enter Tryz.func70, Tryz.ntmps70; go_wp2_with fail; rw [<- HW.out]; refine (jdf (c :: t) _ HS.out).mono ?_; intro e u gC; rw [<- HT.out] at gC; have kD := jb9 gC dG.out; obtain ⟨x, n, y, rfl, hb⟩ := jia gC; have hT := fo.out.next hb; have f0 := hT.free 0; have f1 := hT.free 1; have f2 := hT.free 2; have k0 : u.cell? ⟨w.heap.size, 0, none⟩ = some (.int .i64 0) := hT.c0; have k1 : u.cell? ⟨w.heap.size, 1, none⟩ = some (.string ⟨#[]⟩) := hT.c1; have k2 : u.cell? ⟨w.heap.size, 2, none⟩ = some (.int .i64 0) := hT.c2; have HB : Hid (Below w.heap.size w u) := dG.out.trans (hb.mono (by have := xy.out; omega)); have HK : Hid _ := kD; clear gC kD hb hT; unfold tokV; go_wp2; exact aD (v := .tuple #[.agg #[.int .i64 x.kind, .string (S x.text), .int .i64 x.num], .int .i64 n, .int .i64 y]) (by simp [results, Tryz.results70, go_sem, k0, k1, k2]) rfl (jib HK.out (by first | exact HB.out | (repeat (first | exact HB.out | refine Below.setCell ?_ (by simp) _))))
     | false =>
       rw [h3] at e0 t0; simp only [Bool.false_eq_true, if_false] at e0 t0
       by_cases h4 : c = 34
       . rw [if_pos h4] at e0 t0; rw [e0] at hk; subst hk; subst h4; have HT : Hid _ := t0; have HS : Hid _ := rb; clear e0 t0 h1 h2 h3 hne hs rb f0 f1 f2 k0 k1 k2; go_enter Tryz.func70, Tryz.ntmps70; go_wp2_with fail; rw [<- HW.out]; refine (jdg t _ HS.out).mono ?_; intro e u gC; rw [<- HT.out] at gC; have kD := jb9 gC dG.out; obtain ⟨x, n, y, rfl, hb⟩ := jia gC; have hT := fo.out.next hb; have f0 := hT.free 0; have f1 := hT.free 1; have f2 := hT.free 2; have k0 : u.cell? ⟨w.heap.size, 0, none⟩ = some (.int .i64 0) := hT.c0; have k1 : u.cell? ⟨w.heap.size, 1, none⟩ = some (.string ⟨#[]⟩) := hT.c1; have k2 : u.cell? ⟨w.heap.size, 2, none⟩ = some (.int .i64 0) := hT.c2; have HB : Hid (Below w.heap.size w u) := dG.out.trans (hb.mono (by have := xy.out; omega)); have HK : Hid _ := kD; clear gC kD hb hT; unfold tokV; go_wp2; exact aD (v := .tuple #[.agg #[.int .i64 x.kind, .string (S x.text), .int .i64 x.num], .int .i64 n, .int .i64 y]) (by simp [results, Tryz.results70, go_sem, k0, k1, k2]) rfl (jib HK.out (by first | exact HB.out | (repeat (first | exact HB.out | refine Below.setCell ?_ (by simp) _))))
       . rw [if_neg h4] at e0 t0; cases h5 : jbT c with
         | false => rw [h5] at e0; exact absurd e0 hne
         | true =>
           rw [h5] at e0 t0; simp only [if_true] at e0 t0; rw [e0] at hk; subst hk; have HT : Hid _ := t0; have HL : Hid ((c :: t).length - t.length = 1) := by unfold Hid; simp
           clear e0 t0 h1 h2 h3 h4 h5 hne hs; go_enter Tryz.func70, Tryz.ntmps70; go_wp2; exact aD (v := .tuple #[.agg #[.int .i64 5, .string ((S (c :: t)).extract 0 1), .int .i64 0], .int .i64 1, .int .i64 0]) (by simp [results, Tryz.results70, go_sem]) rfl (by rw [HT.out]; exact ⟨by rw [HY.out, HL.out]; rfl, nb0 _ _⟩)
def blanksS : ByteArray := ⟨#[32, 9, 13, 10]⟩
theorem jfY (c : UInt8) : decide (0 <= Lib.indexByte blanksS.data.toList ((c.toNat : Int)).toNat.toUInt8) = zu c := by
 rw [jbM]
 show decide (0 <= Lib.indexByte [32, 9, 13, 10] c) = zu c
 rw [<- Lib.contains_iff_indexByte]; simp only [zu, List.contains_cons, List.contains_nil, Bool.or_false, Bool.or_assoc]
theorem jm9 (c : UInt8) (w : World) :
 Calls Tryz.prog 105 #[.int .u8 c.toNat] w fun e w' => e = .returned (.bool (zu c)) /\ w' = w := by
 have HI : Hid _ := jfY c; go_enter Tryz.func105, Tryz.ntmps105; go_wp2_with fail; refine (indexByte_any blanksS (c.toNat : Int) _).mono ?_; rintro e u ⟨rfl, hu⟩; have b6 := hu.symm; subst b6; go_wp2; go_ret; exact ⟨jc (by rw [<- HI.out]; first | rfl | simp), rfl⟩
theorem jna (c : UInt8) (w : World) :
 Calls Tryz.prog 108 #[.int .u8 c.toNat] w fun e w' => e = .returned (.bool (c != 10)) /\ w' = w := by
 have HI : Hid ((c != 10) = !decide ((c.toNat : Int) = 10)) := by
  unfold Hid
  by_cases h : c = 10
  . subst h; rfl
  . have : ¬ (c.toNat : Int) = 10 := fun e => h (UInt8.toNat_inj.1 (by show c.toNat = 10; omega))
    simp [h, this]
 go_enter Tryz.func108, Tryz.ntmps108; go_wp2; go_ret; exact ⟨jc (by rw [HI.out]; first | rfl | simp), rfl⟩
theorem jm0 : ∀ args w, (callFunc 105 args).run Tryz.prog w = .ok (.enter 105 args) w := enters_of Tryz.func105 (by kernel_rfl) rfl
theorem jm1 : ∀ args w, (callFunc 108 args).run Tryz.prog w = .ok (.enter 108 args) w := enters_of Tryz.func108 (by kernel_rfl) rfl
theorem jeE (s : List UInt8) (w : World) (hs : s.length <= 2000) :
 Calls Tryz.prog 104 #[.string (S s), .func (.func 105) #[] #[]] w fun e w' => e = .returned (.int .i64 ((s.takeWhile zu).length : Nat)) /\ w' = w := by
 have := jcX (S s) 105 jm0 zu w (by rw [jb]; unfold maxLen; omega) (fun c u => jm9 c u); rw [ji] at this; exact this
theorem jqf (s : List UInt8) (w : World) (hs : s.length <= 2000) :
 Calls Tryz.prog 104 #[.string (S s), .func (.func 108) #[] #[]] w fun e w' => e = .returned (.int .i64 ((s.takeWhile (· != 10)).length : Nat)) /\ w' = w := by
 have := jcX (S s) 108 jm1 (· != 10) w (by rw [jb]; unfold maxLen; omega) (fun c u => jna c u); rw [ji] at this; exact this
theorem jly (a : UInt8) (s : List UInt8) : Lib.hasPrefix s [a] = decide (s.head? = some a) := by
 unfold Lib.hasPrefix; cases s with
 | nil => rfl
 | cons x t =>
   show ([a].isPrefixOf (x :: t)) = _
   by_cases h : x = a
   . subst h; simp [List.isPrefixOf]
   . simp [List.isPrefixOf, h]; exact fun e => h e.symm
theorem jlz (a b : UInt8) (s : List UInt8) : Lib.hasPrefix s [a, b] = true ↔ ∃ u, s = a :: b :: u := by
 unfold Lib.hasPrefix; rw [List.isPrefixOf_iff_prefix]
 constructor
 . rintro ⟨u, hu⟩; exact ⟨u, hu.symm⟩
 . rintro ⟨u, rfl⟩; exact ⟨u, rfl⟩
theorem jdx (p : UInt8 -> Bool) (s : List UInt8) : (s.takeWhile p).length + (s.dropWhile p).length = s.length := by
 have := congrArg List.length (bF (p := p) (l := s)); rw [aB] at this; exact this
theorem jkl (p : UInt8 -> Bool) (s : List UInt8) : s.drop (s.takeWhile p).length = s.dropWhile p := by
 have := bF (p := p) (l := s)
 conv => lhs; arg 2; rw [<- this]
 rw [List.drop_left]
theorem jhb (h1 : zu (r.headD 0) = false) (h2 : r.head? ≠ some 35) (h3 : ∀ u, r ≠ 47 :: 42 :: u) : silM r = (true, r) := by
 cases r with
 | nil => exact jby
 | cons c t =>
   have ud : c ≠ 35 := by simpa using h2
   by_cases h4 : c = 47
   . subst h4; refine jb0 ?_; cases t with
     | nil => rfl
     | cons d v =>
       show (if d = 42 then some v else none) = none
       rw [if_neg (fun e => h3 v (by rw [e]))]
   . exact jcU t h1 ud h4
theorem jiC (s : List UInt8) : zu ((s.dropWhile zu).headD 0) = false := by
 induction s with
 | nil => decide
 | cons c t ih =>
   rw [List.dropWhile_cons]; cases h : zu c with
   | true => simpa using ih
   | false => simpa using h
def gapV (s : List UInt8) : Value := .tuple #[.int .i64 (s.length - (silM s).2.length : Nat), .int .i64 (if (silM s).1 then 0 else 4)]
theorem zP (s : List UInt8) (w : World) (hm : maxLenCell w) (hs : s.length <= 2000) :
 Calls Tryz.prog 68 #[.string (S s)] w fun e w' => e = .returned (gapV s) /\ Below w.heap.size w w' := by
 have hz : (S s).size <= 2000 := by rw [jb]; exact hs
 have HS : Hid _ := hs; have HM : Hid _ := hm; clear hs hm; go_enter Tryz.func68, Tryz.ntmps68; go_wp2
 go_loopw [4] (fun i wr => ∃ k : Nat, k <= (S s).size /\ i = .int .i64 k /\ Hid (silM (s.drop k) = silM s) /\ Hid (Below w.heap.size w wr)) (fun i _ => (S s).size - (intOf i).toNat)
 case atStart => exact ⟨0, aQ _, rfl, rfl, ay _ _⟩
 case round =>
  obtain ⟨k, hk, rfl, HQ, HB⟩ := hrel; obtain ⟨n, hn⟩ : ∃ n, n = ((s.drop k).takeWhile zu).length := ⟨_, rfl⟩; obtain ⟨r, hr⟩ : ∃ r, r = s.drop (k + n) := ⟨_, rfl⟩; have pQ : k <= s.length := by rw [jb] at hk; exact hk
  have hr1 : r = (s.drop k).dropWhile zu := by rw [hr, <- List.drop_drop, hn, jkl]
  have kx := jdx zu (s.drop k); rw [<- hn, <- hr1, List.length_drop] at kx; have wy : r.length <= 2000 := by have := HS.out; omega
  have kr : k + n <= (S s).size := by rw [jb]; omega
  have Dy : (S r).size + (k + n) = (S s).size := by rw [jb, jb]; omega
  have gx : n <= 2000 := by omega
  have HN : Hid _ := hn; have HR : Hid _ := hr; have dJ : Hid (silM r = silM s) := by unfold Hid; rw [hr1, jg9]; exact HQ.out
  have dB : Hid ((S s).extract k (S s).size = S (s.drop k)) := qe s k; have ec : Hid ((S s).extract (k + n) (S s).size = S r) := by unfold Hid; rw [qe, hr]
  have di : Hid ((s.drop k).length <= 2000) := by unfold Hid; rw [List.length_drop]; have := HS.out; omega
  have dl : Hid (r.length <= 2000) := wy; have i1 : (0 : Int) <= (k : Int) := by omega
  have i2 : (k : Int) <= ((S s).size : Int) := by omega
  have i3 : (0 : Int) <= (k : Int) + (n : Int) := by omega
  have i4 : (k : Int) + (n : Int) <= ((S s).size : Int) := by omega
  have HC : Hid (zu (r.headD 0) = false) := by unfold Hid; rw [hr1]; exact jiC _
  have kU : Hid (r.length + (k + n) = s.length) := by unfold Hid; omega
  have ox := maxLenCell_below HM.out (HB.out); have iR : Hid _ := ox; clear hn hr hr1 kx wy pQ ox
  by_cases i8 : ∃ t, r = 35 :: t
  . obtain ⟨t, ht⟩ := i8; obtain ⟨m, hm⟩ : ∃ m, m = (r.takeWhile (· != 10)).length := ⟨_, rfl⟩; have HP : Hid (Lib.hasPrefix (S r).data.toList (⟨#[35]⟩ : ByteArray).data.toList = true) := by
        unfold Hid; rw [ji]; show Lib.hasPrefix r [35] = true; rw [jly, ht]; rfl
    have wj : 1 <= m := by rw [hm, ht]; show 1 <= ((35 :: t).takeWhile _).length; rw [List.takeWhile_cons, if_pos (by decide)]; simp
    have fX := jdx (· != 10) r; rw [<- hm] at fX; have li : m <= 2000 := by have := dl.out; omega
    have wk : k + n + m <= (S s).size := by rw [jb]; have := kU.out; omega
    have kQ : Hid _ := hm; have cY : Hid (silM (s.drop (k + n + m)) = silM s) := by
        unfold Hid; rw [<- List.drop_drop, <- HR.out, hm, jkl, <- dJ.out]
        conv => rhs; rw [ht, jcS]
        rw [ht, List.dropWhile_cons, if_pos (by decide)]; rfl
    clear ht hm fX; go_wp2_with fail; rw [dB.out]; refine (jeE (s.drop k) _ di.out).mono ?_; rintro e u ⟨rfl, hu⟩; have b6 := hu.symm; subst b6; rw [<- HN.out]; go_wp2_with fail; rw [ec.out]; refine (hasPrefix_any (S r) ⟨#[35]⟩ _).mono ?_; rintro e u ⟨rfl, hu⟩; have b6 := hu.symm; subst b6; rw [HP.out]; go_wp2_with fail; refine (jqf r _ dl.out).mono ?_; rintro e u ⟨rfl, hu⟩; have b6 := hu.symm; subst b6; rw [<- kQ.out]; go_wp2
    go_roundw
    case rel => exact ⟨k + n + m, wk, by go_num, cY, HB⟩
    case measure => simp [intOf]; omega
  . have HP : Hid (Lib.hasPrefix (S r).data.toList (⟨#[35]⟩ : ByteArray).data.toList = false) := by
        unfold Hid; rw [ji]; show Lib.hasPrefix r [35] = false; rw [jly, decide_eq_false_iff_not]
        intro e; cases hr : r with
        | nil => rw [hr] at e; cases e
        | cons a t => rw [hr] at e; exact i8 ⟨t, by rw [hr]; simp at e; rw [e]⟩
    by_cases rX : ∃ u, r = 47 :: 42 :: u
    . obtain ⟨v, hv⟩ := rX; have dN : Hid (Lib.hasPrefix (S r).data.toList (⟨#[47, 42]⟩ : ByteArray).data.toList = true) := by
       unfold Hid; rw [ji]; exact (jlz 47 42 r).2 ⟨v, hv⟩
      have fq : Hid ((S r).extract 2 (S r).size = S v) := by unfold Hid; rw [qe, hv]; rfl
      have lm : v.length + 2 = r.length := by rw [hv]; simp
      have HV : Hid ((S v).size < 4294967281) := by unfold Hid; rw [jb]; have := dl.out; omega
      have hr2 : (2 : Int) <= ((S r).size : Int) := by rw [jb]; omega
      have CH : (S r).size <= 2000 := by omega
      cases hc : zO v with
      | none =>
        have HK : Hid (Lib.cut (S v).data.toList (⟨#[42, 47]⟩ : ByteArray).data.toList = (v, [], false)) := by unfold Hid; rw [ji]; exact jmT hc
        have HF : Hid (gapV s = .tuple #[.int .i64 ((k : Int) + (n : Int)), .int .i64 4]) := by
            unfold Hid gapV; have e1 : silM s = (false, r) := by rw [<- dJ.out, hv]; exact jcT hc
            have e2 : ((s.length - r.length : Nat) : Int) = (k : Int) + (n : Int) := by have := kU.out; omega
            rw [e1]; simp only [e2]; rfl
        clear hc hv lm i8; go_wp2_with fail; rw [dB.out]; refine (jeE (s.drop k) _ di.out).mono ?_; rintro e u ⟨rfl, hu⟩; have b6 := hu.symm; subst b6; rw [<- HN.out]; go_wp2_with fail; rw [ec.out]; refine (hasPrefix_any (S r) ⟨#[35]⟩ _).mono ?_; rintro e u ⟨rfl, hu⟩; have b6 := hu.symm; subst b6; rw [HP.out]; go_wp2_with fail; refine (hasPrefix_any (S r) ⟨#[47, 42]⟩ _).mono ?_; rintro e u ⟨rfl, hu⟩; have b6 := hu.symm; subst b6; rw [dN.out]; go_wp2_with fail; rw [fq.out]; refine (cutS_any (S v) ⟨#[42, 47]⟩ _ HV.out iR.out).mono ?_; rintro e u ⟨rfl, q, rfl⟩; rw [HK.out]; go_wp2; go_ret2; exact ⟨by rw [HF.out]; rfl, qG HB.out q⟩
      | some r2 =>
        obtain ⟨a, yq, hlen, hdr⟩ := jpn hc; have HK : Hid (Lib.cut (S v).data.toList (⟨#[42, 47]⟩ : ByteArray).data.toList = (a, r2, true)) := by unfold Hid; rw [ji]; exact yq
        have ym : (S a).size = a.length := jb a; have Ak : Hid (((⟨a.toArray⟩ : ByteArray)).size = a.length) := ym; have cw : a.length <= 2000 := by have := dl.out; omega
        have B4 : k + n + (2 + a.length + 2) <= (S s).size := by rw [jb]; have := kU.out; omega
        have cY : Hid (silM (s.drop (k + n + (2 + a.length + 2))) = silM s) := by
            unfold Hid; rw [<- List.drop_drop, <- HR.out, <- dJ.out]
            conv => rhs; rw [hv, jez hc]
            rw [hv, hdr]; have e : 2 + a.length + 2 = (a.length + 2) + 1 + 1 := by omega
            rw [e]; rfl
        clear hc hv lm yq hlen hdr ym i8; go_wp2_with fail; rw [dB.out]; refine (jeE (s.drop k) _ di.out).mono ?_; rintro e u ⟨rfl, hu⟩; have b6 := hu.symm; subst b6; rw [<- HN.out]; go_wp2_with fail; rw [ec.out]; refine (hasPrefix_any (S r) ⟨#[35]⟩ _).mono ?_; rintro e u ⟨rfl, hu⟩; have b6 := hu.symm; subst b6; rw [HP.out]; go_wp2_with fail; refine (hasPrefix_any (S r) ⟨#[47, 42]⟩ _).mono ?_; rintro e u ⟨rfl, hu⟩; have b6 := hu.symm; subst b6; rw [dN.out]; go_wp2_with fail; rw [fq.out]; refine (cutS_any (S v) ⟨#[42, 47]⟩ _ HV.out iR.out).mono ?_; rintro e u ⟨rfl, q, rfl⟩; rw [HK.out]; obtain ⟨A, hA⟩ : ∃ A, A = (⟨a.toArray⟩ : ByteArray) := ⟨_, rfl⟩; simp only; rw [<- hA]; have C2 : A.size = a.length := by rw [hA]; exact Ak.out
        have HA : Hid _ := hA; clear hA; go_wp2
        go_roundw
        case rel => exact ⟨k + n + (2 + a.length + 2), B4, by go_num, cY, qG HB.out q⟩
        case measure => simp [intOf]; omega
    . have dN : Hid (Lib.hasPrefix (S r).data.toList (⟨#[47, 42]⟩ : ByteArray).data.toList = false) := by
       unfold Hid; rw [ji]; cases e : Lib.hasPrefix r [47, 42] with
       | false => rfl
       | true => exact absurd ((jlz 47 42 r).1 e) rX
      have HF : Hid (gapV s = .tuple #[.int .i64 ((k : Int) + (n : Int)), .int .i64 0]) := by
       unfold Hid gapV; have e1 : silM s = (true, r) := by
            rw [<- dJ.out]; refine jhb HC.out ?_ (fun u e => rX ⟨u, e⟩); intro e; cases hr : r with
            | nil => rw [hr] at e; cases e
            | cons a t => rw [hr] at e; exact i8 ⟨t, by rw [hr]; simp at e; rw [e]⟩
       have e2 : ((s.length - r.length : Nat) : Int) = (k : Int) + (n : Int) := by have := kU.out; omega
       rw [e1]; simp only [e2]; rfl
      clear i8 rX; go_wp2_with fail; rw [dB.out]; refine (jeE (s.drop k) _ di.out).mono ?_; rintro e u ⟨rfl, hu⟩; have b6 := hu.symm; subst b6; rw [<- HN.out]; go_wp2_with fail; rw [ec.out]; refine (hasPrefix_any (S r) ⟨#[35]⟩ _).mono ?_; rintro e u ⟨rfl, hu⟩; have b6 := hu.symm; subst b6; rw [HP.out]; go_wp2_with fail; refine (hasPrefix_any (S r) ⟨#[47, 42]⟩ _).mono ?_; rintro e u ⟨rfl, hu⟩; have b6 := hu.symm; subst b6; rw [dN.out]; go_wp2; go_ret2; exact ⟨by rw [HF.out]; rfl, HB.out⟩
theorem jd1 (h : zO s = some r) : r <:+ s := by
 induction s with
 | nil => cases h
 | cons a t ih =>
   cases t with
   | nil => cases h
   | cons b t =>
     unfold zO at h; split at h
     . cases h; exact ⟨[a, b], rfl⟩
     . exact (ih h).trans (bB _ _)
theorem jha : ∀ (n : Nat) (s : List UInt8), s.length <= n -> (silM s).2 <:+ s := by
 intro n
 induction n with
 | zero => intro s hs; cases s with
   | nil => rw [jby]; exact List.suffix_refl _
   | cons c t => simp at hs
 | succ n ih =>
   intro s hs; cases s with
   | nil => rw [jby]; exact List.suffix_refl _
   | cons c t =>
     simp only [aI] at hs; cases h1 : zu c with
     | true => rw [jb1 t h1]; exact (ih t (by omega)).trans (bB _ _)
     | false =>
       by_cases h2 : c = 35
       . subst h2; rw [jcS]; have h3 := vK t; exact ((ih (vJ t) (by omega)).trans (List.dropWhile_suffix _)).trans (bB _ _)
       . by_cases h3 : c = 47
         . subst h3; cases h4 : jbB t with
           | some u =>
             have pq := jaR h4; subst pq; cases h5 : zO u with
             | none => rw [jcT h5]; exact List.suffix_refl _
             | some r =>
               rw [jez h5]; have := jaE h5; simp only [aI] at hs; exact (((ih r (by omega)).trans (jd1 h5)).trans (bB _ _)).trans (bB _ _)
           | none => rw [jb0 h4]; exact List.suffix_refl _
         . rw [jcU t h1 h2 h3]; exact List.suffix_refl _
theorem jeG (s : List UInt8) : (zr s).2 <:+ s := by
 unfold zr; split
 . exact List.suffix_refl _
 . split
   . exact bB _ _
   . split
     . exact bB _ _
     . exact List.suffix_refl _
theorem jhf {b : Bool} {x : List UInt8 × List UInt8} (h : strM b s = some x) : x.2 <:+ s := by
 induction s generalizing b x with
 | nil => cases b <;> cases h
 | cons c t ih =>
   cases b with
   | true =>
     unfold strM at h; rw [Option.map_eq_some_iff] at h; obtain ⟨y, hy, rfl⟩ := h; exact (ih hy).trans (bB _ _)
   | false =>
     unfold strM at h; split at h
     . cases h; exact bB _ _
     . split at h
       . exact (ih h).trans (bB _ _)
       . rw [Option.map_eq_some_iff] at h; obtain ⟨y, hy, rfl⟩ := h; exact (ih hy).trans (bB _ _)
theorem jhk {x : Tok × List UInt8} (h : tokM s = .ok x) : x.2 <:+ s := by
 cases s with
 | nil => cases h
 | cons c t =>
   simp only [tokM] at h; split at h
   . cases h; exact (List.dropWhile_suffix _).trans (bB _ _)
   . split at h
     . cases h; exact (List.dropWhile_suffix _).trans (bB _ _)
     . split at h
       . unfold numM at h; simp only at h; split at h
         . cases h
         . split at h
           . cases h
           . cases h; exact (jeG _).trans (List.dropWhile_suffix _)
       . split at h
         . split at h
           . cases h
           . rename_i x hx; cases h; exact (jhf hx).trans (bB _ _)
         . split at h
           . cases h; exact bB _ _
           . cases h
theorem joi {e : Int} (h : tokM s = .error e) : e = 3 ∨ e = 4 ∨ e = 6 := by
 cases s with
 | nil => cases h; exact Or.inl rfl
 | cons c t =>
   simp only [tokM] at h; split at h
   . cases h
   . split at h
     . cases h
     . split at h
       . unfold numM at h; simp only at h; split at h
         . cases h; exact Or.inl rfl
         . split at h
           . cases h; exact Or.inr (Or.inr rfl)
           . cases h
       . split at h
         . split at h
           . cases h; exact Or.inr (Or.inl rfl)
           . cases h
         . split at h
           . cases h
           . cases h; exact Or.inl rfl
theorem jc0 (h : r <:+ s) : s.drop (s.length - r.length) = r := (List.suffix_iff_eq_drop.1 h).symm
def Ct (w : World) (r : List Tok × Int × Int) (e : Ending) (w' : World) : Prop :=
 ∃ a c, e = .returned (.tuple #[.slice a r.1.length c, .int .i64 r.2.1, .int .i64 r.2.2]) /\ ToksAt w' a r.1 /\ Below w.heap.size w w'
theorem je6 {r : List Tok × Int × Int} {p x : Int} (hr : r = ([], p, x)) (hb : Below w.heap.size w w') : Ct w r (.returned (.tuple #[.slice none 0 0, .int .i64 p, .int .i64 x])) w' := by
 subst hr; exact ⟨none, 0, rfl, joj _ _, hb⟩
theorem joc (s : List UInt8) (w : World) (hm : maxLenCell w) :
 Calls Tryz.prog 48 #[.string (S s)] w (Ct w (cutM s)) := by
 obtain ⟨i0, hi, hz0, hz1, hz2⟩ := info_parts jkN
 by_cases hl : 2000 < s.length
 . have hq : (2000 : Int) < ((S s).size : Int) := by rw [jb]; omega
   have HR : Hid (cutM s = ([], 0, 1)) := by unfold Hid cutM; rw [if_pos hl]
   clear hl hm; go_enter Tryz.func48, Tryz.ntmps48; go_wp2
   go_ret3
   exact je6 HR.out (ay _ _)
 have hsz : (S s).size <= 2000 := by rw [jb]; omega
 have hq : ¬ (2000 : Int) < ((S s).size : Int) := by omega
 have HR : Hid (cutM s = match cutP 0 s with | .ok l => (l, 0, 0) | .error (n, e) => ([], ((s.length - n : Nat) : Int), e)) := by unfold Hid cutM; rw [if_neg hl]; rfl
 have HS : Hid (s.length <= 2000) := by unfold Hid; omega
 have HM : Hid _ := hm; clear hl hm; go_enter Tryz.func48, Tryz.ntmps48; go_wp2
 go_loopw [5, 6] (fun v i wr => ∃ (done : List Tok) (k : Nat) (a0 : Option Addr) (c0 : Nat), v = .slice a0 done.length c0 /\ i = .int .i64 k /\ k <= (S s).size /\ done.length <= 400 /\ Hid (OwnT wr w.heap.size (.slice a0 done.length c0) done) /\
  Hid (cutP 0 s = match cutP done.length (s.drop k) with | .error e => .error e | .ok l => .ok (done ++ l)) /\ Hid (Below w.heap.size w wr)) (fun _ i _ => (S s).size - (intOf i).toNat)
 case atStart => exact ⟨[], 0, none, 0, rfl, rfl, aQ _, by simp, aR _ _ _ _, by unfold Hid; show cutP 0 s = match cutP 0 s with | .error e => .error e | .ok l => .ok ([] ++ l); cases cutP 0 s <;> rfl, ay _ _⟩
 case round =>
  obtain ⟨done, k, a0, c0, rfl, rfl, hk, Df, HO, HQ, HB⟩ := hrel; obtain ⟨x, hx⟩ : ∃ x, x = s.drop k := ⟨_, rfl⟩; have mD : x.length = s.length - k := by rw [hx, List.length_drop]
  obtain ⟨g, hg⟩ : ∃ g, g = (silM x).2 := ⟨_, rfl⟩; have lT : g <:+ x := by rw [hg]; exact jha _ x (ai _)
  have ip := lT.length_le; obtain ⟨n, hn⟩ : ∃ n, n = x.length - g.length := ⟨_, rfl⟩; have yB : k <= s.length := by rw [jb] at hk; exact hk
  have hgd : s.drop (k + n) = g := by rw [<- List.drop_drop, <- hx, hn]; exact jc0 lT
  have kr : k + n + g.length = s.length := by omega
  have yC : k + n + (S g).size = (S s).size := by rw [jb, jb]; exact kr
  have dB : Hid ((S s).extract k (S s).size = S x) := by unfold Hid; rw [qe, hx]
  have ec : Hid ((S s).extract (k + n) (S s).size = S g) := by unfold Hid; rw [qe, hgd]
  have di : Hid (x.length <= 2000) := by unfold Hid; have := HS.out; omega
  have dl : Hid (g.length <= 2000) := by unfold Hid; have := HS.out; omega
  have dJ : Hid (cutP 0 s = match cutP done.length x with | .error e => .error e | .ok l => .ok (done ++ l)) := by unfold Hid; rw [hx]; exact HQ.out
  have HC : Hid _ := jpk done.length x; have gx : n <= 2000 := by have := HS.out; omega
  have i1 : (0 : Int) <= (k : Int) := by omega
  have i2 : (k : Int) <= ((S s).size : Int) := by omega
  have i3 : (0 : Int) <= (k : Int) + (n : Int) := by omega
  have i4 : (k : Int) + (n : Int) <= ((S s).size : Int) := by omega
  have ox := maxLenCell_below HM.out HB.out; have iR : Hid _ := ox; have oT : Hid (((s.length - g.length : Nat) : Int) = (k : Int) + (n : Int)) := by unfold Hid; omega
  have AI : Hid _ := hgd; have AR : Hid _ := kr; cases hb : (silM x).1 with
  | false =>
    have HV : Hid (gapV x = .tuple #[.int .i64 n, .int .i64 4]) := by
        unfold Hid gapV; rw [hb, <- hg, <- hn]; rfl
    have HF : Hid (cutM s = ([], (k : Int) + (n : Int), 4)) := by
        unfold Hid; rw [HR.out, dJ.out, HC.out, if_pos hb, <- hg]; simp only [oT.out]
    clear hx mD hg lT ip hn yB hgd kr ox hb; go_wp2_with fail; rw [dB.out]; refine (zP x _ iR.out di.out).mono ?_; rintro e u ⟨rfl, hb1⟩; rw [HV.out]; go_wp2
    go_ret3
    exact je6 HF.out (HB.out.trans (hb1.mono HB.out.size))
  | true =>
    have HV : Hid (gapV x = .tuple #[.int .i64 n, .int .i64 0]) := by
        unfold Hid gapV; rw [hb, <- hg, <- hn]; rfl
    have fZ : Hid (cutP done.length x = if g = [] then .ok [] else if done.length = 400 then .error (g.length, if begM g then 5 else 3) else match tokM g with | .error e => .error (g.length, e) | .ok y => (match cutP (done.length + 1) y.2 with | .error e => .error e | .ok l => .ok (y.1 :: l))) := by
        unfold Hid; rw [HC.out, if_neg (by rw [hb]; simp), <- hg]; rfl
    clear HC hx mD hg lT ip hn yB hgd kr ox hb; cases g with
    | nil =>
      have Ck : (k : Int) + (n : Int) = ((S s).size : Int) := by rw [jb] at yC; simp at yC; omega
      have HF : Hid (cutM s = (done, 0, 0)) := by
       unfold Hid; rw [HR.out, dJ.out, fZ.out, if_pos rfl]
       simp
      go_wp2_with fail; rw [dB.out]; refine (zP x _ iR.out di.out).mono ?_; rintro e u ⟨rfl, hb1⟩; rw [HV.out]; go_wp2
      go_ret3
      rw [HF.out]; exact ⟨a0, c0, rfl, OwnT.at (jX HO.out hb1), HB.out.trans (hb1.mono HB.out.size)⟩
    | cons c t =>
      have eC := jga c t; have Ck : ¬ (k : Int) + (n : Int) = ((S s).size : Int) := by omega
      have kK : Hid (cutP done.length x = if done.length = 400 then .error ((c :: t).length, if begM (c :: t) then 5 else 3) else match tokM (c :: t) with | .error e => .error ((c :: t).length, e) | .ok y => (match cutP (done.length + 1) y.2 with | .error e => .error e | .ok l => .ok (y.1 :: l))) := by
       unfold Hid; rw [fZ.out, if_neg (by simp)]
      clear fZ; obtain ⟨kd, lh⟩ : ∃ kd, kd = jai (c :: t) := ⟨_, rfl⟩; have rJ : Hid _ := lh
      by_cases fF : kd = 0
      . have HF : Hid (cutM s = ([], (k : Int) + (n : Int), 3)) := by
            unfold Hid; have ik : begM (c :: t) = false := (jfq _).1 (by rw [<- lh]; exact fF); rw [HR.out, dJ.out, kK.out, ik, joh ik]
            by_cases h4 : done.length = 400
            . rw [if_pos h4]; simp only [oT.out]; rfl
            . rw [if_neg h4]; simp only [oT.out]
        clear lh; go_wp2_with fail; rw [dB.out]; refine (zP x _ iR.out di.out).mono ?_; rintro e u ⟨rfl, hb1⟩; rw [HV.out]; go_wp2_with fail; rw [ec.out]; refine (qA c t _ dl.out).mono ?_; rintro e u2 ⟨rfl, hb2⟩; rw [<- rJ.out]; go_wp2
        go_ret3
        exact je6 HF.out ((HB.out.trans (hb1.mono HB.out.size)).trans (hb2.mono (HB.out.trans (hb1.mono HB.out.size)).size))
      . have iS : Hid (jai (c :: t) ≠ 0) := by unfold Hid; rw [<- lh]; exact fF
        have ik : begM (c :: t) = true := by
            cases e : begM (c :: t) with
            | true => rfl
            | false => exact absurd ((jfq _).2 e) iS.out
        by_cases h4 : done.length = 400
        . have HF : Hid (cutM s = ([], (k : Int) + (n : Int), 5)) := by
           unfold Hid; rw [HR.out, dJ.out, kK.out, ik, if_pos h4]; simp only [oT.out]; rfl
          have pq : (done.length : Int) = 400 := by omega
          clear lh ik; go_wp2_with fail; rw [dB.out]; refine (zP x _ iR.out di.out).mono ?_; rintro e u ⟨rfl, hb1⟩; rw [HV.out]; go_wp2_with fail; rw [ec.out]; refine (qA c t _ dl.out).mono ?_; rintro e u2 ⟨rfl, hb2⟩; rw [<- rJ.out]; go_wp2
          go_ret3
          exact je6 HF.out ((HB.out.trans (hb1.mono HB.out.size)).trans (hb2.mono (HB.out.trans (hb1.mono HB.out.size)).size))
        . have pq : ¬ (done.length : Int) = 400 := by omega
          have wV : Hid (cutP done.length x = match tokM (c :: t) with | .error e => .error ((c :: t).length, e) | .ok y => (match cutP (done.length + 1) y.2 with | .error e => .error e | .ok l => .ok (y.1 :: l))) := by
           unfold Hid; rw [kK.out, if_neg h4]
          clear lh ik kK; go_wp2_with fail; rw [dB.out]; refine (zP x _ iR.out di.out).mono ?_; rintro e u ⟨rfl, hb1⟩; rw [HV.out]; have bX : Hid (Below w.heap.size w u) := HB.out.trans (hb1.mono HB.out.size); have nR : Hid (OwnT u w.heap.size (.slice a0 done.length c0) done) := jX HO.out hb1; clear hb1; go_wp2_with fail; rw [ec.out]; refine (qA c t _ dl.out).mono ?_; rintro e u2 ⟨rfl, hb2⟩; rw [<- rJ.out]; have bY : Hid (Below w.heap.size w u2) := bX.out.trans (hb2.mono bX.out.size); have dQ : Hid (OwnT u2 w.heap.size (.slice a0 done.length c0) done) := jX nR.out hb2; clear hb2; go_wp2_with fail; rw [ec.out]; refine (jes c t kd _ dl.out rJ.out iS.out).mono ?_; cases ht : tokM (c :: t) with
          | error er =>
            have her := joi ht; have B9 : ¬ er = 0 := by omega
            have HF : Hid (cutM s = ([], (k : Int) + (n : Int), er)) := by
             unfold Hid; rw [HR.out, dJ.out, wV.out, ht]; simp only [oT.out]
            clear ht her; rintro e u3 ⟨rfl, hb3⟩; have bZ : Hid (Below w.heap.size w u3) := bY.out.trans (hb3.mono bY.out.size); clear hb3; unfold tokV; go_wp2
            go_ret3
            exact je6 HF.out (bZ.out.alloc bZ.out.size _)
          | ok y =>
            obtain ⟨tk, rest⟩ := y; have lR := jhk ht; have hlt := jeI ht; simp only at lR hlt; obtain ⟨m, hm⟩ : ∃ m, m = (c :: t).length - rest.length := ⟨_, rfl⟩; have nA : 1 <= m := by omega
            have li : m <= (c :: t).length := by omega
            have wk : k + n + m <= (S s).size := by rw [jb]; have := AR.out; omega
            have Do : m <= 2000 := by have := dl.out; omega
            have kQ : Hid _ := hm; have gd : Hid (cutP 0 s = match cutP (done ++ [tk]).length (s.drop (k + n + m)) with | .error e => .error e | .ok l => .ok ((done ++ [tk]) ++ l)) := by
             unfold Hid; have e1 : s.drop (k + n + m) = rest := by rw [<- List.drop_drop, AI.out, hm]; exact jc0 lR
             have e2 : (done ++ [tk]).length = done.length + 1 := by simp
             rw [dJ.out, wV.out, ht, e1, e2]; simp only; cases cutP (done.length + 1) rest with
             | error e => rfl
             | ok l => simp
            clear ht lR hlt hm; rintro e u3 ⟨rfl, hb3⟩; rw [<- kQ.out]; have bZ : Hid (Below w.heap.size w u3) := bY.out.trans (hb3.mono bY.out.size); have db : Hid (u3.ownsRow w.heap.size 147 3 (.slice a0 done.length c0) done.length (qM done)) := jX dQ.out hb3; have hz3 := bZ.out.size; clear hb3; unfold tokV
            go_wp2_with (at_builtin; refine wpList_append_own _ rfl _ _ 114 rfl w.heap.size 147 i0 _ 3 32 Tryz.underlying114 hi hz0 hz1 hz2 rfl (by decide) (.slice a0 done.length c0) done.length (qM done) rfl (aO (aO db.out _) _) ⟨u3.heap.size + 1, 0, none⟩ 1 1 [.int .i64 tk.kind, .string (S tk.text), .int .i64 tk.num] rfl rfl (jmg _ _ (by simp) _ _ _ _) ?c2 ?c3 ?c4 ?c5 ?_)
            case c2 => intro u hu; simp at hu; rcases hu with rfl | rfl | rfl <;> rfl
            case c3 => unfold maxLen; omega
            case c4 => omega
            case c5 => simp; omega
            intro v' w4 hown' hgrow _; have cf : Below w.heap.size w w4 := ((bZ.out.alloc hz3 _).alloc (by simp; omega) _).grown hgrow (by simp; omega) (fun j hj => (aA db.out j hj).1); have iF : OwnT w4 w.heap.size v' (done ++ [tk]) := by unfold OwnT; rw [jcA, aB]; exact hown'
            obtain ⟨a2, c2, hv2⟩ := iF.any; subst hv2; have iT : Hid (OwnT w4 w.heap.size (.slice a2 (done ++ [tk]).length c2) (done ++ [tk])) := iF; have ch : Hid (Below w.heap.size w w4) := cf; clear iF hown' hgrow cf; go_wp2
            go_roundw
            case rel => exact ⟨done ++ [tk], k + n + m, a2, c2, by first | rfl | simp, by go_num, wk, by simp; omega, iT, gd, ch⟩
            case measure => simp [intOf]; omega
theorem bx3 (h : w.heap[b]? = some (.cells #[v0, v1, v2] t)) : w.cell? ⟨b, 0, none⟩ = some v0 /\ w.cell? ⟨b, 1, none⟩ = some v1 /\ w.cell? ⟨b, 2, none⟩ = some v2 := by
 refine ⟨?_, ?_, ?_⟩ <;> simp [World.cell?, h]
theorem bx5 (h : w.heap[b]? = some (.cells #[v0, v1, v2, v3, v4] t)) : w.cell? ⟨b, 0, none⟩ = some v0 /\ w.cell? ⟨b, 1, none⟩ = some v1 /\ w.cell? ⟨b, 2, none⟩ = some v2 /\ w.cell? ⟨b, 3, none⟩ = some v3 /\ w.cell? ⟨b, 4, none⟩ = some v4 := by
 refine ⟨?_, ?_, ?_, ?_, ?_⟩ <;> simp [World.cell?, h]
theorem bx6 (h : w.heap[b]? = some (.cells #[v0, v1, v2, v3, v4, v5] t)) : w.cell? ⟨b, 0, none⟩ = some v0 /\ w.cell? ⟨b, 1, none⟩ = some v1 /\ w.cell? ⟨b, 2, none⟩ = some v2 /\ w.cell? ⟨b, 3, none⟩ = some v3 /\ w.cell? ⟨b, 4, none⟩ = some v4 /\ w.cell? ⟨b, 5, none⟩ = some v5 := by
 refine ⟨?_, ?_, ?_, ?_, ?_, ?_⟩ <;> simp [World.cell?, h]
theorem bx8 (h : w.heap[b]? = some (.cells #[v0, v1, v2, v3, v4, v5, v6, v7] t)) : w.cell? ⟨b, 0, none⟩ = some v0 /\ w.cell? ⟨b, 1, none⟩ = some v1 /\ w.cell? ⟨b, 2, none⟩ = some v2 /\ w.cell? ⟨b, 3, none⟩ = some v3 /\ w.cell? ⟨b, 4, none⟩ = some v4 /\ w.cell? ⟨b, 5, none⟩ = some v5 /\ w.cell? ⟨b, 6, none⟩ = some v6 /\ w.cell? ⟨b, 7, none⟩ = some v7 := by
 refine ⟨?_, ?_, ?_, ?_, ?_, ?_, ?_, ?_⟩ <;> simp [World.cell?, h]
theorem bx12 {v8 v9 v10 v11 : Value} (h : w.heap[b]? = some (.cells #[v0, v1, v2, v3, v4, v5, v6, v7, v8, v9, v10, v11] t)) : w.cell? ⟨b, 0, none⟩ = some v0 /\ w.cell? ⟨b, 1, none⟩ = some v1 /\ w.cell? ⟨b, 2, none⟩ = some v2 /\ w.cell? ⟨b, 3, none⟩ = some v3 /\ w.cell? ⟨b, 4, none⟩ = some v4 /\ w.cell? ⟨b, 5, none⟩ = some v5 /\ w.cell? ⟨b, 6, none⟩ = some v6 /\ w.cell? ⟨b, 7, none⟩ = some v7 /\ w.cell? ⟨b, 8, none⟩ = some v8 /\ w.cell? ⟨b, 9, none⟩ = some v9 /\ w.cell? ⟨b, 10, none⟩ = some v10 /\ w.cell? ⟨b, 11, none⟩ = some v11 := by
 refine ⟨?_, ?_, ?_, ?_, ?_, ?_, ?_, ?_, ?_, ?_, ?_, ?_⟩ <;> simp [World.cell?, h]
theorem bz8 (h : w.heap[b]? = some (.cells c t)) : w.frozen? ⟨b, 0, none⟩ = false /\ w.frozen? ⟨b, 1, none⟩ = false /\ w.frozen? ⟨b, 2, none⟩ = false /\ w.frozen? ⟨b, 3, none⟩ = false /\ w.frozen? ⟨b, 4, none⟩ = false /\ w.frozen? ⟨b, 5, none⟩ = false /\ w.frozen? ⟨b, 6, none⟩ = false /\ w.frozen? ⟨b, 7, none⟩ = false := by
 refine ⟨?_, ?_, ?_, ?_, ?_, ?_, ?_, ?_⟩ <;> simp [World.frozen?, h]
theorem bz12 (h : w.heap[b]? = some (.cells c t)) : w.frozen? ⟨b, 0, none⟩ = false /\ w.frozen? ⟨b, 1, none⟩ = false /\ w.frozen? ⟨b, 2, none⟩ = false /\ w.frozen? ⟨b, 3, none⟩ = false /\ w.frozen? ⟨b, 4, none⟩ = false /\ w.frozen? ⟨b, 5, none⟩ = false /\ w.frozen? ⟨b, 6, none⟩ = false /\ w.frozen? ⟨b, 7, none⟩ = false /\ w.frozen? ⟨b, 8, none⟩ = false /\ w.frozen? ⟨b, 9, none⟩ = false /\ w.frozen? ⟨b, 10, none⟩ = false /\ w.frozen? ⟨b, 11, none⟩ = false := by
 refine ⟨?_, ?_, ?_, ?_, ?_, ?_, ?_, ?_, ?_, ?_, ?_, ?_⟩ <;> simp [World.frozen?, h]
end Go.Proofs.YtjdkbdkimbgbfaaGreatDoor
