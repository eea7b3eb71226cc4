/-
  What token.isMark does: the walk.
-/
import Derived.Test.YtmgdnhjemhhleaaGreatDoorShelf
import Derived.Lib.IndexAny
import Derived.Test.YtmgdnhjemhhleaaGreatDoorOQTokNum4
import Derived.ProofKit
set_option maxHeartbeats 8000000
set_option maxRecDepth 100000
namespace Go.Proofs.YtmgdnhjemhhleaaGreatDoor
open Go.RowKit Go.Proofs
def marksS : ByteArray := ⟨#[123, 125, 40, 41, 91, 93, 59, 44]⟩
def ja3 (s : List UInt8) : Bool := match s with | [c] => ja4 c | _ => false
theorem jhe (c : UInt8) : decide (0 ≤ Lib.indexByte marksS.data.toList ((c.toNat : Int)).toNat.toUInt8) = ja4 c := by
 rw [jaY]
 show decide (0 ≤ Lib.indexByte markL c) = markL.contains c
 rw [← Lib.contains_iff_indexByte]
theorem vZ (s : List UInt8) (w : World) :
 Calls Tryz.prog 121 #[.string (S s)] w fun e w' => e = .returned (.bool (ja3 s)) ∧ w' = w := by
 by_cases h1 : s.length = 1
 · obtain ⟨c, rfl⟩ := List.length_eq_one_iff.1 h1; have hz : (S [c]).size = 1 := by rw [jd]; rfl
   have hz' : ((S [c]).size : Int) = 1 := by omega
   have hlt : 0 < (S [c]).size := by omega
   have HI : Hid (decide (0 ≤ Lib.indexByte marksS.data.toList ((c.toNat : Int)).toNat.toUInt8) = ja3 [c]) := jhe c; clear h1 hz; go_enter Tryz.func121, Tryz.ntmps121; go_wp2_with fail; refine (indexByte_any marksS (c.toNat : Int) _).mono ?_; rintro e u ⟨rfl, hu⟩; have hu' := hu.symm; subst hu'; go_wp2; go_ret; exact ⟨jb (by rw [← HI.out]; first | rfl | simp), rfl⟩
 · have hz : ¬ ((S s).size : Int) = 1 := by rw [jd]; omega
   have HB : Hid (ja3 s = false) := by
    unfold Hid
    match s, h1 with
    | [], _ => rfl
    | [c], h => exact absurd rfl h
    | a :: b :: t, _ => rfl
   clear h1; go_enter Tryz.func121, Tryz.ntmps121; go_wp2; go_ret; exact ⟨jb HB.out.symm, rfl⟩
theorem vR {c : UInt8} {t : List UInt8} {n : Nat} (hz : 0 < (S (c :: t)).size) (hn : n < 256) : (((((S (c :: t))[0]'hz).toNat : Nat) : Int) = (n : Int)) ↔ c = UInt8.ofNat n := by
 rw [jdX]
 constructor
 · intro e; refine UInt8.toNat_inj.1 ?_; rw [UInt8.toNat_ofNat_of_lt' hn]; omega
 · intro e; rw [e, UInt8.toNat_ofNat_of_lt' hn]
theorem qj (c : UInt8) (t : List UInt8) (w : World) (hs : (c :: t).length ≤ 2000) :
 Calls Tryz.prog 92 #[.string (S (c :: t))] w fun e w' => e = .returned (.int .i64 (vI (c :: t))) ∧ Below w.heap.size w w' := by
 have hz := jeV c t; have HZ : Hid ((c :: t).length ≤ maxLen) := by unfold Hid maxLen; omega
 have HZ2 : Hid (t.length ≤ maxLen) := by unfold Hid maxLen; simp at hs; omega
 have hz1 : (1 : Int) ≤ ((S (c :: t)).size : Int) := by omega
 have hz2 : (S (c :: t)).size ≤ 2000 := by rw [jd]; exact hs
 have HX : Hid ((S (c :: t)).extract 1 (S (c :: t)).size = S t) := by unfold Hid; rw [zO]; rfl
 have HY : Hid ((S (c :: t)).extract 0 1 = S [c]) := by unfold Hid; rw [jcH]; rfl
 have e0 : vI (c :: t) = if jz c then 1 else if c = 58 ∧ (t.head?.map jz).getD false = true then 2 else if je c then 3 else if c = 34 then 4 else if ja4 c then 5 else 0 := rfl
 cases h1 : jz c with
 | true =>
   have HK : Hid (vI (c :: t) = 1) := by unfold Hid; rw [e0, h1]; rfl
   have hw : (0 : Int) < (wlen (c :: t) : Int) := by have := (jdU (c :: t)).2 (by simpa using h1); omega
   clear e0 h1 hs; go_enter Tryz.func92, Tryz.ntmps92; go_wp2_with fail; refine (jw (c :: t) _ HZ.out).mono ?_; rintro e u ⟨rfl, hu⟩; have hu' := hu.symm; subst hu'; go_wp2; go_ret; exact ⟨jc HK.out.symm, Below.refl _ _⟩
 | false =>
   have hw : (wlen (c :: t) : Int) = 0 := by rw [jdT t h1]; rfl
   have HW : Hid _ := hw; rw [h1, if_neg (by simp)] at e0; clear hw hs
   by_cases h2 : c = 58
   · have q2 : ((((S (c :: t))[0]'hz).toNat : Nat) : Int) = 58 := (vR hz (n := 58) (by decide)).2 h2; cases h3 : (t.head?.map jz).getD false with
     | true =>
       have HK : Hid (vI (c :: t) = 2) := by unfold Hid; rw [e0, if_pos ⟨h2, h3⟩]
       have hp : (0 : Int) < (wlen t : Int) := by have := (jdU t).2 h3; omega
       clear e0 h1 h2 h3; go_enter Tryz.func92, Tryz.ntmps92; go_wp2_with fail; refine (jw (c :: t) _ HZ.out).mono ?_; rintro e u ⟨rfl, hu⟩; have hu' := hu.symm; subst hu'; rw [HW.out]; go_wp2_with fail; rw [HX.out]; refine (jw t _ HZ2.out).mono ?_; rintro e u ⟨rfl, hu⟩; have hu' := hu.symm; subst hu'; go_wp2; go_ret; exact ⟨jc HK.out.symm, Below.refl _ _⟩
     | false =>
       have HK : Hid (vI (c :: t) = 0) := by
         unfold Hid; rw [e0, if_neg (by rintro ⟨_, h⟩; rw [h3] at h; cases h), h2]; decide
       have hp : (wlen t : Int) = 0 := by have := jdU t; rw [h3] at this; simp at this; omega
       have HP : Hid _ := hp; have HD : Hid (je 58 = false) := by unfold Hid; decide
       have HM : Hid (ja3 [c] = false) := by unfold Hid; rw [h2]; decide
       clear e0 h1 h2 h3 hp; go_enter Tryz.func92, Tryz.ntmps92; go_wp2_with fail; refine (jw (c :: t) _ HZ.out).mono ?_; rintro e u ⟨rfl, hu⟩; have hu' := hu.symm; subst hu'; rw [HW.out]; go_wp2_with fail; rw [HX.out]; refine (jw t _ HZ2.out).mono ?_; rintro e u ⟨rfl, hu⟩; have hu' := hu.symm; subst hu'; rw [HP.out]; go_wp2_with fail; refine (jK 58 _).mono ?_; rintro e u ⟨rfl, hu⟩; have hu' := hu.symm; subst hu'; rw [HD.out]; go_wp2_with fail; rw [HY.out]; refine (vZ [c] _).mono ?_; rintro e u ⟨rfl, hu⟩; have hu' := hu.symm; subst hu'; rw [HM.out]; go_wp2; go_ret; exact ⟨jc HK.out.symm, Below.refl _ _⟩
   · have q2 : ¬ ((((S (c :: t))[0]'hz).toNat : Nat) : Int) = 58 := fun e => h2 ((vR hz (n := 58) (by decide)).1 e)
     rw [if_neg (fun h => h2 h.1)] at e0; cases h3 : je c with
     | true =>
       have HK : Hid (vI (c :: t) = 3) := by unfold Hid; rw [e0, h3]; rfl
       have HD : Hid (je ((S (c :: t))[0]'hz) = true) := by unfold Hid; rw [jdX]; exact h3
       clear e0 h1 h2 h3; go_enter Tryz.func92, Tryz.ntmps92; go_wp2_with fail; refine (jw (c :: t) _ HZ.out).mono ?_; rintro e u ⟨rfl, hu⟩; have hu' := hu.symm; subst hu'; rw [HW.out]; go_wp2_with fail; refine (jK ((S (c :: t))[0]'hz) _).mono ?_; rintro e u ⟨rfl, hu⟩; have hu' := hu.symm; subst hu'; rw [HD.out]; go_wp2; go_ret; exact ⟨jc HK.out.symm, Below.refl _ _⟩
     | false =>
       have HD : Hid (je ((S (c :: t))[0]'hz) = false) := by unfold Hid; rw [jdX]; exact h3
       rw [h3, if_neg (by simp)] at e0
       by_cases h4 : c = 34
       · have HK : Hid (vI (c :: t) = 4) := by unfold Hid; rw [e0, if_pos h4]
         have q4 : ((((S (c :: t))[0]'hz).toNat : Nat) : Int) = 34 := (vR hz (n := 34) (by decide)).2 h4; have HD4 : Hid (je 34 = false) := by unfold Hid; decide
         clear e0 h1 h2 h3 h4; go_enter Tryz.func92, Tryz.ntmps92; go_wp2_with fail; refine (jw (c :: t) _ HZ.out).mono ?_; rintro e u ⟨rfl, hu⟩; have hu' := hu.symm; subst hu'; rw [HW.out]; go_wp2_with fail; refine (jK 34 _).mono ?_; rintro e u ⟨rfl, hu⟩; have hu' := hu.symm; subst hu'; rw [HD4.out]; go_wp2; go_ret; exact ⟨jc HK.out.symm, Below.refl _ _⟩
       · have q4 : ¬ ((((S (c :: t))[0]'hz).toNat : Nat) : Int) = 34 := fun e => h4 ((vR hz (n := 34) (by decide)).1 e)
         rw [if_neg h4] at e0; cases h5 : ja4 c with
         | true =>
           have HK : Hid (vI (c :: t) = 5) := by unfold Hid; rw [e0, h5]; rfl
           have HM : Hid (ja3 [c] = true) := h5; clear e0 h1 h2 h3 h4 h5; go_enter Tryz.func92, Tryz.ntmps92; go_wp2_with fail; refine (jw (c :: t) _ HZ.out).mono ?_; rintro e u ⟨rfl, hu⟩; have hu' := hu.symm; subst hu'; rw [HW.out]; go_wp2_with fail; refine (jK ((S (c :: t))[0]'hz) _).mono ?_; rintro e u ⟨rfl, hu⟩; have hu' := hu.symm; subst hu'; rw [HD.out]; go_wp2_with fail; rw [HY.out]; refine (vZ [c] _).mono ?_; rintro e u ⟨rfl, hu⟩; have hu' := hu.symm; subst hu'; rw [HM.out]; go_wp2; go_ret; exact ⟨jc HK.out.symm, Below.refl _ _⟩
         | false =>
           have HK : Hid (vI (c :: t) = 0) := by unfold Hid; rw [e0, h5]; rfl
           have HM : Hid (ja3 [c] = false) := h5; clear e0 h1 h2 h3 h4 h5; go_enter Tryz.func92, Tryz.ntmps92; go_wp2_with fail; refine (jw (c :: t) _ HZ.out).mono ?_; rintro e u ⟨rfl, hu⟩; have hu' := hu.symm; subst hu'; rw [HW.out]; go_wp2_with fail; refine (jK ((S (c :: t))[0]'hz) _).mono ?_; rintro e u ⟨rfl, hu⟩; have hu' := hu.symm; subst hu'; rw [HD.out]; go_wp2_with fail; rw [HY.out]; refine (vZ [c] _).mono ?_; rintro e u ⟨rfl, hu⟩; have hu' := hu.symm; subst hu'; rw [HM.out]; go_wp2; go_ret; exact ⟨jc HK.out.symm, Below.refl _ _⟩
theorem jbh {w u w' : World} {s : List UInt8} {r : Cutting} {e : Ending} (h : Tk u s r e w') (hb : Below w.heap.size w u) : Tk w s r e w' := by
 unfold Tk at h ⊢; cases r with
 | error x => exact ⟨h.1, hb.trans (h.2.mono hb.size)⟩
 | ok y => exact ⟨h.1, hb.trans (h.2.mono hb.size)⟩
theorem jgm {w w' : World} {s : List UInt8} {r : Cutting} {e : Ending} (h : Tk w s r e w') : ∃ (t : Tok) (n x : Int), e = .returned (.tuple #[tokV t, .int .i64 n, .int .i64 x]) ∧ Below w.heap.size w w' := by
 unfold Tk at h; cases r with
 | error x => exact ⟨_, _, _, h.1, h.2⟩
 | ok y => exact ⟨_, _, _, h.1, h.2⟩
theorem jgn {w w1 w2 : World} {s : List UInt8} {r : Cutting} {e : Ending} (h : Tk w s r e w1) (hb : Below w.heap.size w w2) : Tk w s r e w2 := by
 unfold Tk at h ⊢; cases r with
 | error x => exact ⟨h.1, hb⟩
 | ok y => exact ⟨h.1, hb⟩
theorem jjz (p : UInt8 → Bool) (s : List UInt8) : s.take (s.takeWhile p).length = s.takeWhile p := by
 have := List.takeWhile_append_dropWhile (p := p) (l := s)
 conv => lhs; arg 2; rw [← this]
 rw [List.take_left]
theorem jdE (c : UInt8) (t : List UInt8) (k : Int) (w : World) (hs : (c :: t).length ≤ 2000) (hk : k = vI (c :: t)) (hne : vI (c :: t) ≠ 0) :
 Calls Tryz.prog 93 #[.int .i64 k, .string (S (c :: t))] w (Tk w (c :: t) (tokM (c :: t))) := by
 have hz := jeV c t; have hsl : t.length < 2000 := by simp at hs; omega
 have HZ : Hid ((c :: t).length ≤ maxLen) := by unfold Hid maxLen; omega
 have HZ2 : Hid (t.length ≤ maxLen) := by unfold Hid maxLen; simp at hs; omega
 have hz1 : (1 : Int) ≤ ((S (c :: t)).size : Int) := by omega
 have hz2 : (S (c :: t)).size ≤ 2000 := by rw [jd]; exact hs
 have HX : Hid ((S (c :: t)).extract 1 (S (c :: t)).size = S t) := by unfold Hid; rw [zO]; rfl
 have HY : Hid ((S (c :: t)).extract 0 1 = S [c]) := by unfold Hid; rw [jcH]; rfl
 have e0 : vI (c :: t) = if jz c then 1 else if c = 58 ∧ (t.head?.map jz).getD false = true then 2 else if je c then 3 else if c = 34 then 4 else if ja4 c then 5 else 0 := rfl
 have t0 : tokM (c :: t) = if jz c then .ok ({ kind := 1, text := c :: t.takeWhile js, num := 0 }, t.dropWhile js)
  else if c = 58 ∧ (t.head?.map jz).getD false = true then .ok ({ kind := 2, text := t.takeWhile js, num := 0 }, t.dropWhile js)
  else if je c then numM (c :: t)
  else if c = 34 then jce t
  else if ja4 c then .ok ({ kind := 5, text := [c], num := 0 }, t)
  else .error 3 := by unfold jce; rfl
 obtain ⟨W1, hW1⟩ : ∃ W1, W1 = w.alloc (.cells #[.int .i64 0, .string ⟨#[]⟩, .int .i64 0] 164) := ⟨_, rfl⟩; have hT0 : TokB W1 w.heap.size qb := by rw [hW1]; exact qX w qb
 have HE1 : Hid (Below w.heap.size w W1) := by unfold Hid; rw [hW1]; exact nb0 _ _
 have HT0 : Hid (TokB W1 w.heap.size qb) := hT0; have HW : Hid _ := hW1; have hwz : W1.heap.size = w.heap.size + 1 := by rw [hW1]; simp
 have HWZ : Hid _ := hwz; have f0 := hT0.free 0; have f1 := hT0.free 1; have f2 := hT0.free 2; have k0 : W1.cell? ⟨w.heap.size, 0, none⟩ = some (.int .i64 0) := hT0.c0; have k1 : W1.cell? ⟨w.heap.size, 1, none⟩ = some (.string ⟨#[]⟩) := hT0.c1; have k2 : W1.cell? ⟨w.heap.size, 2, none⟩ = some (.int .i64 0) := hT0.c2; clear hW1 hT0 hwz; cases h1 : jz c with
 | true =>
   rw [h1] at e0 t0; simp only [if_true] at e0 t0; rw [e0] at hk; subst hk; obtain ⟨n, hn⟩ : ∃ n, n = wlen (c :: t) := ⟨_, rfl⟩; have hnv : n = 1 + (t.takeWhile js).length := by rw [hn]; exact qY t h1
   have hll := congrArg List.length (List.takeWhile_append_dropWhile (p := js) (l := t)); rw [List.length_append] at hll; have hnl : n ≤ (S (c :: t)).size := by rw [jd, hnv]; simp; omega
   have hn1 : 1 ≤ n := by omega
   have i1 : (0 : Int) ≤ (n : Int) := by omega
   have i2 : (n : Int) ≤ ((S (c :: t)).size : Int) := by omega
   have HT : Hid (tokM (c :: t) = .ok ({ kind := 1, text := c :: t.takeWhile js, num := 0 }, t.dropWhile js)) := t0; have HN : Hid _ := hn; have HX2 : Hid ((S (c :: t)).extract 0 n = S (c :: t.takeWhile js)) := by
    unfold Hid; rw [jcH, hnv, Nat.add_comm, List.take_succ_cons, jjz]
   have HL : Hid ((c :: t).length - (t.dropWhile js).length = n) := by unfold Hid; rw [hnv]; simp; omega
   clear e0 t0 h1 hne hn hnv hll hs; go_enter Tryz.func93, Tryz.ntmps93; go_wp2_with fail; rw [← HW.out]; refine (jw (c :: t) _ HZ.out).mono ?_; rintro e u ⟨rfl, hu⟩; have hu' := hu.symm; subst hu'; rw [← HN.out]; go_wp2; exact bodyPost_ret (v := .tuple #[.agg #[.int .i64 1, .string ((S (c :: t)).extract 0 n), .int .i64 0], .int .i64 n, .int .i64 0]) (by simp [results, Tryz.results93, go_sem, k0, k1, k2]) rfl (by rw [HT.out]; exact ⟨by rw [HX2.out, HL.out]; rfl, by first | exact HE1.out | (repeat (first | exact HE1.out | refine Below.setCell ?_ (by simp) _))⟩)
 | false =>
   rw [h1] at e0 t0; simp only [Bool.false_eq_true, if_false] at e0 t0
   by_cases h2 : c = 58 ∧ (t.head?.map jz).getD false = true
   · rw [if_pos h2] at e0 t0; rw [e0] at hk; subst hk; obtain ⟨n, hn⟩ : ∃ n, n = wlen t := ⟨_, rfl⟩; have hnv : n = (t.takeWhile js).length := by
        rw [hn]; cases t with
        | nil => rfl
        | cons d v =>
          have hd : jz d = true := by simpa using h2.2
          rw [qY v hd, List.takeWhile_cons, if_pos (by unfold js; rw [hd]; rfl)]; simp; omega
     have hll := congrArg List.length (List.takeWhile_append_dropWhile (p := js) (l := t)); rw [List.length_append] at hll; have hnl : 1 + n ≤ (S (c :: t)).size := by rw [jd, hnv]; simp; omega
     have i1 : (1 : Int) ≤ 1 + (n : Int) := by omega
     have i2 : 1 + (n : Int) ≤ ((S (c :: t)).size : Int) := by omega
     have HT : Hid (tokM (c :: t) = .ok ({ kind := 2, text := t.takeWhile js, num := 0 }, t.dropWhile js)) := t0; have HN : Hid _ := hn; have HX2 : Hid ((S (c :: t)).extract 1 (1 + n) = S (t.takeWhile js)) := by
        unfold Hid; rw [Lib.extract_eq, jj]
        show S ((t.drop 0).take (1 + n - 1)) = _
        rw [Nat.add_sub_cancel_left, hnv]
        show S (t.take _) = _
        rw [jjz]
     have HL : Hid ((c :: t).length - (t.dropWhile js).length = 1 + n) := by unfold Hid; rw [hnv]; simp; omega
     have hn2 : n ≤ 2000 := by omega
     clear e0 t0 h1 h2 hne hn hnv hll hs; go_enter Tryz.func93, Tryz.ntmps93; go_wp2_with fail; rw [← HW.out, HX.out]; refine (jw t _ HZ2.out).mono ?_; rintro e u ⟨rfl, hu⟩; have hu' := hu.symm; subst hu'; rw [← HN.out]; go_wp2; exact bodyPost_ret (v := .tuple #[.agg #[.int .i64 2, .string ((S (c :: t)).extract 1 (1 + n)), .int .i64 0], .int .i64 (1 + (n : Int)), .int .i64 0]) (by simp [results, Tryz.results93, go_sem, k0, k1, k2]) rfl (by rw [HT.out]; exact ⟨by rw [HX2.out, HL.out]; rfl, by first | exact HE1.out | (repeat (first | exact HE1.out | refine Below.setCell ?_ (by simp) _))⟩)
   · rw [if_neg h2] at e0 t0; cases h3 : je c with
     | true =>
       rw [h3] at e0 t0; simp only [if_true] at e0 t0; rw [e0] at hk; subst hk; have HT : Hid _ := t0; have HS : Hid _ := hs; clear e0 t0 h1 h2 h3 hne hs f0 f1 f2 k0 k1 k2; go_enter Tryz.func93, Tryz.ntmps93; go_wp2_with fail; rw [← HW.out]; refine (jcz (c :: t) _ HS.out).mono ?_; intro e u htk; rw [← HT.out] at htk; have htk2 := jbh htk HE1.out; obtain ⟨x, n, y, rfl, hb⟩ := jgm htk; have hT := HT0.out.next hb; have f0 := hT.free 0; have f1 := hT.free 1; have f2 := hT.free 2; have k0 : u.cell? ⟨w.heap.size, 0, none⟩ = some (.int .i64 0) := hT.c0; have k1 : u.cell? ⟨w.heap.size, 1, none⟩ = some (.string ⟨#[]⟩) := hT.c1; have k2 : u.cell? ⟨w.heap.size, 2, none⟩ = some (.int .i64 0) := hT.c2; have HB : Hid (Below w.heap.size w u) := HE1.out.trans (hb.mono (by have := HWZ.out; omega)); have HK : Hid _ := htk2; clear htk htk2 hb hT; unfold tokV; go_wp2; exact bodyPost_ret (v := .tuple #[.agg #[.int .i64 x.kind, .string (S x.text), .int .i64 x.num], .int .i64 n, .int .i64 y]) (by simp [results, Tryz.results93, go_sem, k0, k1, k2]) rfl (jgn HK.out (by first | exact HB.out | (repeat (first | exact HB.out | refine Below.setCell ?_ (by simp) _))))
     | false =>
       rw [h3] at e0 t0; simp only [Bool.false_eq_true, if_false] at e0 t0
       by_cases h4 : c = 34
       · rw [if_pos h4] at e0 t0; rw [e0] at hk; subst hk; subst h4; have HT : Hid _ := t0; have HS : Hid _ := hsl; clear e0 t0 h1 h2 h3 hne hs hsl f0 f1 f2 k0 k1 k2; go_enter Tryz.func93, Tryz.ntmps93; go_wp2_with fail; rw [← HW.out]; refine (jcA t _ HS.out).mono ?_; intro e u htk; rw [← HT.out] at htk; have htk2 := jbh htk HE1.out; obtain ⟨x, n, y, rfl, hb⟩ := jgm htk; have hT := HT0.out.next hb; have f0 := hT.free 0; have f1 := hT.free 1; have f2 := hT.free 2; have k0 : u.cell? ⟨w.heap.size, 0, none⟩ = some (.int .i64 0) := hT.c0; have k1 : u.cell? ⟨w.heap.size, 1, none⟩ = some (.string ⟨#[]⟩) := hT.c1; have k2 : u.cell? ⟨w.heap.size, 2, none⟩ = some (.int .i64 0) := hT.c2; have HB : Hid (Below w.heap.size w u) := HE1.out.trans (hb.mono (by have := HWZ.out; omega)); have HK : Hid _ := htk2; clear htk htk2 hb hT; unfold tokV; go_wp2; exact bodyPost_ret (v := .tuple #[.agg #[.int .i64 x.kind, .string (S x.text), .int .i64 x.num], .int .i64 n, .int .i64 y]) (by simp [results, Tryz.results93, go_sem, k0, k1, k2]) rfl (jgn HK.out (by first | exact HB.out | (repeat (first | exact HB.out | refine Below.setCell ?_ (by simp) _))))
       · rw [if_neg h4] at e0 t0; cases h5 : ja4 c with
         | false => rw [h5] at e0; exact absurd e0 hne
         | true =>
           rw [h5] at e0 t0; simp only [if_true] at e0 t0; rw [e0] at hk; subst hk; have HT : Hid _ := t0; have HL : Hid ((c :: t).length - t.length = 1) := by unfold Hid; simp
           clear e0 t0 h1 h2 h3 h4 h5 hne hs; go_enter Tryz.func93, Tryz.ntmps93; go_wp2; exact bodyPost_ret (v := .tuple #[.agg #[.int .i64 5, .string ((S (c :: t)).extract 0 1), .int .i64 0], .int .i64 1, .int .i64 0]) (by simp [results, Tryz.results93, go_sem]) rfl (by rw [HT.out]; exact ⟨by rw [HY.out, HL.out]; rfl, nb0 _ _⟩)
def blanksS : ByteArray := ⟨#[32, 9, 13, 10]⟩
theorem jeK (c : UInt8) : decide (0 ≤ Lib.indexByte blanksS.data.toList ((c.toNat : Int)).toNat.toUInt8) = zk c := by
 rw [jaY]
 show decide (0 ≤ Lib.indexByte [32, 9, 13, 10] c) = zk c
 rw [← Lib.contains_iff_indexByte]; simp only [zk, List.contains_cons, List.contains_nil, Bool.or_false, Bool.or_assoc]
theorem jke (c : UInt8) (w : World) :
 Calls Tryz.prog 115 #[.int .u8 c.toNat] w fun e w' => e = .returned (.bool (zk c)) ∧ w' = w := by
 have HI : Hid _ := jeK c; go_enter Tryz.func115, Tryz.ntmps115; go_wp2_with fail; refine (indexByte_any blanksS (c.toNat : Int) _).mono ?_; rintro e u ⟨rfl, hu⟩; have hu' := hu.symm; subst hu'; go_wp2; go_ret; exact ⟨jb (by rw [← HI.out]; first | rfl | simp), rfl⟩
theorem jkf (c : UInt8) (w : World) :
 Calls Tryz.prog 118 #[.int .u8 c.toNat] w fun e w' => e = .returned (.bool (c != 10)) ∧ w' = w := by
 have HI : Hid ((c != 10) = !decide ((c.toNat : Int) = 10)) := by
  unfold Hid
  by_cases h : c = 10
  · subst h; rfl
  · have : ¬ (c.toNat : Int) = 10 := fun e => h (UInt8.toNat_inj.1 (by show c.toNat = 10; omega))
    simp [h, this]
 go_enter Tryz.func118, Tryz.ntmps118; go_wp2; go_ret; exact ⟨jb (by rw [HI.out]; first | rfl | simp), rfl⟩
theorem jj8 : ∀ args w, (callFunc 115 args).run Tryz.prog w = .ok (.enter 115 args) w := enters_of Tryz.func115 (by kernel_rfl) rfl
theorem jj9 : ∀ args w, (callFunc 118 args).run Tryz.prog w = .ok (.enter 118 args) w := enters_of Tryz.func118 (by kernel_rfl) rfl
theorem jdM (s : List UInt8) (w : World) (hs : s.length ≤ 2000) :
 Calls Tryz.prog 114 #[.string (S s), .func (.func 115) #[] #[]] w fun e w' => e = .returned (.int .i64 ((s.takeWhile zk).length : Nat)) ∧ w' = w := by
 have := jcd (S s) 115 jj8 zk w (by rw [jd]; unfold maxLen; omega) (fun c u => jke c u); rw [jj] at this; exact this
theorem jmK (s : List UInt8) (w : World) (hs : s.length ≤ 2000) :
 Calls Tryz.prog 114 #[.string (S s), .func (.func 118) #[] #[]] w fun e w' => e = .returned (.int .i64 ((s.takeWhile (· != 10)).length : Nat)) ∧ w' = w := by
 have := jcd (S s) 118 jj9 (· != 10) w (by rw [jd]; unfold maxLen; omega) (fun c u => jkf c u); rw [jj] at this; exact this
theorem ji9 (a : UInt8) (s : List UInt8) : Lib.hasPrefix s [a] = decide (s.head? = some a) := by
 unfold Lib.hasPrefix; cases s with
 | nil => rfl
 | cons x t =>
   show ([a].isPrefixOf (x :: t)) = _
   by_cases h : x = a
   · subst h; simp [List.isPrefixOf]
   · simp [List.isPrefixOf, h]; exact fun e => h e.symm
theorem jja (a b : UInt8) (s : List UInt8) : Lib.hasPrefix s [a, b] = true ↔ ∃ u, s = a :: b :: u := by
 unfold Lib.hasPrefix; rw [List.isPrefixOf_iff_prefix]
 constructor
 · rintro ⟨u, hu⟩; exact ⟨u, hu.symm⟩
 · rintro ⟨u, rfl⟩; exact ⟨u, rfl⟩
theorem jcP (p : UInt8 → Bool) (s : List UInt8) : (s.takeWhile p).length + (s.dropWhile p).length = s.length := by
 have := congrArg List.length (List.takeWhile_append_dropWhile (p := p) (l := s)); rw [List.length_append] at this; exact this
theorem jid (p : UInt8 → Bool) (s : List UInt8) : s.drop (s.takeWhile p).length = s.dropWhile p := by
 have := List.takeWhile_append_dropWhile (p := p) (l := s)
 conv => lhs; arg 2; rw [← this]
 rw [List.drop_left]
theorem jfH {r : List UInt8} (h1 : zk (r.headD 0) = false) (h2 : r.head? ≠ some 35) (h3 : ∀ u, r ≠ 47 :: 42 :: u) : silM r = (true, r) := by
 cases r with
 | nil => exact jaN
 | cons c t =>
   have h2' : c ≠ 35 := by simpa using h2
   by_cases h4 : c = 47
   · subst h4; refine ja8 ?_; cases t with
     | nil => rfl
     | cons d v =>
       show (if d = 42 then some v else none) = none
       rw [if_neg (fun e => h3 v (by rw [e]))]
   · exact jcc t h1 h2' h4
theorem jgM (s : List UInt8) : zk ((s.dropWhile zk).headD 0) = false := by
 induction s with
 | nil => decide
 | cons c t ih =>
   rw [List.dropWhile_cons]; cases h : zk c with
   | true => simpa using ih
   | false => simpa using h
def gapV (s : List UInt8) : Value := .tuple #[.int .i64 (s.length - (silM s).2.length : Nat), .int .i64 (if (silM s).1 then 0 else 4)]
theorem zC (s : List UInt8) (w : World) (hm : maxLenCell w) (hs : s.length ≤ 2000) :
 Calls Tryz.prog 91 #[.string (S s)] w fun e w' => e = .returned (gapV s) ∧ Below w.heap.size w w' := by
 have hz : (S s).size ≤ 2000 := by rw [jd]; exact hs
 have HS : Hid _ := hs; have HM : Hid _ := hm; clear hs hm; go_enter Tryz.func91, Tryz.ntmps91; go_wp2
 go_loopw [4] (fun i wr => ∃ k : Nat, k ≤ (S s).size ∧ i = .int .i64 k ∧ Hid (silM (s.drop k) = silM s) ∧ Hid (Below w.heap.size w wr)) (fun i _ => (S s).size - (intOf i).toNat)
 case atStart => exact ⟨0, Nat.zero_le _, rfl, rfl, Below.refl _ _⟩
 case round =>
  obtain ⟨k, hk, rfl, HQ, HB⟩ := hrel; obtain ⟨n, hn⟩ : ∃ n, n = ((s.drop k).takeWhile zk).length := ⟨_, rfl⟩; obtain ⟨r, hr⟩ : ∃ r, r = s.drop (k + n) := ⟨_, rfl⟩; have hks : k ≤ s.length := by rw [jd] at hk; exact hk
  have hr1 : r = (s.drop k).dropWhile zk := by rw [hr, ← List.drop_drop, hn, jid]
  have hnl := jcP zk (s.drop k); rw [← hn, ← hr1, List.length_drop] at hnl; have hrl : r.length ≤ 2000 := by have := HS.out; omega
  have hkn : k + n ≤ (S s).size := by rw [jd]; omega
  have hrz : (S r).size + (k + n) = (S s).size := by rw [jd, jd]; omega
  have hn2 : n ≤ 2000 := by omega
  have HN : Hid _ := hn; have HR : Hid _ := hr; have HQ2 : Hid (silM r = silM s) := by unfold Hid; rw [hr1, jfF]; exact HQ.out
  have HX1 : Hid ((S s).extract k (S s).size = S (s.drop k)) := zO s k; have HX2 : Hid ((S s).extract (k + n) (S s).size = S r) := by unfold Hid; rw [zO, hr]
  have HL1 : Hid ((s.drop k).length ≤ 2000) := by unfold Hid; rw [List.length_drop]; have := HS.out; omega
  have HL2 : Hid (r.length ≤ 2000) := hrl; have i1 : (0 : Int) ≤ (k : Int) := by omega
  have i2 : (k : Int) ≤ ((S s).size : Int) := by omega
  have i3 : (0 : Int) ≤ (k : Int) + (n : Int) := by omega
  have i4 : (k : Int) + (n : Int) ≤ ((S s).size : Int) := by omega
  have HC : Hid (zk (r.headD 0) = false) := by unfold Hid; rw [hr1]; exact jgM _
  have HRL : Hid (r.length + (k + n) = s.length) := by unfold Hid; omega
  have hmw := maxLenCell_below HM.out (HB.out); have HMW : Hid _ := hmw; clear hn hr hr1 hnl hrl hks hmw
  by_cases h35 : ∃ t, r = 35 :: t
  · obtain ⟨t, ht⟩ := h35; obtain ⟨m, hm⟩ : ∃ m, m = (r.takeWhile (· != 10)).length := ⟨_, rfl⟩; have HP : Hid (Lib.hasPrefix (S r).data.toList (⟨#[35]⟩ : ByteArray).data.toList = true) := by
        unfold Hid; rw [jj]; show Lib.hasPrefix r [35] = true; rw [ji9, ht]; rfl
    have hm1 : 1 ≤ m := by rw [hm, ht]; show 1 ≤ ((35 :: t).takeWhile _).length; rw [List.takeWhile_cons, if_pos (by decide)]; simp
    have hml := jcP (· != 10) r; rw [← hm] at hml; have hm2 : m ≤ 2000 := by have := HL2.out; omega
    have hm3 : k + n + m ≤ (S s).size := by rw [jd]; have := HRL.out; omega
    have HMM : Hid _ := hm; have HN2 : Hid (silM (s.drop (k + n + m)) = silM s) := by
        unfold Hid; rw [← List.drop_drop, ← HR.out, hm, jid, ← HQ2.out]
        conv => rhs; rw [ht, jca]
        rw [ht, List.dropWhile_cons, if_pos (by decide)]; rfl
    clear ht hm hml; go_wp2_with fail; rw [HX1.out]; refine (jdM (s.drop k) _ HL1.out).mono ?_; rintro e u ⟨rfl, hu⟩; have hu' := hu.symm; subst hu'; rw [← HN.out]; go_wp2_with fail; rw [HX2.out]; refine (hasPrefix_any (S r) ⟨#[35]⟩ _).mono ?_; rintro e u ⟨rfl, hu⟩; have hu' := hu.symm; subst hu'; rw [HP.out]; go_wp2_with fail; refine (jmK r _ HL2.out).mono ?_; rintro e u ⟨rfl, hu⟩; have hu' := hu.symm; subst hu'; rw [← HMM.out]; go_wp2
    go_roundw
    case rel => exact ⟨k + n + m, hm3, by go_num, HN2, HB⟩
    case measure => simp [intOf]; omega
  · have HP : Hid (Lib.hasPrefix (S r).data.toList (⟨#[35]⟩ : ByteArray).data.toList = false) := by
        unfold Hid; rw [jj]; show Lib.hasPrefix r [35] = false; rw [ji9, decide_eq_false_iff_not]
        intro e; cases hr : r with
        | nil => rw [hr] at e; cases e
        | cons a t => rw [hr] at e; exact h35 ⟨t, by rw [hr]; simp at e; rw [e]⟩
    by_cases h47 : ∃ u, r = 47 :: 42 :: u
    · obtain ⟨v, hv⟩ := h47; have HP2 : Hid (Lib.hasPrefix (S r).data.toList (⟨#[47, 42]⟩ : ByteArray).data.toList = true) := by
       unfold Hid; rw [jj]; exact (jja 47 42 r).2 ⟨v, hv⟩
      have HX3 : Hid ((S r).extract 2 (S r).size = S v) := by unfold Hid; rw [zO, hv]; rfl
      have hvl : v.length + 2 = r.length := by rw [hv]; simp
      have HV : Hid ((S v).size < 4294967281) := by unfold Hid; rw [jd]; have := HL2.out; omega
      have hr2 : (2 : Int) ≤ ((S r).size : Int) := by rw [jd]; omega
      have hrz2 : (S r).size ≤ 2000 := by omega
      cases hc : zB v with
      | none =>
        have HK : Hid (Lib.cut (S v).data.toList (⟨#[42, 47]⟩ : ByteArray).data.toList = (v, [], false)) := by unfold Hid; rw [jj]; exact jj2 hc
        have HF : Hid (gapV s = .tuple #[.int .i64 ((k : Int) + (n : Int)), .int .i64 4]) := by
            unfold Hid gapV; have e1 : silM s = (false, r) := by rw [← HQ2.out, hv]; exact jcb hc
            have e2 : ((s.length - r.length : Nat) : Int) = (k : Int) + (n : Int) := by have := HRL.out; omega
            rw [e1]; simp only [e2]; rfl
        clear hc hv hvl h35; go_wp2_with fail; rw [HX1.out]; refine (jdM (s.drop k) _ HL1.out).mono ?_; rintro e u ⟨rfl, hu⟩; have hu' := hu.symm; subst hu'; rw [← HN.out]; go_wp2_with fail; rw [HX2.out]; refine (hasPrefix_any (S r) ⟨#[35]⟩ _).mono ?_; rintro e u ⟨rfl, hu⟩; have hu' := hu.symm; subst hu'; rw [HP.out]; go_wp2_with fail; refine (hasPrefix_any (S r) ⟨#[47, 42]⟩ _).mono ?_; rintro e u ⟨rfl, hu⟩; have hu' := hu.symm; subst hu'; rw [HP2.out]; go_wp2_with fail; rw [HX3.out]; refine (cutS_any (S v) ⟨#[42, 47]⟩ _ HV.out HMW.out).mono ?_; rintro e u ⟨rfl, q, rfl⟩; rw [HK.out]; go_wp2; go_ret2; exact ⟨by rw [HF.out]; rfl, qa HB.out q⟩
      | some r2 =>
        obtain ⟨a, hca, hlen, hdr⟩ := jl5 hc; have HK : Hid (Lib.cut (S v).data.toList (⟨#[42, 47]⟩ : ByteArray).data.toList = (a, r2, true)) := by unfold Hid; rw [jj]; exact hca
        have haz : (S a).size = a.length := jd a; have HAZ : Hid (((⟨a.toArray⟩ : ByteArray)).size = a.length) := haz; have hal : a.length ≤ 2000 := by have := HL2.out; omega
        have ha3 : k + n + (2 + a.length + 2) ≤ (S s).size := by rw [jd]; have := HRL.out; omega
        have HN2 : Hid (silM (s.drop (k + n + (2 + a.length + 2))) = silM s) := by
            unfold Hid; rw [← List.drop_drop, ← HR.out, ← HQ2.out]
            conv => rhs; rw [hv, jdJ hc]
            rw [hv, hdr]; have e : 2 + a.length + 2 = (a.length + 2) + 1 + 1 := by omega
            rw [e]; rfl
        clear hc hv hvl hca hlen hdr haz h35; go_wp2_with fail; rw [HX1.out]; refine (jdM (s.drop k) _ HL1.out).mono ?_; rintro e u ⟨rfl, hu⟩; have hu' := hu.symm; subst hu'; rw [← HN.out]; go_wp2_with fail; rw [HX2.out]; refine (hasPrefix_any (S r) ⟨#[35]⟩ _).mono ?_; rintro e u ⟨rfl, hu⟩; have hu' := hu.symm; subst hu'; rw [HP.out]; go_wp2_with fail; refine (hasPrefix_any (S r) ⟨#[47, 42]⟩ _).mono ?_; rintro e u ⟨rfl, hu⟩; have hu' := hu.symm; subst hu'; rw [HP2.out]; go_wp2_with fail; rw [HX3.out]; refine (cutS_any (S v) ⟨#[42, 47]⟩ _ HV.out HMW.out).mono ?_; rintro e u ⟨rfl, q, rfl⟩; rw [HK.out]; obtain ⟨A, hA⟩ : ∃ A, A = (⟨a.toArray⟩ : ByteArray) := ⟨_, rfl⟩; simp only; rw [← hA]; have hAz : A.size = a.length := by rw [hA]; exact HAZ.out
        have HA : Hid _ := hA; clear hA; go_wp2
        go_roundw
        case rel => exact ⟨k + n + (2 + a.length + 2), ha3, by go_num, HN2, qa HB.out q⟩
        case measure => simp [intOf]; omega
    · have HP2 : Hid (Lib.hasPrefix (S r).data.toList (⟨#[47, 42]⟩ : ByteArray).data.toList = false) := by
       unfold Hid; rw [jj]; cases e : Lib.hasPrefix r [47, 42] with
       | false => rfl
       | true => exact absurd ((jja 47 42 r).1 e) h47
      have HF : Hid (gapV s = .tuple #[.int .i64 ((k : Int) + (n : Int)), .int .i64 0]) := by
       unfold Hid gapV; have e1 : silM s = (true, r) := by
            rw [← HQ2.out]; refine jfH HC.out ?_ (fun u e => h47 ⟨u, e⟩); intro e; cases hr : r with
            | nil => rw [hr] at e; cases e
            | cons a t => rw [hr] at e; exact h35 ⟨t, by rw [hr]; simp at e; rw [e]⟩
       have e2 : ((s.length - r.length : Nat) : Int) = (k : Int) + (n : Int) := by have := HRL.out; omega
       rw [e1]; simp only [e2]; rfl
      clear h35 h47; go_wp2_with fail; rw [HX1.out]; refine (jdM (s.drop k) _ HL1.out).mono ?_; rintro e u ⟨rfl, hu⟩; have hu' := hu.symm; subst hu'; rw [← HN.out]; go_wp2_with fail; rw [HX2.out]; refine (hasPrefix_any (S r) ⟨#[35]⟩ _).mono ?_; rintro e u ⟨rfl, hu⟩; have hu' := hu.symm; subst hu'; rw [HP.out]; go_wp2_with fail; refine (hasPrefix_any (S r) ⟨#[47, 42]⟩ _).mono ?_; rintro e u ⟨rfl, hu⟩; have hu' := hu.symm; subst hu'; rw [HP2.out]; go_wp2; go_ret2; exact ⟨by rw [HF.out]; rfl, HB.out⟩
theorem jdl {s r : List UInt8} (h : zB s = some r) : r <:+ s := by
 induction s with
 | nil => cases h
 | cons a t ih =>
   cases t with
   | nil => cases h
   | cons b t =>
     unfold zB at h; split at h
     · cases h; exact ⟨[a, b], rfl⟩
     · exact (ih h).trans (List.suffix_cons _ _)
theorem jfG : ∀ (n : Nat) (s : List UInt8), s.length ≤ n → (silM s).2 <:+ s := by
 intro n
 induction n with
 | zero => intro s hs; cases s with
   | nil => rw [jaN]; exact List.suffix_refl _
   | cons c t => simp at hs
 | succ n ih =>
   intro s hs; cases s with
   | nil => rw [jaN]; exact List.suffix_refl _
   | cons c t =>
     simp only [List.length_cons] at hs; cases h1 : zk c with
     | true => rw [ja9 t h1]; exact (ih t (by omega)).trans (List.suffix_cons _ _)
     | false =>
       by_cases h2 : c = 35
       · subst h2; rw [jca]; have h3 := qV t; exact ((ih (qU t) (by omega)).trans (List.dropWhile_suffix _)).trans (List.suffix_cons _ _)
       · by_cases h3 : c = 47
         · subst h3; cases h4 : jaP t with
           | some u =>
             have h4' := jab h4; subst h4'; cases h5 : zB u with
             | none => rw [jcb h5]; exact List.suffix_refl _
             | some r =>
               rw [jdJ h5]; have := vS h5; simp only [List.length_cons] at hs; exact (((ih r (by omega)).trans (jdl h5)).trans (List.suffix_cons _ _)).trans (List.suffix_cons _ _)
           | none => rw [ja8 h4]; exact List.suffix_refl _
         · rw [jcc t h1 h2 h3]; exact List.suffix_refl _
theorem jdO (s : List UInt8) : (zi s).2 <:+ s := by
 unfold zi; split
 · exact List.suffix_refl _
 · split
   · exact List.suffix_cons _ _
   · split
     · exact List.suffix_cons _ _
     · exact List.suffix_refl _
theorem jfJ {b : Bool} {s : List UInt8} {x : List UInt8 × List UInt8} (h : strM b s = some x) : x.2 <:+ s := by
 induction s generalizing b x with
 | nil => cases b <;> cases h
 | cons c t ih =>
   cases b with
   | true =>
     unfold strM at h; rw [Option.map_eq_some_iff] at h; obtain ⟨y, hy, rfl⟩ := h; exact (ih hy).trans (List.suffix_cons _ _)
   | false =>
     unfold strM at h; split at h
     · cases h; exact List.suffix_cons _ _
     · split at h
       · exact (ih h).trans (List.suffix_cons _ _)
       · rw [Option.map_eq_some_iff] at h; obtain ⟨y, hy, rfl⟩ := h; exact (ih hy).trans (List.suffix_cons _ _)
theorem jfN {s : List UInt8} {x : Tok × List UInt8} (h : tokM s = .ok x) : x.2 <:+ s := by
 cases s with
 | nil => cases h
 | cons c t =>
   simp only [tokM] at h; split at h
   · cases h; exact (List.dropWhile_suffix _).trans (List.suffix_cons _ _)
   · split at h
     · cases h; exact (List.dropWhile_suffix _).trans (List.suffix_cons _ _)
     · split at h
       · unfold numM at h; simp only at h; split at h
         · cases h
         · split at h
           · cases h
           · cases h; exact (jdO _).trans (List.dropWhile_suffix _)
       · split at h
         · split at h
           · cases h
           · rename_i x hx; cases h; exact (jfJ hx).trans (List.suffix_cons _ _)
         · split at h
           · cases h; exact List.suffix_cons _ _
           · cases h
theorem jlf {s : List UInt8} {e : Int} (h : tokM s = .error e) : e = 3 ∨ e = 4 ∨ e = 6 := by
 cases s with
 | nil => cases h; exact Or.inl rfl
 | cons c t =>
   simp only [tokM] at h; split at h
   · cases h
   · split at h
     · cases h
     · split at h
       · unfold numM at h; simp only at h; split at h
         · cases h; exact Or.inl rfl
         · split at h
           · cases h; exact Or.inr (Or.inr rfl)
           · cases h
       · split at h
         · split at h
           · cases h; exact Or.inr (Or.inl rfl)
           · cases h
         · split at h
           · cases h
           · cases h; exact Or.inl rfl
theorem jcg {r s : List UInt8} (h : r <:+ s) : s.drop (s.length - r.length) = r := (List.suffix_iff_eq_drop.1 h).symm
def Ct (w : World) (r : List Tok × Int × Int) (e : Ending) (w' : World) : Prop :=
 ∃ a c, e = .returned (.tuple #[.slice a r.1.length c, .int .i64 r.2.1, .int .i64 r.2.2]) ∧ ToksAt w' a r.1 ∧ Below w.heap.size w w'
theorem jd5 {w w' : World} {r : List Tok × Int × Int} {p x : Int} (hr : r = ([], p, x)) (hb : Below w.heap.size w w') : Ct w r (.returned (.tuple #[.slice none 0 0, .int .i64 p, .int .i64 x])) w' := by
 subst hr; exact ⟨none, 0, rfl, jlg _ _, hb⟩
theorem jk9 (s : List UInt8) (w : World) (hm : maxLenCell w) :
 Calls Tryz.prog 65 #[.string (S s)] w (Ct w (cutM s)) := by
 obtain ⟨i0, hi, hz0, hz1, hz2⟩ := info_parts jiB
 by_cases hl : 2000 < s.length
 · have hq : (2000 : Int) < ((S s).size : Int) := by rw [jd]; omega
   have HR : Hid (cutM s = ([], 0, 1)) := by unfold Hid cutM; rw [if_pos hl]
   clear hl hm; go_enter Tryz.func65, Tryz.ntmps65; go_wp2
   go_ret3
   exact jd5 HR.out (Below.refl _ _)
 have hsz : (S s).size ≤ 2000 := by rw [jd]; omega
 have hq : ¬ (2000 : Int) < ((S s).size : Int) := by omega
 have HR : Hid (cutM s = match cutP 0 s with | .ok l => (l, 0, 0) | .error (n, e) => ([], ((s.length - n : Nat) : Int), e)) := by unfold Hid cutM; rw [if_neg hl]; rfl
 have HS : Hid (s.length ≤ 2000) := by unfold Hid; omega
 have HM : Hid _ := hm; clear hl hm; go_enter Tryz.func65, Tryz.ntmps65; go_wp2
 go_loopw [5, 6] (fun v i wr => ∃ (done : List Tok) (k : Nat) (a0 : Option Addr) (c0 : Nat), v = .slice a0 done.length c0 ∧ i = .int .i64 k ∧ k ≤ (S s).size ∧ done.length ≤ 400 ∧ Hid (OwnT wr w.heap.size (.slice a0 done.length c0) done) ∧
  Hid (cutP 0 s = match cutP done.length (s.drop k) with | .error e => .error e | .ok l => .ok (done ++ l)) ∧ Hid (Below w.heap.size w wr)) (fun _ i _ => (S s).size - (intOf i).toNat)
 case atStart => exact ⟨[], 0, none, 0, rfl, rfl, Nat.zero_le _, by simp, World.ownsRow_nil _ _ _ _, by unfold Hid; show cutP 0 s = match cutP 0 s with | .error e => .error e | .ok l => .ok ([] ++ l); cases cutP 0 s <;> rfl, Below.refl _ _⟩
 case round =>
  obtain ⟨done, k, a0, c0, rfl, rfl, hk, hd4, HO, HQ, HB⟩ := hrel; obtain ⟨x, hx⟩ : ∃ x, x = s.drop k := ⟨_, rfl⟩; have hxl : x.length = s.length - k := by rw [hx, List.length_drop]
  obtain ⟨g, hg⟩ : ∃ g, g = (silM x).2 := ⟨_, rfl⟩; have hsuf : g <:+ x := by rw [hg]; exact jfG _ x (Nat.le_refl _)
  have hgl := hsuf.length_le; obtain ⟨n, hn⟩ : ∃ n, n = x.length - g.length := ⟨_, rfl⟩; have hkS : k ≤ s.length := by rw [jd] at hk; exact hk
  have hgd : s.drop (k + n) = g := by rw [← List.drop_drop, ← hx, hn]; exact jcg hsuf
  have hkn : k + n + g.length = s.length := by omega
  have hkz : k + n + (S g).size = (S s).size := by rw [jd, jd]; exact hkn
  have HX1 : Hid ((S s).extract k (S s).size = S x) := by unfold Hid; rw [zO, hx]
  have HX2 : Hid ((S s).extract (k + n) (S s).size = S g) := by unfold Hid; rw [zO, hgd]
  have HL1 : Hid (x.length ≤ 2000) := by unfold Hid; have := HS.out; omega
  have HL2 : Hid (g.length ≤ 2000) := by unfold Hid; have := HS.out; omega
  have HQ2 : Hid (cutP 0 s = match cutP done.length x with | .error e => .error e | .ok l => .ok (done ++ l)) := by unfold Hid; rw [hx]; exact HQ.out
  have HC : Hid _ := jl2 done.length x; have hn2 : n ≤ 2000 := by have := HS.out; omega
  have i1 : (0 : Int) ≤ (k : Int) := by omega
  have i2 : (k : Int) ≤ ((S s).size : Int) := by omega
  have i3 : (0 : Int) ≤ (k : Int) + (n : Int) := by omega
  have i4 : (k : Int) + (n : Int) ≤ ((S s).size : Int) := by omega
  have hmw := maxLenCell_below HM.out HB.out; have HMW : Hid _ := hmw; have HKN : Hid (((s.length - g.length : Nat) : Int) = (k : Int) + (n : Int)) := by unfold Hid; omega
  have HGD : Hid _ := hgd; have HKL : Hid _ := hkn; cases hb : (silM x).1 with
  | false =>
    have HV : Hid (gapV x = .tuple #[.int .i64 n, .int .i64 4]) := by
        unfold Hid gapV; rw [hb, ← hg, ← hn]; rfl
    have HF : Hid (cutM s = ([], (k : Int) + (n : Int), 4)) := by
        unfold Hid; rw [HR.out, HQ2.out, HC.out, if_pos hb, ← hg]; simp only [HKN.out]
    clear hx hxl hg hsuf hgl hn hkS hgd hkn hmw hb; go_wp2_with fail; rw [HX1.out]; refine (zC x _ HMW.out HL1.out).mono ?_; rintro e u ⟨rfl, hb1⟩; rw [HV.out]; go_wp2
    go_ret3
    exact jd5 HF.out (HB.out.trans (hb1.mono HB.out.size))
  | true =>
    have HV : Hid (gapV x = .tuple #[.int .i64 n, .int .i64 0]) := by
        unfold Hid gapV; rw [hb, ← hg, ← hn]; rfl
    have HC2 : Hid (cutP done.length x = if g = [] then .ok [] else if done.length = 400 then .error (g.length, if begM g then 5 else 3) else match tokM g with | .error e => .error (g.length, e) | .ok y => (match cutP (done.length + 1) y.2 with | .error e => .error e | .ok l => .ok (y.1 :: l))) := by
        unfold Hid; rw [HC.out, if_neg (by rw [hb]; simp), ← hg]; rfl
    clear HC hx hxl hg hsuf hgl hn hkS hgd hkn hmw hb; cases g with
    | nil =>
      have hke : (k : Int) + (n : Int) = ((S s).size : Int) := by rw [jd] at hkz; simp at hkz; omega
      have HF : Hid (cutM s = (done, 0, 0)) := by
       unfold Hid; rw [HR.out, HQ2.out, HC2.out, if_pos rfl]
       simp
      go_wp2_with fail; rw [HX1.out]; refine (zC x _ HMW.out HL1.out).mono ?_; rintro e u ⟨rfl, hb1⟩; rw [HV.out]; go_wp2
      go_ret3
      rw [HF.out]; exact ⟨a0, c0, rfl, OwnT.at (j2 HO.out hb1), HB.out.trans (hb1.mono HB.out.size)⟩
    | cons c t =>
      have hgz := jeV c t; have hke : ¬ (k : Int) + (n : Int) = ((S s).size : Int) := by omega
      have HC3 : Hid (cutP done.length x = if done.length = 400 then .error ((c :: t).length, if begM (c :: t) then 5 else 3) else match tokM (c :: t) with | .error e => .error ((c :: t).length, e) | .ok y => (match cutP (done.length + 1) y.2 with | .error e => .error e | .ok l => .ok (y.1 :: l))) := by
       unfold Hid; rw [HC2.out, if_neg (by simp)]
      clear HC2; obtain ⟨kd, hkd⟩ : ∃ kd, kd = vI (c :: t) := ⟨_, rfl⟩; have HKD : Hid _ := hkd
      by_cases hk0 : kd = 0
      · have HF : Hid (cutM s = ([], (k : Int) + (n : Int), 3)) := by
            unfold Hid; have hbeg : begM (c :: t) = false := (jeh _).1 (by rw [← hkd]; exact hk0); rw [HR.out, HQ2.out, HC3.out, hbeg, jle hbeg]
            by_cases h4 : done.length = 400
            · rw [if_pos h4]; simp only [HKN.out]; rfl
            · rw [if_neg h4]; simp only [HKN.out]
        clear hkd; go_wp2_with fail; rw [HX1.out]; refine (zC x _ HMW.out HL1.out).mono ?_; rintro e u ⟨rfl, hb1⟩; rw [HV.out]; go_wp2_with fail; rw [HX2.out]; refine (qj c t _ HL2.out).mono ?_; rintro e u2 ⟨rfl, hb2⟩; rw [← HKD.out]; go_wp2
        go_ret3
        exact jd5 HF.out ((HB.out.trans (hb1.mono HB.out.size)).trans (hb2.mono (HB.out.trans (hb1.mono HB.out.size)).size))
      · have HNE : Hid (vI (c :: t) ≠ 0) := by unfold Hid; rw [← hkd]; exact hk0
        have hbeg : begM (c :: t) = true := by
            cases e : begM (c :: t) with
            | true => rfl
            | false => exact absurd ((jeh _).2 e) HNE.out
        by_cases h4 : done.length = 400
        · have HF : Hid (cutM s = ([], (k : Int) + (n : Int), 5)) := by
           unfold Hid; rw [HR.out, HQ2.out, HC3.out, hbeg, if_pos h4]; simp only [HKN.out]; rfl
          have h4' : (done.length : Int) = 400 := by omega
          clear hkd hbeg; go_wp2_with fail; rw [HX1.out]; refine (zC x _ HMW.out HL1.out).mono ?_; rintro e u ⟨rfl, hb1⟩; rw [HV.out]; go_wp2_with fail; rw [HX2.out]; refine (qj c t _ HL2.out).mono ?_; rintro e u2 ⟨rfl, hb2⟩; rw [← HKD.out]; go_wp2
          go_ret3
          exact jd5 HF.out ((HB.out.trans (hb1.mono HB.out.size)).trans (hb2.mono (HB.out.trans (hb1.mono HB.out.size)).size))
        · have h4' : ¬ (done.length : Int) = 400 := by omega
          have HC4 : Hid (cutP done.length x = match tokM (c :: t) with | .error e => .error ((c :: t).length, e) | .ok y => (match cutP (done.length + 1) y.2 with | .error e => .error e | .ok l => .ok (y.1 :: l))) := by
           unfold Hid; rw [HC3.out, if_neg h4]
          clear hkd hbeg HC3; go_wp2_with fail; rw [HX1.out]; refine (zC x _ HMW.out HL1.out).mono ?_; rintro e u ⟨rfl, hb1⟩; rw [HV.out]; have HB1 : Hid (Below w.heap.size w u) := HB.out.trans (hb1.mono HB.out.size); have HO1 : Hid (OwnT u w.heap.size (.slice a0 done.length c0) done) := j2 HO.out hb1; clear hb1; go_wp2_with fail; rw [HX2.out]; refine (qj c t _ HL2.out).mono ?_; rintro e u2 ⟨rfl, hb2⟩; rw [← HKD.out]; have HB2 : Hid (Below w.heap.size w u2) := HB1.out.trans (hb2.mono HB1.out.size); have HO2 : Hid (OwnT u2 w.heap.size (.slice a0 done.length c0) done) := j2 HO1.out hb2; clear hb2; go_wp2_with fail; rw [HX2.out]; refine (jdE c t kd _ HL2.out HKD.out HNE.out).mono ?_; cases ht : tokM (c :: t) with
          | error er =>
            have her := jlf ht; have her0 : ¬ er = 0 := by omega
            have HF : Hid (cutM s = ([], (k : Int) + (n : Int), er)) := by
             unfold Hid; rw [HR.out, HQ2.out, HC4.out, ht]; simp only [HKN.out]
            clear ht her; rintro e u3 ⟨rfl, hb3⟩; have HB3 : Hid (Below w.heap.size w u3) := HB2.out.trans (hb3.mono HB2.out.size); clear hb3; unfold tokV; go_wp2
            go_ret3
            exact jd5 HF.out (HB3.out.alloc HB3.out.size _)
          | ok y =>
            obtain ⟨tk, rest⟩ := y; have hsf := jfN ht; have hlt := jdP ht; simp only at hsf hlt; obtain ⟨m, hm⟩ : ∃ m, m = (c :: t).length - rest.length := ⟨_, rfl⟩; have hm0 : 1 ≤ m := by omega
            have hm2 : m ≤ (c :: t).length := by omega
            have hm3 : k + n + m ≤ (S s).size := by rw [jd]; have := HKL.out; omega
            have hm4 : m ≤ 2000 := by have := HL2.out; omega
            have HMM : Hid _ := hm; have HQ3 : Hid (cutP 0 s = match cutP (done ++ [tk]).length (s.drop (k + n + m)) with | .error e => .error e | .ok l => .ok ((done ++ [tk]) ++ l)) := by
             unfold Hid; have e1 : s.drop (k + n + m) = rest := by rw [← List.drop_drop, HGD.out, hm]; exact jcg hsf
             have e2 : (done ++ [tk]).length = done.length + 1 := by simp
             rw [HQ2.out, HC4.out, ht, e1, e2]; simp only; cases cutP (done.length + 1) rest with
             | error e => rfl
             | ok l => simp
            clear ht hsf hlt hm; rintro e u3 ⟨rfl, hb3⟩; rw [← HMM.out]; have HB3 : Hid (Below w.heap.size w u3) := HB2.out.trans (hb3.mono HB2.out.size); have HO3 : Hid (u3.ownsRow w.heap.size 164 3 (.slice a0 done.length c0) done.length (qv done)) := j2 HO2.out hb3; have hz3 := HB3.out.size; clear hb3; unfold tokV
            go_wp2_with (at_builtin; refine wpList_append_own _ rfl _ _ 129 rfl w.heap.size 164 i0 _ 3 32 Tryz.underlying129 hi hz0 hz1 hz2 rfl (by decide) (.slice a0 done.length c0) done.length (qv done) rfl (World.ownsRow.alloc (World.ownsRow.alloc HO3.out _) _) ⟨u3.heap.size + 1, 0, none⟩ 1 1 [.int .i64 tk.kind, .string (S tk.text), .int .i64 tk.num] rfl rfl (jjE _ _ (by simp) _ _ _ _) ?c2 ?c3 ?c4 ?c5 ?_)
            case c2 => intro u hu; simp at hu; rcases hu with rfl | rfl | rfl <;> rfl
            case c3 => unfold maxLen; omega
            case c4 => omega
            case c5 => simp; omega
            intro v' w4 hown' hgrow _; have hB4 : Below w.heap.size w w4 := ((HB3.out.alloc hz3 _).alloc (by simp; omega) _).grown hgrow (by simp; omega) (fun j hj => (World.ownsRow.lt HO3.out j hj).1); have hO4 : OwnT w4 w.heap.size v' (done ++ [tk]) := by unfold OwnT; rw [jbR, List.length_append]; exact hown'
            obtain ⟨a2, c2, hv2⟩ := hO4.any; subst hv2; have HO4 : Hid (OwnT w4 w.heap.size (.slice a2 (done ++ [tk]).length c2) (done ++ [tk])) := hO4; have HB4 : Hid (Below w.heap.size w w4) := hB4; clear hO4 hown' hgrow hB4; go_wp2
            go_roundw
            case rel => exact ⟨done ++ [tk], k + n + m, a2, c2, by first | rfl | simp, by go_num, hm3, by simp; omega, HO4, HQ3, HB4⟩
            case measure => simp [intOf]; omega
theorem bx3 {w : World} {b : Nat} {t : TypeId} {v0 v1 v2 : Value} (h : w.heap[b]? = some (.cells #[v0, v1, v2] t)) : w.cell? ⟨b, 0, none⟩ = some v0 ∧ w.cell? ⟨b, 1, none⟩ = some v1 ∧ w.cell? ⟨b, 2, none⟩ = some v2 := by
 refine ⟨?_, ?_, ?_⟩ <;> simp [World.cell?, h]
theorem bx5 {w : World} {b : Nat} {t : TypeId} {v0 v1 v2 v3 v4 : Value} (h : w.heap[b]? = some (.cells #[v0, v1, v2, v3, v4] t)) : w.cell? ⟨b, 0, none⟩ = some v0 ∧ w.cell? ⟨b, 1, none⟩ = some v1 ∧ w.cell? ⟨b, 2, none⟩ = some v2 ∧ w.cell? ⟨b, 3, none⟩ = some v3 ∧ w.cell? ⟨b, 4, none⟩ = some v4 := by
 refine ⟨?_, ?_, ?_, ?_, ?_⟩ <;> simp [World.cell?, h]
theorem bx6 {w : World} {b : Nat} {t : TypeId} {v0 v1 v2 v3 v4 v5 : Value} (h : w.heap[b]? = some (.cells #[v0, v1, v2, v3, v4, v5] t)) : w.cell? ⟨b, 0, none⟩ = some v0 ∧ w.cell? ⟨b, 1, none⟩ = some v1 ∧ w.cell? ⟨b, 2, none⟩ = some v2 ∧ w.cell? ⟨b, 3, none⟩ = some v3 ∧ w.cell? ⟨b, 4, none⟩ = some v4 ∧ w.cell? ⟨b, 5, none⟩ = some v5 := by
 refine ⟨?_, ?_, ?_, ?_, ?_, ?_⟩ <;> simp [World.cell?, h]
theorem bx8 {w : World} {b : Nat} {t : TypeId} {v0 v1 v2 v3 v4 v5 v6 v7 : Value} (h : w.heap[b]? = some (.cells #[v0, v1, v2, v3, v4, v5, v6, v7] t)) : w.cell? ⟨b, 0, none⟩ = some v0 ∧ w.cell? ⟨b, 1, none⟩ = some v1 ∧ w.cell? ⟨b, 2, none⟩ = some v2 ∧ w.cell? ⟨b, 3, none⟩ = some v3 ∧ w.cell? ⟨b, 4, none⟩ = some v4 ∧ w.cell? ⟨b, 5, none⟩ = some v5 ∧ w.cell? ⟨b, 6, none⟩ = some v6 ∧ w.cell? ⟨b, 7, none⟩ = some v7 := by
 refine ⟨?_, ?_, ?_, ?_, ?_, ?_, ?_, ?_⟩ <;> simp [World.cell?, h]
theorem bx12 {w : World} {b : Nat} {t : TypeId} {v0 v1 v2 v3 v4 v5 v6 v7 v8 v9 v10 v11 : Value} (h : w.heap[b]? = some (.cells #[v0, v1, v2, v3, v4, v5, v6, v7, v8, v9, v10, v11] t)) : w.cell? ⟨b, 0, none⟩ = some v0 ∧ w.cell? ⟨b, 1, none⟩ = some v1 ∧ w.cell? ⟨b, 2, none⟩ = some v2 ∧ w.cell? ⟨b, 3, none⟩ = some v3 ∧ w.cell? ⟨b, 4, none⟩ = some v4 ∧ w.cell? ⟨b, 5, none⟩ = some v5 ∧ w.cell? ⟨b, 6, none⟩ = some v6 ∧ w.cell? ⟨b, 7, none⟩ = some v7 ∧ w.cell? ⟨b, 8, none⟩ = some v8 ∧ w.cell? ⟨b, 9, none⟩ = some v9 ∧ w.cell? ⟨b, 10, none⟩ = some v10 ∧ w.cell? ⟨b, 11, none⟩ = some v11 := by
 refine ⟨?_, ?_, ?_, ?_, ?_, ?_, ?_, ?_, ?_, ?_, ?_, ?_⟩ <;> simp [World.cell?, h]
theorem bz8 {w : World} {b : Nat} {t : TypeId} {c : Array Value} (h : w.heap[b]? = some (.cells c t)) : w.frozen? ⟨b, 0, none⟩ = false ∧ w.frozen? ⟨b, 1, none⟩ = false ∧ w.frozen? ⟨b, 2, none⟩ = false ∧ w.frozen? ⟨b, 3, none⟩ = false ∧ w.frozen? ⟨b, 4, none⟩ = false ∧ w.frozen? ⟨b, 5, none⟩ = false ∧ w.frozen? ⟨b, 6, none⟩ = false ∧ w.frozen? ⟨b, 7, none⟩ = false := by
 refine ⟨?_, ?_, ?_, ?_, ?_, ?_, ?_, ?_⟩ <;> simp [World.frozen?, h]
theorem bz12 {w : World} {b : Nat} {t : TypeId} {c : Array Value} (h : w.heap[b]? = some (.cells c t)) : w.frozen? ⟨b, 0, none⟩ = false ∧ w.frozen? ⟨b, 1, none⟩ = false ∧ w.frozen? ⟨b, 2, none⟩ = false ∧ w.frozen? ⟨b, 3, none⟩ = false ∧ w.frozen? ⟨b, 4, none⟩ = false ∧ w.frozen? ⟨b, 5, none⟩ = false ∧ w.frozen? ⟨b, 6, none⟩ = false ∧ w.frozen? ⟨b, 7, none⟩ = false ∧ w.frozen? ⟨b, 8, none⟩ = false ∧ w.frozen? ⟨b, 9, none⟩ = false ∧ w.frozen? ⟨b, 10, none⟩ = false ∧ w.frozen? ⟨b, 11, none⟩ = false := by
 refine ⟨?_, ?_, ?_, ?_, ?_, ?_, ?_, ?_, ?_, ?_, ?_, ?_⟩ <;> simp [World.frozen?, h]
end Go.Proofs.YtmgdnhjemhhleaaGreatDoor
