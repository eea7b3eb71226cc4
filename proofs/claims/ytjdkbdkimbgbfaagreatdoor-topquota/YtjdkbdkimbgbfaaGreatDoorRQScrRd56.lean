/-
  What the reader's tags does: the walk.
-/
import Derived.Test.YtjdkbdkimbgbfaaGreatDoorRQScrCk6
set_option maxHeartbeats 16000000
set_option maxRecDepth 100000
namespace Go.Proofs.YtjdkbdkimbgbfaaGreatDoor
open Go.RowKit Go.Proofs
variable {hp : Bool} {acc : List Cmd} {r : List Tok} {b k m p : Nat} {t : Tok} {w : World}
def finT (hp : Bool) (m p : Nat) : Nat × Nat := (if m = 0 then 1 else m, if p = 0 /\ hp = true then 1 else p)
theorem jn5 (h : ¬ (jbU r).kind = 2) : zU hp r m p = .ok (finT hp m p, r) := by
 cases r with
 | nil => rfl
 | cons t r => unfold zU; rw [if_neg (show ¬ t.kind = 2 from h)]; rfl
theorem jn6 (h : t.kind = 2) (h1 : jJ 2 t.text ≠ 0 /\ m = 0) : zU hp (t :: r) m p = zU hp r (jJ 2 t.text) p := by
 rw [zU, if_pos h, if_pos h1]
theorem jl5 (h : t.kind = 2) (h1 : ¬ (jJ 2 t.text ≠ 0 /\ m = 0)) (h2 : jJ 3 t.text ≠ 0 /\ p = 0 /\ hp = true) : zU hp (t :: r) m p = zU hp r m (jJ 3 t.text) := by
 rw [zU, if_pos h, if_neg h1, if_pos h2]
theorem jn7 (h : t.kind = 2) (h1 : ¬ (jJ 2 t.text ≠ 0 /\ m = 0)) (h2 : ¬ (jJ 3 t.text ≠ 0 /\ p = 0 /\ hp = true)) : zU hp (t :: r) m p = .error (misP (t :: r)) := by
 rw [zU, if_pos h, if_neg h1, if_neg h2]
theorem jfN (b : Nat) (A : Option Addr) (C : Nat) (L r : List Tok) (hp : Bool) (w : World) (h : RdS w b A C L r) (hw : WordsAt w) (hG : 3 < b) :
 Calls Tryz.prog 222 #[.pointer (some ⟨b, 0, none⟩), .bool hp] w (Rp b w A C L (fun (x : Nat × Nat) _ v => v = .tuple #[.int .i64 (x.1 : Nat), .int .i64 (x.2 : Nat)]) (zU hp r 0 0)) := by
 have H := hid h; have HW := hid hw; have hsm := h.small; clear h hw; go_enter Tryz.func222, Tryz.ntmps222; go_wp2
 go_loopw [4, 5] (fun v4 v5 wr => ∃ (m p : Nat) (q : List Tok), v4 = .int .i64 m /\ v5 = .int .i64 p /\ RdS wr b A C L q /\ But b w wr /\ Hid (zU hp r 0 0 = zU hp q m p)) (fun _ _ wr => jat b L.length wr)
 case atStart => exact ⟨0, 0, r, rfl, rfl, H.out, But.refl _ _, rfl⟩
 case round =>
  obtain ⟨m, p, q, rfl, rfl, de, dd, hN⟩ := hrel; have dR := hid de; have iN := hid dd; have dZ := hid (HW.out.but dd hG); have HM := hid (qd de); have hlen := de.len; clear de dd; go_wp2_with fail; refine (qD b A C L q wr dR.out).mono ?_; rintro e w1 ⟨rfl, hb1⟩; have cC := hid (dR.out.next hb1); have bX := hid (iN.out.trans (But.of hb1)); have cO := hid (dZ.out.next hb1); clear hb1; rw [tokV]; have lG := joV (jbU q)
  by_cases hk : (jbU q).kind = 2
  . have q1 : ((jbU q).kind == 2) = true := by simp [hk]
    cases q with
    | nil => exact absurd hk (by decide)
    | cons t q =>
      rw [zJ] at hk q1 lG; rw [zJ]; have HK := hid hk; clear hk; go_wp2_with fail; refine (qD b A C L (t :: q) w1 cC.out).mono ?_; rintro e w2 ⟨rfl, hb2⟩; have cD := hid (cC.out.next hb2); have bY := hid (bX.out.trans (But.of hb2)); have dH := hid (cO.out.next hb2); clear hb2; rw [tokV, zJ]; have pL := jmd t; go_wp2_with fail; refine (jbV 2 (by omega) t.text w2 dH.out).mono ?_; rintro e w2' ⟨rfl, hw2⟩; have wI := hw2.symm; subst wI; go_wp2_with fail; refine (qD b A C L (t :: q) w2 cD.out).mono ?_; rintro e w3 ⟨rfl, hb3⟩; have cB := cD.out.next hb3; have cT := hid cB; have bZ := hid (bY.out.trans (But.of hb3)); have cP := hid (dH.out.next hb3); have d1 := cB.c1; have y1 := cB.z1; clear hb3 cB; rw [tokV, zJ]; go_wp2_with fail; refine (jbV 3 (by omega) t.text w3 cP.out).mono ?_; rintro e w3' ⟨rfl, hw3⟩; have wJ := hw3.symm; subst wJ; obtain ⟨n2, gx⟩ : ∃ n2, n2 = jJ 2 t.text := ⟨_, rfl⟩; obtain ⟨n3, lj⟩ : ∃ n3, n3 = jJ 3 t.text := ⟨_, rfl⟩; rw [<- gx, <- lj]; obtain ⟨i, dU⟩ : ∃ i, i = L.length - (t :: q).length := ⟨_, rfl⟩; have HI := hid (show i + 1 = L.length - q.length by rw [dU]; simp at hlen ⊢; omega); rw [<- dU] at d1; have ko : (i : Int) <= 400 := by omega
      have dE : (0 : Int) <= (i : Int) := by omega
      have HST := hid (show RdS (w3.setCell ⟨b, 1, none⟩ (.int .i64 ((i : Int) + 1))) b A C L q by
       have := cT.out.step; rw [<- HI.out] at this; exact this)
      have HD := hid (show jat b L.length (w3.setCell ⟨b, 1, none⟩ (.int .i64 ((i : Int) + 1))) < jat b L.length wr by rw [qd HST.out, HM.out]; simp); have kI := hid (show But b w (w3.setCell ⟨b, 1, none⟩ (.int .i64 ((i : Int) + 1))) from bZ.out.trans (But.setO _ 1 _)); clear dU lG pL q1
      by_cases c1 : n2 ≠ 0 /\ m = 0
      . have HE := hid (show zU hp r 0 0 = zU hp q n2 p by rw [hN.out, gx]; exact jn6 HK.out (by rw [<- gx]; exact c1)); have e1 : ((n2 : Int) != 0) = true := by simp; exact c1.1
        have e2 : m = 0 := c1.2; subst e2; clear gx lj c1; go_wp2; exact ⟨⟨n2, p, q, rfl, rfl, HST.out, kI.out, HE⟩, HD.out⟩
      . have oI := hid c1; have e1 : n2 = 0 ∨ m ≠ 0 := by omega
        by_cases c2 : n3 ≠ 0 /\ p = 0 /\ hp = true
        . have HE := hid (show zU hp r 0 0 = zU hp q m n3 by rw [hN.out, lj]; exact jl5 HK.out (by rw [<- gx]; exact c1) (by rw [<- lj]; exact c2)); obtain ⟨g1, g2, g3⟩ := c2; have e3 : ((n3 : Int) != 0) = true := by simp; exact g1
          subst g2; subst g3; clear gx lj c1 g1
          rcases e1 with e1 | e1
          . subst e1; go_wp2; exact ⟨⟨m, n3, q, rfl, rfl, HST.out, kI.out, HE⟩, HD.out⟩
          . have e4 : ((m : Int) == 0) = false := by rw [bA]; omega
            clear e1
            by_cases z : n2 = 0
            . subst z; go_wp2; exact ⟨⟨m, n3, q, rfl, rfl, HST.out, kI.out, HE⟩, HD.out⟩
            . have e5 : ((n2 : Int) != 0) = true := by simp; exact z
              clear z; go_wp2; exact ⟨⟨m, n3, q, rfl, rfl, HST.out, kI.out, HE⟩, HD.out⟩
        . have HE := hid (show zU hp r 0 0 = .error (misP (t :: q)) by rw [hN.out]; exact jn7 HK.out (by rw [<- gx]; exact c1) (by rw [<- lj]; exact c2)); have fZ := hid c2; clear gx lj c1 c2 e1; have s1 : (((n2 : Int) != 0) && ((m : Int) == 0)) = false := by
            have := oI.out; rw [Bool.eq_false_iff]
            simp
            omega
          have s2 : (((n3 : Int) != 0) && ((p : Int) == 0) && hp) = false := by
            have := fZ.out; rw [Bool.eq_false_iff]; simp only [aX, bne_iff_ne, beq_iff_eq, ne_eq, not_and]; intro u hh; exact this ⟨by omega, by omega, hh⟩
          go_wp2_with fail
          all_goals first
            | (refine (qa b A C L (t :: q) w3 cT.out).mono ?_
               rintro e w4 ⟨rfl, hb4⟩; have ch := hid (bZ.out.trans (But.of hb4)); clear hb4; unfold misV; go_wp2; rw [HE.out]; exact ⟨rfl, rfl, ch.out⟩)
            | (exfalso; simp_all)
  . have q1 : ((jbU q).kind == 2) = false := by simp [hk]
    have HE := hid (show zU hp r 0 0 = .ok (finT hp m p, q) by rw [hN.out]; exact jn5 hk); clear hk
    by_cases hm : m = 0
    . have HF := hid (show (finT hp m p).1 = 1 by unfold finT; rw [if_pos hm]); subst hm
      by_cases kB : p = 0 /\ hp = true
      . have HG := hid (show (finT hp 0 p).2 = 1 by unfold finT; simp only; rw [if_pos kB]); obtain ⟨g1, g2⟩ := kB; subst g1; subst g2; go_wp2; go_ret2; rw [HE.out]; exact ⟨_, rfl, by simp only [HF.out, HG.out]; rfl, cC.out, bX.out⟩
      . have HG := hid (show (finT hp 0 p).2 = p by unfold finT; simp only; rw [if_neg kB])
        by_cases z : p = 0
        . have hh : hp = false := by cases hp <;> simp_all
          subst hh; subst z; clear kB; go_wp2; go_ret2; rw [HE.out]; exact ⟨_, rfl, by simp only [HF.out, HG.out]; rfl, cC.out, bX.out⟩
        . have e4 : ((p : Int) == 0) = false := by rw [bA]; omega
          clear z kB; go_wp2; go_ret2; rw [HE.out]; exact ⟨_, rfl, by simp only [HF.out, HG.out]; rfl, cC.out, bX.out⟩
    . have HF := hid (show (finT hp m p).1 = m by unfold finT; simp only; rw [if_neg hm]); have e3 : ((m : Int) == 0) = false := by rw [bA]; omega
      clear hm
      by_cases kB : p = 0 /\ hp = true
      . have HG := hid (show (finT hp m p).2 = 1 by unfold finT; simp only; rw [if_pos kB]); obtain ⟨g1, g2⟩ := kB; subst g1; subst g2; go_wp2; go_ret2; rw [HE.out]; exact ⟨_, rfl, by simp only [HF.out, HG.out]; rfl, cC.out, bX.out⟩
      . have HG := hid (show (finT hp m p).2 = p by unfold finT; simp only; rw [if_neg kB])
        by_cases z : p = 0
        . have hh : hp = false := by cases hp <;> simp_all
          subst hh; subst z; clear kB; go_wp2; go_ret2; rw [HE.out]; exact ⟨_, rfl, by simp only [HF.out, HG.out]; rfl, cC.out, bX.out⟩
        . have e4 : ((p : Int) == 0) = false := by rw [bA]; omega
          clear z kB; go_wp2; go_ret2; rw [HE.out]; exact ⟨_, rfl, by simp only [HF.out, HG.out]; rfl, cC.out, bX.out⟩
def TstR (Q : Nat -> Prop) (n : Nat) (t : Tst) (w : World) (v : Value) : Prop := ∃ cs : List Value, v = .agg cs.toArray /\ TstM Q n w t cs
def RdT (n : Nat) : Prop := ∀ (d : Nat) (b : Nat) (A : Option Addr) (C : Nat) (L r : List Tok) (w : World), RdS w b A C L r -> WordsAt w -> 3 < b -> r.length < n -> d <= 7 ->
    Calls Tryz.prog 190 #[.pointer (some ⟨b, 0, none⟩), .int .i64 d] w (Rp b w A C L (fun t w' v => TstR (newB w.heap.size) n t w' v) (jF n d r))
theorem jlT (n : Nat) (ih : RdT n) (d b : Nat) (A : Option Addr) (C : Nat) (L r : List Tok) (w : World) (h : RdS w b A C L r) (hw : WordsAt w) (hG : 3 < b) (hn : r.length <= n) (hd : d <= 7) :
 Calls Tryz.prog 221 #[.pointer (some ⟨b, 0, none⟩), .int .i64 d] w (Rp b w A C L (fun l w' v => TstsM (newB w.heap.size) n w' v l /\ l ≠ []) (zY (jF n d) r)) := by
 have H := hid h; have HW := hid hw; have cR := hid ih; have hbl := h.lt; have hsm := h.small; obtain ⟨i0, hi, hz0, hz1, hz2⟩ := info_parts jpE; clear h hw ih; go_enter Tryz.func221, Tryz.ntmps221; go_wp2_with fail; refine (zB b A C L r 5 [40] w H.out (by omega)).mono ?_; cases gY : jI 5 [40] r with
 | error m =>
   have HE := hid (show zY (jF n d) r = .error m by unfold zY; rw [gY]; rfl); clear gY; rintro e w1 ⟨rfl, b8⟩; have bX := hid b8; clear b8; go_wp2; rw [HE.out]; exact ⟨rfl, rfl, bX.out⟩
 | ok y =>
   obtain ⟨u0, q0⟩ := y; have ir := jH (zC gY); rintro e w1 ⟨v, rfl, rfl, cz, b8⟩; have cC := hid cz; have bX := hid b8; have cO := hid (HW.out.but b8 hG); clear cz b8; go_wp2_with fail; refine (cR.out d b A C L q0 w1 cC.out cO.out hG (by omega) hd).mono ?_; cases hx : jF n d q0 with
   | error m =>
     have HE := hid (show zY (jF n d) r = .error m by unfold zY; rw [gY]; unfold jo; simp only; rw [hx]); clear gY hx; rintro e w2 ⟨rfl, b7⟩; have bY := hid (bX.out.trans b7); clear b7; go_wp2; rw [HE.out]; exact ⟨rfl, rfl, bY.out⟩
   | ok y =>
     obtain ⟨x, q1⟩ := y; have dV := jbD _ _ _ _ _ hx; have HL := hid (show zY (jF n d) r = jo (vV (jF n d) q1.length [x] q1) fun l q => jo (jI 5 [41] q) fun _ q => .ok (l, q) by
        unfold zY; rw [gY]; unfold jo; simp only; rw [hx])
     clear gY hx; rintro e w2 ⟨v, rfl, ⟨cs, rfl, hT⟩, cA, b7⟩; obtain ⟨an, cn, ak, ck, at', ct, m0, _, rfl, _⟩ := zV hT; have bY := hid (bX.out.trans b7); have hsz := bY.out.size; have wC := bX.out.size; have nG := b7.size; obtain ⟨W0, hW0⟩ : ∃ W0, W0 = w2.alloc (.cells ([.int .i64 x.kind, .int .i64 x.mat, .int .i64 x.part, .slice an x.names.length cn, .slice ak x.keys.length ck, .bool x.over, .int .i64 x.limit, .slice at' x.tests.length ct] : List Value).toArray 199) := ⟨_, rfl⟩; have cw : Below w2.heap.size w2 W0 := by rw [hW0]; exact nb0 _ _
     have hz0' : W0.heap.size = w2.heap.size + 1 := by rw [hW0]; simp
     have mR := hid (show OwnTs w.heap.size n W0 (.slice (some ⟨w2.heap.size, 0, none⟩) [x].length 1) [x] by
        refine ⟨[[.int .i64 x.kind, .int .i64 x.mat, .int .i64 x.part, .slice an x.names.length cn, .slice ak x.keys.length ck, .bool x.over, .int .i64 x.limit, .slice at' x.tests.length ct]], ?_, rfl, fun c hc => by simp at hc; rw [hc]; exact jmj hT, fun i y c hy hc => ?_⟩
        . rw [hW0]; exact ⟨by rfl, .inr ⟨w2.heap.size, 1, ([.int .i64 x.kind, .int .i64 x.mat, .int .i64 x.part, .slice an x.names.length cn, .slice ak x.keys.length ck, .bool x.over, .int .i64 x.limit, .slice at' x.tests.length ct] : List Value).toArray, rfl, hsz, az w2 _, by simp, by unfold maxLen; omega, by rfl, by rfl⟩⟩
        . cases i with
          | succ i => simp at hy
          | zero =>
            simp at hy hc
            subst hy; subst hc; refine TstM.imp (fun k hk => ?_) (Keeps.of_below cw) _ _ _ (TstM.both _ _ _ hT); have h1 : w1.heap.size <= k := hk.1; have h2 : k < w2.heap.size := hk.2; exact ⟨by omega, by omega, fun e => by simp [Value.ownBlock] at e; omega⟩)
     have dj := hid (cA.next cw); have cj := hid (show But b w W0 from bY.out.trans (But.of cw)); have b9 := hid hW0; clear cA b7 hW0 cw hT; go_wp2; rw [<- b9.out]
     go_loopw [5] (fun v wr => ∃ (acc : List Tst) (q : List Tok) (a0 : Option Addr) (c0 m : Nat), v = .slice a0 acc.length c0 /\ OwnTs w.heap.size n wr (.slice a0 acc.length c0) acc /\ RdS wr b A C L q /\ q.length <= m /\ q.length < n /\ acc.length + q.length <= 401 /\ acc ≠ [] /\
      Hid (zY (jF n d) r = jo (vV (jF n d) m acc q) fun l q2 => jo (jI 5 [41] q2) fun _ q3 => .ok (l, q3)) /\ But b w wr) (fun _ wr => jat b L.length wr)
     case atStart => exact ⟨[x], q1, _, _, q1.length, rfl, mR.out, dj.out, ai _, by omega, by have := dj.out.len; simp; omega, by simp, HL, cj.out⟩
     case round =>
        obtain ⟨acc, q, a0, c0, m, rfl, hO, de, oz, pZ, kh, hne, hN, dd⟩ := hrel; have HO := hid hO; have dR := hid de; have iN := hid dd; have HM := hid (qd de); have iS := hid hne; clear hO de dd hne; go_wp2_with fail; refine (qE b A C L q 5 [44] wr dR.out (by omega)).mono ?_; cases hs : zl 5 [44] q with
        | none =>
          have HE := hid (show zY (jF n d) r = jo (jI 5 [41] q) fun _ q3 => .ok (acc, q3) by rw [hN.out, jfw hs]; rfl); clear hs; rintro e w3 ⟨rfl, cB, cy⟩; have cT := hid cB; have bZ := hid (iN.out.trans cy); have db := hid (HO.out.keep (jaH n) cy hbl); clear cB cy; go_wp2_with fail; refine (zB b A C L q 5 [41] w3 cT.out (by omega)).mono ?_; cases ht : jI 5 [41] q with
          | error mm =>
            have HF := hid (show zY (jF n d) r = .error mm by rw [HE.out, ht]; rfl); clear ht; rintro e w4 ⟨rfl, cf⟩; have ch := hid (bZ.out.trans cf); clear cf; go_wp2; rw [HF.out]; exact ⟨rfl, rfl, ch.out⟩
          | ok y =>
            obtain ⟨u, q3⟩ := y; have HF := hid (show zY (jF n d) r = .ok (acc, q3) by rw [HE.out, ht]; rfl); clear ht; rintro e w4 ⟨v, rfl, rfl, cK, cf⟩; have dm := hid cK; have ch := hid (bZ.out.trans cf); have HV := hid (show TstsM (newB w.heap.size) n w4 (.slice a0 acc.length c0) acc from (db.out.keep (jaH n) cf hbl).rowM (jaH n) (by unfold maxLen; omega)); clear cK cf; go_wp2; go_ret; rw [HF.out]; exact ⟨_, rfl, ⟨HV.out, iS.out⟩, dm.out, ch.out⟩
        | some q' =>
          have gR := jH hs; obtain ⟨m', rfl⟩ : ∃ m', m = m' + 1 := ⟨m - 1, by omega⟩; have HE := hid (show zY (jF n d) r = jo (jo (jF n d q') fun x q2 => vV (jF n d) m' (acc ++ [x]) q2) fun l q2 => jo (jI 5 [41] q2) fun _ q3 => .ok (l, q3) by rw [hN.out, jhN hs]); clear hs; rintro e w3 ⟨rfl, cB, cy⟩; have cT := hid cB; have bZ := hid (iN.out.trans cy); have db := hid (HO.out.keep (jaH n) cy hbl); have cP := hid (HW.out.but bZ.out hG); clear cB cy; go_wp2_with fail; refine (cR.out d b A C L q' w3 cT.out cP.out hG (by omega) hd).mono ?_; cases ht : jF n d q' with
          | error mm =>
            have HF := hid (show zY (jF n d) r = .error mm by rw [HE.out, ht]; rfl); clear ht; rintro e w4 ⟨rfl, cf⟩; have ch := hid (bZ.out.trans cf); clear cf; go_wp2; rw [HF.out]; exact ⟨rfl, rfl, ch.out⟩
          | ok y =>
            obtain ⟨x2, q2⟩ := y; have dW := jbD _ _ _ _ _ ht; have HF := hid (show zY (jF n d) r = jo (vV (jF n d) m' (acc ++ [x2]) q2) fun l q2 => jo (jI 5 [41] q2) fun _ q3 => .ok (l, q3) by rw [HE.out, ht]; rfl); clear ht; rintro e w4 ⟨v, rfl, ⟨cs2, rfl, dM⟩, cK, cf⟩; obtain ⟨an2, cn2, ak2, ck2, at2, ct2, m02, _, rfl, _⟩ := zV dM; have dm := hid cK; have ch := hid (bZ.out.trans cf); obtain ⟨css, h1, h2, h3, h4⟩ := db.out.keep (jaH n) cf hbl; have hrow3 : ∀ k, (Value.slice a0 acc.length c0).ownBlock = some k -> k < w3.heap.size := fun k hk => by
             obtain ⟨_, g1, _⟩ := db.out; exact (aA g1 k hk).2
            have gB := ch.out.size; have mA := cf.size; have nH := bZ.out.size; have HX := hid (show TstM (rowQ w.heap.size w4 (.slice a0 acc.length c0)) n w4 x2 [.int .i64 x2.kind, .int .i64 x2.mat, .int .i64 x2.part, .slice an2 x2.names.length cn2, .slice ak2 x2.keys.length ck2, .bool x2.over, .int .i64 x2.limit, .slice at2 x2.tests.length ct2] from TstM.imp (fun k hk => by
             have e1 : w3.heap.size <= k := hk.1; have e2 : k < w4.heap.size := hk.2; exact ⟨by omega, e2, fun e => by have := hrow3 k e.symm; omega⟩) (Keeps.refl _ _) _ _ _ (TstM.both _ _ _ dM))
            have mr := jmj dM; have fJ := jqj dM; have H2 := hid h2; have H3 := hid h3; have H4 := hid h4; clear cK cf dM h2 h3 h4
            go_wp2_with (at_builtin; refine wpList_append_lies _ rfl _ _ 197 rfl w.heap.size 199 i0 _ 8 112 Tryz.underlying197 hi hz0 hz1 hz2 rfl (by decide) (.slice a0 acc.length c0) acc.length css.flatten rfl (aO h1 _) ⟨w4.heap.size, 0, none⟩ 1 1 [.int .i64 x2.kind, .int .i64 x2.mat, .int .i64 x2.part, .slice an2 x2.names.length cn2, .slice ak2 x2.keys.length ck2, .bool x2.over, .int .i64 x2.limit, .slice at2 x2.tests.length ct2] rfl rfl (jpr _ _ _) fJ (by omega) ?c3 ?c4 ?c5 _ rfl ?_)
            case c3 => unfold maxLen; omega
            case c4 => omega
            case c5 => simp; omega
            intro g cap w5 hown' hgrow hat fH; have fC : w4.grownBy w5 (Value.slice a0 acc.length c0).ownBlock := ⟨hgrow.os, hgrow.tape, hgrow.output, by have := hgrow.size; simp at this; omega, fun k hk hn => (hgrow.block k (by simp; omega) hn).trans (by
             show (w4.heap.push _)[k]? = _
             rw [bm hk, aY hk])⟩
            have eO := hid (show OwnTs w.heap.size n w5 (.slice (some ⟨g, 0, none⟩) (acc.length + 1) cap) (acc ++ [x2]) from
             OwnRow.more (jaH n) (v := .slice a0 acc.length c0) (H := w4.heap.size + 1) H2.out H3.out H4.out HX.out rfl hown' fC (by
              rcases hat with e | e
              . exact .inl e.symm
              . exact .inr (by rw [e]; simp [Value.ownBlock])) (by omega))
            have dO : Below w.heap.size w4 w5 := ((ay _ _).alloc gB _).grown hgrow (by simp; omega) (fun j hj => (aA h1 j hj).1); have fw := hid (dm.out.under dO hbl); have dh := hid (ch.out.low dO); have HD := hid (show jat b L.length w5 < jat b L.length wr by rw [qd fw.out, HM.out]; omega); clear hown' hgrow dO h1 fC hat; go_wp2; exact ⟨⟨acc ++ [x2], q2, some ⟨g, 0, none⟩, cap, m', by first | rfl | simp, by simpa using eO.out, fw.out, by omega, by omega, by simp; omega, by simp, HF, dh.out⟩, HD.out⟩
def jeS : Array Value := #[.int .i64 0, .int .i64 0, .int .i64 0, .slice none 0 0, .slice none 0 0, .bool false, .int .i64 0, .slice none 0 0]
theorem put8 (a b c d e f g h : Value) : qR jeS 0 [a, b, c, d, e, f, g, h] = #[a, b, c, d, e, f, g, h] := by simp [qR, jeS]
theorem RdS.setAll {A : Option Addr} {C : Nat} {L : List Tok} (h : RdS w b A C L r) (hk : b < k) (o : Nat) (vs : List Value) : RdS (setAll w k o vs) b A C L r := h.under (jg (ai k) vs o w w (ay _ _)) hk
theorem But.setAll {w' : World} (h : But b w w') (hk : w.heap.size <= k) (o : Nat) (vs : List Value) : But b w (setAll w' k o vs) := h.low (jg hk vs o w' w' (ay _ _))
theorem zg (hn : k ≠ b) : ∀ (vs : List Value) (o : Nat) (w : World), (setAll w b o vs).heap[k]? = w.heap[k]? := by
 intro vs
 induction vs with
 | nil => intro o w; rfl
 | cons v vs ih => intro o w; exact (ih (o + 1) _).trans (aC _ _ _ _ hn)
theorem jjv (n : Nat) (ih : RdT n) : RdT (n + 1) := by
 intro d b A C L r w h hw hG hn hd; have H := hid h; have HW := hid hw; have cR := hid ih; have hbl := h.lt; have hsm := h.small; clear h hw ih; obtain ⟨W0, hW0⟩ : ∃ W0, W0 = w.alloc (.cells #[.int .i64 0, .int .i64 0, .int .i64 0, .slice none 0 0, .slice none 0 0, .bool false, .int .i64 0, .slice none 0 0] 199) := ⟨_, rfl⟩; have cw : Below w.heap.size w W0 := by rw [hW0]; exact nb0 _ _
 have eE : w.heap.size < W0.heap.size := by rw [hW0]; simp
 have kN := hid (show W0.heap[w.heap.size]? = some (.cells jeS 199) by rw [hW0]; exact az w _); have b9 := hid hW0; have cu := hid cw; have dt : w.heap.size ≠ b := by omega
 clear hW0 cw; go_enter Tryz.func190, Tryz.ntmps190; go_wp2_with fail; rw [<- b9.out]; refine (jfL b A C L r 1 d W0 (H.out.next cu.out) (by omega) (HW.out.next cu.out)).mono ?_; cases hk : jaS 1 d r with
 | error m =>
   have HE := hid (show jF (n + 1) d r = .error m by unfold jF; rw [hk]; rfl); clear hk; rintro e w1 ⟨rfl, b8⟩; have bX := hid ((But.of cu.out).trans b8); clear b8; go_wp2; rw [HE.out]; exact ⟨rfl, rfl, bX.out⟩
 | ok y =>
   obtain ⟨k, q⟩ := y; have gR := jbj hk; obtain ⟨oq, fF, _⟩ := jee hk; rintro e w1 ⟨v, rfl, rfl, cz, b8⟩; have bX := hid (show But b w w1 from (But.of cu.out).trans b8); have cC := hid cz; have cO := hid (HW.out.but bX.out hG); have kY : w1.heap[w.heap.size]? = some (.cells jeS 199) := (b8.block _ eE dt).trans kN.out; have cF : w.heap.size < w1.heap.size := aK eE b8.size; have im := cz.lt; have iw := hid kY; have eG : w.heap.size ≠ w1.heap.size := by omega
   have hn5b : w1.heap.size ≠ b := by omega
   obtain ⟨a0, a1, a2, a3, a4, a5, a6, a7⟩ := bx8 kY; obtain ⟨z0, z1, z2, z3, z4, z5, z6, z7⟩ := bz8 kY; have mn : (d : Int) <= 6 := by omega
   have uP : (0 : Int) <= (d : Int) := by omega
   clear cz b8 kY
   by_cases k3 : k = 3
   . subst k3; have HQ := hid (show jF (n + 1) d r = jo (jF n (d + 1) q) fun x q => .ok ({ jZ with kind := 3, tests := [x] }, q) by
        rw [jF, hk]; rfl)
     clear hk; obtain ⟨V1, hV1⟩ : ∃ V1, V1 = w1.alloc (.cells #[.int .i64 3, .int .i64 0, .int .i64 0, .slice none 0 0, .slice none 0 0, .bool false, .int .i64 0, .slice none 0 0] 199) := ⟨_, rfl⟩; have cr : Below w1.heap.size w1 V1 := by rw [hV1]; exact nb0 _ _
     have H5V := hid (show V1.heap[w1.heap.size]? = some (.cells #[.int .i64 3, .int .i64 0, .int .i64 0, .slice none 0 0, .slice none 0 0, .bool false, .int .i64 0, .slice none 0 0] 199) by rw [hV1]; exact az w1 _); have cL : w1.heap.size < V1.heap.size := by rw [hV1]; simp
     have dT := hid hV1; have H4V := hid ((cr.block _ cF).trans iw.out); have eH := hid (cC.out.next cr); have cU := hid (bX.out.trans (But.of cr)); have fT := hid (cO.out.next cr); clear hV1 cr a0 a1 a2 a3 a4 a5 a6 a7 z0 z1 z2 z3 z4 z5 z6 z7; go_wp2_with fail; rw [<- dT.out]; rw [show ((d : Int) + 1) = ((d + 1 : Nat) : Int) from rfl]; refine (cR.out (d + 1) b A C L q V1 eH.out fT.out hG (by omega) (by omega)).mono ?_; cases hx : jF n (d + 1) q with
     | error m =>
       have HE := hid (show jF (n + 1) d r = .error m by rw [HQ.out, hx]; rfl); clear hx; rintro e w2 ⟨rfl, b7⟩; have bY := hid (cU.out.trans b7); clear b7; go_wp2; rw [HE.out]; exact ⟨rfl, rfl, bY.out⟩
     | ok y =>
       obtain ⟨x, q2⟩ := y; have HE := hid (show jF (n + 1) d r = .ok ({ jZ with kind := 3, tests := [x] }, q2) by rw [HQ.out, hx]; rfl); clear hx; rintro e w2 ⟨v, rfl, ⟨cs, rfl, hT⟩, cA, b7⟩; obtain ⟨an, cn, ak, ck, at', ct, m0, _, rfl, _⟩ := zV hT; have cZ := (b7.block _ (Nat.lt_trans cF cL) dt).trans H4V.out; have cW := (b7.block _ cL hn5b).trans H5V.out; have hs2 := b7.size; obtain ⟨a0, a1, a2, a3, a4, a5, a6, a7⟩ := bx8 cZ; obtain ⟨z0, z1, z2, z3, z4, z5, z6, z7⟩ := bz8 cZ; obtain ⟨g0, g1, g2, g3, g4, g5, g6, g7⟩ := bx8 cW; obtain ⟨y0, y1, y2, y3, y4, y5, y6, y7⟩ := bz8 cW; have cD := hid cA; have bY := hid (cU.out.trans b7); have HT := hid hT; have H4u := hid ((zg eG [.slice (some ⟨w2.heap.size, 0, none⟩) 1 1] 7 w2).trans cZ); have fp := hid (jg (show w.heap.size <= w1.heap.size by omega) [.slice (some ⟨w2.heap.size, 0, none⟩) 1 1] 7 w2 w2 (ay w.heap.size w2)); have gE := hid (((jm (Q := newB V1.heap.size) (b := w.heap.size) (fun k hk => by have : V1.heap.size <= k := hk; omega) [.int .i64 3, .int .i64 0, .int .i64 0, .slice none 0 0, .slice none 0 0, .bool false, .int .i64 0, .slice (some ⟨w2.heap.size, 0, none⟩) 1 1] 0 _ w2 (jm (b := w1.heap.size) (fun k hk => by have : V1.heap.size <= k := hk; omega) [.slice (some ⟨w2.heap.size, 0, none⟩) 1 1] 7 w2 w2 (Keeps.refl _ _)))).more (.cells #[.int .i64 x.kind, .int .i64 x.mat, .int .i64 x.part, .slice an x.names.length cn, .slice ak x.keys.length ck, .bool x.over, .int .i64 x.limit, .slice at' x.tests.length ct] 199)); have yN : w.heap.size <= w2.heap.size := by omega
       have h5lt : w1.heap.size < w2.heap.size := by omega
       have h4lt : w.heap.size < w2.heap.size := by omega
       have h5ne : w1.heap.size ≠ w2.heap.size := by omega
       have h4ne : w.heap.size ≠ w2.heap.size := by omega
       clear cA b7 hT cZ cW; go_wp2; obtain ⟨b1, b2, b3, b4, b5⟩ := jmL (t := 199) 0 [.int .i64 3, .int .i64 0, .int .i64 0, .slice none 0 0, .slice none 0 0, .bool false, .int .i64 0, .slice (some ⟨w2.heap.size, 0, none⟩) 1 1] (.cells #[.int .i64 x.kind, .int .i64 x.mat, .int .i64 x.part, .slice an x.names.length cn, .slice ak x.keys.length ck, .bool x.over, .int .i64 x.limit, .slice at' x.tests.length ct] 199) H4u.out fp.out (ai _) #[.int .i64 3, .int .i64 0, .int .i64 0, .slice none 0 0, .slice none 0 0, .bool false, .int .i64 0, .slice (some ⟨w2.heap.size, 0, none⟩) 1 1] (put8 _ _ _ _ _ _ _ _); rw [zk] at b2; have kp := gE.out; simp only [setAll] at b1 b2 b4 kp; obtain ⟨m0, m1, m2, m3, m4, m5, m6, m7⟩ := bx8 b1; refine aD (v := .agg #[.int .i64 3, .int .i64 0, .int .i64 0, .slice none 0 0, .slice none 0 0, .bool false, .int .i64 0, .slice (some ⟨w2.heap.size, 0, none⟩) 1 1]) (by simp only [results, Tryz.results190]; simp [go_sem, m0, m1, m2, m3, m4, m5, m6, m7]) rfl ?_; rw [HE.out]; refine ⟨_, rfl, ⟨[.int .i64 3, .int .i64 0, .int .i64 0, .slice none 0 0, .slice none 0 0, .bool false, .int .i64 0, .slice (some ⟨w2.heap.size, 0, none⟩) 1 1], rfl, ⟨_, _, _, rfl, jh _ _ _ _ _ _, jh _ _ _ _ _ _, ?_⟩⟩, cD.out.under b4 hbl, bY.out.low b4⟩; exact jcr (cs := [.int .i64 x.kind, .int .i64 x.mat, .int .i64 x.part, .slice an x.names.length cn, .slice ak x.keys.length ck, .bool x.over, .int .i64 x.limit, .slice at' x.tests.length ct]) b2 rfl yN (TstM.imp (fun k hk => by have : V1.heap.size <= k := hk; show w.heap.size <= k; omega) kp _ _ _ HT.out)
   by_cases k45 : k = 4 ∨ k = 5
   . skip
     . have HQ := hid (show jF (n + 1) d r = jo (zY (jF n (d + 1)) q) fun l q => .ok ({ jZ with kind := (k : Nat), tests := l }, q) by
        rw [jF, hk]
        rcases k45 with rfl | rfl <;> rfl)
       have c3 : ((k : Int) == 3) = false := by rw [bA]; omega
       have hsw : ((k : Int) == 4) = true ∨ (((k : Int) == 4) = false /\ ((k : Int) == 5) = true) := by rcases k45 with rfl | rfl <;> decide
       clear hk k3 k45
       rcases hsw with h1 | ⟨h1, h2⟩
       all_goals
        obtain ⟨V1, hV1⟩ : ∃ V1, V1 = w1.alloc (.cells #[.int .i64 (k : Nat), .int .i64 0, .int .i64 0, .slice none 0 0, .slice none 0 0, .bool false, .int .i64 0, .slice none 0 0] 199) := ⟨_, rfl⟩; have cr : Below w1.heap.size w1 V1 := by rw [hV1]; exact nb0 _ _
        have H5V := hid (show V1.heap[w1.heap.size]? = some (.cells #[.int .i64 (k : Nat), .int .i64 0, .int .i64 0, .slice none 0 0, .slice none 0 0, .bool false, .int .i64 0, .slice none 0 0] 199) by rw [hV1]; exact az w1 _); have cL : w1.heap.size < V1.heap.size := by rw [hV1]; simp
        have dT := hid hV1; have H4V := hid ((cr.block _ cF).trans iw.out); have eH := hid (cC.out.next cr); have cU := hid (bX.out.trans (But.of cr)); have fT := hid (cO.out.next cr); clear hV1 cr a0 a1 a2 a3 a4 a5 a6 a7 z0 z1 z2 z3 z4 z5 z6 z7; go_wp2_with fail; rw [<- dT.out]; rw [show ((d : Int) + 1) = ((d + 1 : Nat) : Int) from rfl]; refine (jlT n cR.out (d + 1) b A C L q V1 eH.out fT.out hG (by omega) (by omega)).mono ?_; cases hx : zY (jF n (d + 1)) q with
        | error m =>
          have HE := hid (show jF (n + 1) d r = .error m by rw [HQ.out, hx]; rfl); clear hx; rintro e w2 ⟨rfl, b7⟩; have bY := hid (cU.out.trans b7); clear b7; go_wp2; rw [HE.out]; exact ⟨rfl, rfl, bY.out⟩
        | ok y =>
          obtain ⟨x, q2⟩ := y; have HE := hid (show jF (n + 1) d r = .ok ({ jZ with kind := (k : Nat), tests := x }, q2) by rw [HQ.out, hx]; rfl); clear hx; rintro e w2 ⟨v, rfl, ⟨hT, _⟩, cA, b7⟩; obtain ⟨at', ct, rfl⟩ := hT.slice; have HT := hid hT; clear hT; have cZ := (b7.block _ (Nat.lt_trans cF cL) dt).trans H4V.out; have cW := (b7.block _ cL hn5b).trans H5V.out; have hs2 := b7.size; obtain ⟨a0, a1, a2, a3, a4, a5, a6, a7⟩ := bx8 cZ; obtain ⟨z0, z1, z2, z3, z4, z5, z6, z7⟩ := bz8 cZ; obtain ⟨g0, g1, g2, g3, g4, g5, g6, g7⟩ := bx8 cW; obtain ⟨y0, y1, y2, y3, y4, y5, y6, y7⟩ := bz8 cW; have cD := hid cA; have bY := hid (cU.out.trans b7); have H4u := hid ((zg eG [.slice at' x.length ct] 7 w2).trans cZ); have fp := hid (jg (show w.heap.size <= w1.heap.size by omega) [.slice at' x.length ct] 7 w2 w2 (ay w.heap.size w2)); have gE := hid (jm (Q := newB V1.heap.size) (b := w.heap.size) (fun k hk => by have : V1.heap.size <= k := hk; omega) [.int .i64 (k : Nat), .int .i64 0, .int .i64 0, .slice none 0 0, .slice none 0 0, .bool false, .int .i64 0, .slice at' x.length ct] 0 _ w2 (jm (b := w1.heap.size) (fun k hk => by have : V1.heap.size <= k := hk; omega) [.slice at' x.length ct] 7 w2 w2 (Keeps.refl _ _))); clear cA b7 cZ cW; go_wp2; have b1 := jy [.int .i64 (k : Nat), .int .i64 0, .int .i64 0, .slice none 0 0, .slice none 0 0, .bool false, .int .i64 0, .slice at' x.length ct] 0 _ _ H4u.out; rw [put8] at b1; have b4 := jg (ai w.heap.size) [.int .i64 (k : Nat), .int .i64 0, .int .i64 0, .slice none 0 0, .slice none 0 0, .bool false, .int .i64 0, .slice at' x.length ct] 0 _ _ fp.out; have kp := gE.out; simp only [setAll] at b1 b4 kp; obtain ⟨m0, m1, m2, m3, m4, m5, m6, m7⟩ := bx8 b1; refine aD (v := .agg #[.int .i64 (k : Nat), .int .i64 0, .int .i64 0, .slice none 0 0, .slice none 0 0, .bool false, .int .i64 0, .slice at' x.length ct]) (by simp only [results, Tryz.results190]; simp [go_sem, m0, m1, m2, m3, m4, m5, m6, m7]) rfl ?_; rw [HE.out]; exact ⟨_, rfl, ⟨[.int .i64 (k : Nat), .int .i64 0, .int .i64 0, .slice none 0 0, .slice none 0 0, .bool false, .int .i64 0, .slice at' x.length ct], rfl, ⟨_, _, _, rfl, jh _ _ _ _ _ _, jh _ _ _ _ _ _, RowM.imp HT.out (fun k hk => by have : V1.heap.size <= k := hk; show w.heap.size <= k; omega) kp (fun _ _ h => TstM.imp (fun k hk => by have : V1.heap.size <= k := hk; show w.heap.size <= k; omega) kp _ _ _ h)⟩⟩, cD.out.under b4 hbl, bY.out.low b4⟩
   by_cases k678 : k = 6 ∨ k = 7 ∨ k = 8
   . rcases k678 with e6 | k78
     . subst e6; have HQ := hid (show jF (n + 1) d r = jo (zU false q 0 0) fun mp q => jo (ze q) fun a q => jo (ze q) fun b q => .ok ({ jZ with kind := (6 : Nat), mat := mp.1, part := mp.2, names := a, keys := b }, q) by
        rw [jF, hk]; rfl)
       clear hk; obtain ⟨V1, hV1⟩ : ∃ V1, V1 = w1.alloc (.cells #[.int .i64 6, .int .i64 0, .int .i64 0, .slice none 0 0, .slice none 0 0, .bool false, .int .i64 0, .slice none 0 0] 199) := ⟨_, rfl⟩; have cr : Below w1.heap.size w1 V1 := by rw [hV1]; exact nb0 _ _
       have H5V := hid (show V1.heap[w1.heap.size]? = some (.cells #[.int .i64 6, .int .i64 0, .int .i64 0, .slice none 0 0, .slice none 0 0, .bool false, .int .i64 0, .slice none 0 0] 199) by rw [hV1]; exact az w1 _); have cL : w1.heap.size < V1.heap.size := by rw [hV1]; simp
       have dT := hid hV1; have H4V := hid ((cr.block _ cF).trans iw.out); have eH := hid (cC.out.next cr); have cU := hid (bX.out.trans (But.of cr)); have fT := hid (cO.out.next cr); clear hV1 cr a0 a1 a2 a3 a4 a5 a6 a7 z0 z1 z2 z3 z4 z5 z6 z7; go_wp2_with fail; rw [<- dT.out]; refine (jfN b A C L q false V1 eH.out fT.out hG).mono ?_; cases hx : zU false q 0 0 with
       | error m =>
         have HE := hid (show jF (n + 1) d r = .error m by rw [HQ.out, hx]; rfl); clear hx; rintro e w2 ⟨rfl, b7⟩; have bY := hid (cU.out.trans b7); clear b7; go_wp2; rw [HE.out]; exact ⟨rfl, rfl, bY.out⟩
       | ok y =>
         obtain ⟨x, q2⟩ := y; have dJ := hid (show jF (n + 1) d r = jo (ze q2) fun a q => jo (ze q) fun b q => .ok ({ jZ with kind := (6 : Nat), mat := x.1, part := x.2, names := a, keys := b }, q) by rw [HQ.out, hx]; rfl); clear hx HQ; rintro e w2 ⟨v, rfl, rfl, cA, b7⟩; have cZ := (b7.block _ (Nat.lt_trans cF cL) dt).trans H4V.out; have cW := (b7.block _ cL hn5b).trans H5V.out; have hs2 := b7.size; obtain ⟨g0, g1, g2, g3, g4, g5, g6, g7⟩ := bx8 cW; obtain ⟨y0, y1, y2, y3, y4, y5, y6, y7⟩ := bz8 cW; obtain ⟨U2, cG⟩ : ∃ U2, U2 = setAll w2 w1.heap.size 1 [.int .i64 ((x.1 : Nat) : Int), .int .i64 ((x.2 : Nat) : Int)] := ⟨_, rfl⟩; have fb : Below w1.heap.size w2 U2 := by rw [cG]; exact jg (ai _) _ _ _ _ (ay _ _)
         have hz2 : U2.heap.size = w2.heap.size := by rw [cG]; exact zk _ _ _
         have h5u2 : U2.heap[w1.heap.size]? = some (.cells #[.int .i64 6, .int .i64 ((x.1 : Nat) : Int), .int .i64 ((x.2 : Nat) : Int), .slice none 0 0, .slice none 0 0, .bool false, .int .i64 0, .slice none 0 0] 199) := by
            rw [cG, jy _ _ _ _ cW]
            simp [qR]
         have h4u2 : U2.heap[w.heap.size]? = some (.cells jeS 199) := (fb.block _ cF).trans cZ; have mT := hid (cA.under fb im); have iL := hid ((cU.out.trans b7).low (fb.mono (by omega))); have HU2E := hid (show _ = _ from cG); simp only [setAll] at HU2E; have H5U2 := hid h5u2; have H4U2 := hid h4u2; clear cA b7 cZ cW cG fb h5u2 h4u2; go_wp2_with fail; rw [<- HU2E.out]; refine (vw b A C L q2 U2 mT.out).mono ?_; cases hx : ze q2 with
         | error m =>
           have HE := hid (show jF (n + 1) d r = .error m by rw [dJ.out, hx]; rfl); clear hx; rintro e w3 ⟨rfl, cy⟩; have bZ := hid (iL.out.trans cy); clear cy; go_wp2; rw [HE.out]; exact ⟨rfl, rfl, bZ.out⟩
         | ok y =>
           obtain ⟨a, q3⟩ := y; have gd := hid (show jF (n + 1) d r = jo (ze q3) fun b q => .ok ({ jZ with kind := (6 : Nat), mat := x.1, part := x.2, names := a, keys := b }, q) by rw [dJ.out, hx]; rfl); clear hx dJ; rintro e w3 ⟨v, rfl, ee, cB, cy⟩; obtain ⟨an, cn, rfl⟩ := ee.slice; have eQ := (cy.block _ (by omega) dt).trans H4U2.out; have eJ := (cy.block _ (by omega) hn5b).trans H5U2.out; have hs3 := cy.size; obtain ⟨p0, p1, p2, p3, p4, p5, p6, p7⟩ := bx8 eJ; obtain ⟨t0, t1, t2, t3, t4, t5, t6, t7⟩ := bz8 eJ; obtain ⟨U3, cH⟩ : ∃ U3, U3 = setAll w3 w1.heap.size 3 [.slice an a.length cn] := ⟨_, rfl⟩; have fe : Below w1.heap.size w3 U3 := by rw [cH]; exact jg (ai _) _ _ _ _ (ay _ _)
           have hz3 : U3.heap.size = w3.heap.size := by rw [cH]; exact zk _ _ _
           have h5u3 : U3.heap[w1.heap.size]? = some (.cells #[.int .i64 6, .int .i64 ((x.1 : Nat) : Int), .int .i64 ((x.2 : Nat) : Int), .slice an a.length cn, .slice none 0 0, .bool false, .int .i64 0, .slice none 0 0] 199) := by
             rw [cH, jy _ _ _ _ eJ]
             simp [qR]
           have h4u3 : U3.heap[w.heap.size]? = some (.cells jeS 199) := (fe.block _ cF).trans eQ; have iA := hid (show TxtsM (newB U2.heap.size) U3 (.slice an a.length cn) a by
             rw [cH]; exact TxtsM.imp ee (fun _ h => h) (jm (fun k hk => by have : U2.heap.size <= k := hk; omega) _ _ _ _ (Keeps.refl _ _)))
           have mU := hid (cB.under fe im); have iM := hid ((iL.out.trans cy).low (fe.mono (by omega))); have HU3E := hid (show _ = _ from cH); simp only [setAll] at HU3E; have H5U3 := hid h5u3; have H4U3 := hid h4u3; clear cB cy eQ eJ cH fe h5u3 h4u3 ee g0 g1 g2 g3 g4 g5 g6 g7 y0 y1 y2 y3 y4 y5 y6 y7; go_wp2_with fail; rw [<- HU3E.out]; refine (vw b A C L q3 U3 mU.out).mono ?_; cases hx : ze q3 with
           | error m =>
             have HE := hid (show jF (n + 1) d r = .error m by rw [gd.out, hx]; rfl); clear hx; rintro e w4 ⟨rfl, cf⟩; have ch := hid (iM.out.trans cf); clear cf; go_wp2; rw [HE.out]; exact ⟨rfl, rfl, ch.out⟩
           | ok y =>
             obtain ⟨c, q4⟩ := y; have HE := hid (show jF (n + 1) d r = .ok ({ jZ with kind := (6 : Nat), mat := x.1, part := x.2, names := a, keys := c }, q4) by rw [gd.out, hx]; rfl); clear hx gd; rintro e w4 ⟨v, rfl, dM, cK, cf⟩; obtain ⟨ak, ck, rfl⟩ := dM.slice; have eX := (cf.block _ (by omega) dt).trans H4U3.out; have gf := (cf.block _ (by omega) hn5b).trans H5U3.out; have eT := cf.size; obtain ⟨a0, a1, a2, a3, a4, a5, a6, a7⟩ := bx8 eX; obtain ⟨z0, z1, z2, z3, z4, z5, z6, z7⟩ := bz8 eX; obtain ⟨g0, g1, g2, g3, g4, g5, g6, g7⟩ := bx8 gf; obtain ⟨y0, y1, y2, y3, y4, y5, y6, y7⟩ := bz8 gf; have dm := hid cK; have ch := hid (iM.out.trans cf); have gX := hid dM; have iX := hid (show TxtsM (newB U2.heap.size) w4 (.slice an a.length cn) a from TxtsM.imp iA.out (fun _ h => h) (Keeps.of_but cf fun k hk => by have : U2.heap.size <= k := hk; omega)); have H4u := hid ((zg eG [.slice ak c.length ck] 4 w4).trans eX); have fp := hid (jg (show w.heap.size <= w1.heap.size by omega) [.slice ak c.length ck] 4 w4 w4 (ay w.heap.size w4)); have gE := hid (jm (Q := newB U2.heap.size) (b := w.heap.size) (fun k hk => by have : U2.heap.size <= k := hk; omega) [.int .i64 6, .int .i64 ((x.1 : Nat) : Int), .int .i64 ((x.2 : Nat) : Int), .slice an a.length cn, .slice ak c.length ck, .bool false, .int .i64 0, .slice none 0 0] 0 _ w4 (jm (b := w1.heap.size) (fun k hk => by have : U2.heap.size <= k := hk; omega) [.slice ak c.length ck] 4 w4 w4 (Keeps.refl _ _))); clear cK cf eX gf dM p0 p1 p2 p3 p4 p5 p6 p7 t0 t1 t2 t3 t4 t5 t6 t7; go_wp2; have b1 := jy [.int .i64 6, .int .i64 ((x.1 : Nat) : Int), .int .i64 ((x.2 : Nat) : Int), .slice an a.length cn, .slice ak c.length ck, .bool false, .int .i64 0, .slice none 0 0] 0 _ _ H4u.out; rw [put8] at b1; have b4 := jg (ai w.heap.size) [.int .i64 6, .int .i64 ((x.1 : Nat) : Int), .int .i64 ((x.2 : Nat) : Int), .slice an a.length cn, .slice ak c.length ck, .bool false, .int .i64 0, .slice none 0 0] 0 _ _ fp.out; have kp := gE.out; simp only [setAll] at b1 b4 kp; obtain ⟨m0, m1, m2, m3, m4, m5, m6, m7⟩ := bx8 b1; refine aD (v := .agg #[.int .i64 6, .int .i64 ((x.1 : Nat) : Int), .int .i64 ((x.2 : Nat) : Int), .slice an a.length cn, .slice ak c.length ck, .bool false, .int .i64 0, .slice none 0 0]) (by simp only [results, Tryz.results190]; simp [go_sem, m0, m1, m2, m3, m4, m5, m6, m7]) rfl ?_; rw [HE.out]; exact ⟨_, rfl, ⟨[.int .i64 6, .int .i64 ((x.1 : Nat) : Int), .int .i64 ((x.2 : Nat) : Int), .slice an a.length cn, .slice ak c.length ck, .bool false, .int .i64 0, .slice none 0 0], rfl, ⟨_, _, _, rfl, TxtsM.imp iX.out (fun k hk => by have : U2.heap.size <= k := hk; show w.heap.size <= k; omega) kp, TxtsM.imp (TxtsM.imp gX.out (fun k hk => by have : U3.heap.size <= k := hk; show U2.heap.size <= k; omega) (Keeps.refl _ _)) (fun k hk => by have : U2.heap.size <= k := hk; show w.heap.size <= k; omega) kp, jh _ _ _ _ _ _⟩⟩, dm.out.under b4 hbl, ch.out.low b4⟩
     . have HQ := hid (show jF (n + 1) d r = jo (zU true q 0 0) fun mp q => jo (ze q) fun a q => jo (ze q) fun b q => .ok ({ jZ with kind := (k : Nat), mat := mp.1, part := mp.2, names := a, keys := b }, q) by
        rw [jF, hk]
        rcases k78 with rfl | rfl <;> rfl)
       have c3 : ((k : Int) == 3) = false := by rw [bA]; omega
       have c4 : ((k : Int) == 4) = false := by rw [bA]; omega
       have c5 : ((k : Int) == 5) = false := by rw [bA]; omega
       have c6 : ((k : Int) == 6) = false := by rw [bA]; omega
       have hsw : ((k : Int) == 7) = true ∨ (((k : Int) == 7) = false /\ ((k : Int) == 8) = true) := by rcases k78 with rfl | rfl <;> decide
       have d6 : ((k : Int) != 6) = true := by rcases k78 with rfl | rfl <;> decide
       have e6 : ¬ (k : Int) = 6 := by omega
       clear hk k3 k45 k78
       rcases hsw with h1 | ⟨h1, h2⟩
       all_goals
        obtain ⟨V1, hV1⟩ : ∃ V1, V1 = w1.alloc (.cells #[.int .i64 (k : Nat), .int .i64 0, .int .i64 0, .slice none 0 0, .slice none 0 0, .bool false, .int .i64 0, .slice none 0 0] 199) := ⟨_, rfl⟩; have cr : Below w1.heap.size w1 V1 := by rw [hV1]; exact nb0 _ _
        have H5V := hid (show V1.heap[w1.heap.size]? = some (.cells #[.int .i64 (k : Nat), .int .i64 0, .int .i64 0, .slice none 0 0, .slice none 0 0, .bool false, .int .i64 0, .slice none 0 0] 199) by rw [hV1]; exact az w1 _); have cL : w1.heap.size < V1.heap.size := by rw [hV1]; simp
        have dT := hid hV1; have H4V := hid ((cr.block _ cF).trans iw.out); have eH := hid (cC.out.next cr); have cU := hid (bX.out.trans (But.of cr)); have fT := hid (cO.out.next cr); clear hV1 cr a0 a1 a2 a3 a4 a5 a6 a7 z0 z1 z2 z3 z4 z5 z6 z7; go_wp2_with fail; rw [<- dT.out]; refine (jfN b A C L q true V1 eH.out fT.out hG).mono ?_; cases hx : zU true q 0 0 with
        | error m =>
          have HE := hid (show jF (n + 1) d r = .error m by rw [HQ.out, hx]; rfl); clear hx; rintro e w2 ⟨rfl, b7⟩; have bY := hid (cU.out.trans b7); clear b7; go_wp2; rw [HE.out]; exact ⟨rfl, rfl, bY.out⟩
        | ok y =>
          obtain ⟨x, q2⟩ := y; have dJ := hid (show jF (n + 1) d r = jo (ze q2) fun a q => jo (ze q) fun b q => .ok ({ jZ with kind := (k : Nat), mat := x.1, part := x.2, names := a, keys := b }, q) by rw [HQ.out, hx]; rfl); clear hx HQ; rintro e w2 ⟨v, rfl, rfl, cA, b7⟩; have cZ := (b7.block _ (Nat.lt_trans cF cL) dt).trans H4V.out; have cW := (b7.block _ cL hn5b).trans H5V.out; have hs2 := b7.size; obtain ⟨g0, g1, g2, g3, g4, g5, g6, g7⟩ := bx8 cW; obtain ⟨y0, y1, y2, y3, y4, y5, y6, y7⟩ := bz8 cW; obtain ⟨U2, cG⟩ : ∃ U2, U2 = setAll w2 w1.heap.size 1 [.int .i64 ((x.1 : Nat) : Int), .int .i64 ((x.2 : Nat) : Int)] := ⟨_, rfl⟩; have fb : Below w1.heap.size w2 U2 := by rw [cG]; exact jg (ai _) _ _ _ _ (ay _ _)
          have hz2 : U2.heap.size = w2.heap.size := by rw [cG]; exact zk _ _ _
          have h5u2 : U2.heap[w1.heap.size]? = some (.cells #[.int .i64 (k : Nat), .int .i64 ((x.1 : Nat) : Int), .int .i64 ((x.2 : Nat) : Int), .slice none 0 0, .slice none 0 0, .bool false, .int .i64 0, .slice none 0 0] 199) := by
           rw [cG, jy _ _ _ _ cW]
           simp [qR]
          have h4u2 : U2.heap[w.heap.size]? = some (.cells jeS 199) := (fb.block _ cF).trans cZ; have mT := hid (cA.under fb im); have iL := hid ((cU.out.trans b7).low (fb.mono (by omega))); have HU2E := hid (show _ = _ from cG); simp only [setAll] at HU2E; have H5U2 := hid h5u2; have H4U2 := hid h4u2; clear cA b7 cZ cW cG fb h5u2 h4u2; go_wp2_with fail; rw [<- HU2E.out]; refine (vw b A C L q2 U2 mT.out).mono ?_; cases hx : ze q2 with
          | error m =>
            have HE := hid (show jF (n + 1) d r = .error m by rw [dJ.out, hx]; rfl); clear hx; rintro e w3 ⟨rfl, cy⟩; have bZ := hid (iL.out.trans cy); clear cy; go_wp2; rw [HE.out]; exact ⟨rfl, rfl, bZ.out⟩
          | ok y =>
            obtain ⟨a, q3⟩ := y; have gd := hid (show jF (n + 1) d r = jo (ze q3) fun b q => .ok ({ jZ with kind := (k : Nat), mat := x.1, part := x.2, names := a, keys := b }, q) by rw [dJ.out, hx]; rfl); clear hx dJ; rintro e w3 ⟨v, rfl, ee, cB, cy⟩; obtain ⟨an, cn, rfl⟩ := ee.slice; have eQ := (cy.block _ (by omega) dt).trans H4U2.out; have eJ := (cy.block _ (by omega) hn5b).trans H5U2.out; have hs3 := cy.size; obtain ⟨p0, p1, p2, p3, p4, p5, p6, p7⟩ := bx8 eJ; obtain ⟨t0, t1, t2, t3, t4, t5, t6, t7⟩ := bz8 eJ; obtain ⟨U3, cH⟩ : ∃ U3, U3 = setAll w3 w1.heap.size 3 [.slice an a.length cn] := ⟨_, rfl⟩; have fe : Below w1.heap.size w3 U3 := by rw [cH]; exact jg (ai _) _ _ _ _ (ay _ _)
            have hz3 : U3.heap.size = w3.heap.size := by rw [cH]; exact zk _ _ _
            have h5u3 : U3.heap[w1.heap.size]? = some (.cells #[.int .i64 (k : Nat), .int .i64 ((x.1 : Nat) : Int), .int .i64 ((x.2 : Nat) : Int), .slice an a.length cn, .slice none 0 0, .bool false, .int .i64 0, .slice none 0 0] 199) := by
               rw [cH, jy _ _ _ _ eJ]
               simp [qR]
            have h4u3 : U3.heap[w.heap.size]? = some (.cells jeS 199) := (fe.block _ cF).trans eQ; have iA := hid (show TxtsM (newB U2.heap.size) U3 (.slice an a.length cn) a by
               rw [cH]; exact TxtsM.imp ee (fun _ h => h) (jm (fun k hk => by have : U2.heap.size <= k := hk; omega) _ _ _ _ (Keeps.refl _ _)))
            have mU := hid (cB.under fe im); have iM := hid ((iL.out.trans cy).low (fe.mono (by omega))); have HU3E := hid (show _ = _ from cH); simp only [setAll] at HU3E; have H5U3 := hid h5u3; have H4U3 := hid h4u3; clear cB cy eQ eJ cH fe h5u3 h4u3 ee g0 g1 g2 g3 g4 g5 g6 g7 y0 y1 y2 y3 y4 y5 y6 y7; go_wp2_with fail; rw [<- HU3E.out]; refine (vw b A C L q3 U3 mU.out).mono ?_; cases hx : ze q3 with
            | error m =>
              have HE := hid (show jF (n + 1) d r = .error m by rw [gd.out, hx]; rfl); clear hx; rintro e w4 ⟨rfl, cf⟩; have ch := hid (iM.out.trans cf); clear cf; go_wp2; rw [HE.out]; exact ⟨rfl, rfl, ch.out⟩
            | ok y =>
              obtain ⟨c, q4⟩ := y; have HE := hid (show jF (n + 1) d r = .ok ({ jZ with kind := (k : Nat), mat := x.1, part := x.2, names := a, keys := c }, q4) by rw [gd.out, hx]; rfl); clear hx gd; rintro e w4 ⟨v, rfl, dM, cK, cf⟩; obtain ⟨ak, ck, rfl⟩ := dM.slice; have eX := (cf.block _ (by omega) dt).trans H4U3.out; have gf := (cf.block _ (by omega) hn5b).trans H5U3.out; have eT := cf.size; obtain ⟨a0, a1, a2, a3, a4, a5, a6, a7⟩ := bx8 eX; obtain ⟨z0, z1, z2, z3, z4, z5, z6, z7⟩ := bz8 eX; obtain ⟨g0, g1, g2, g3, g4, g5, g6, g7⟩ := bx8 gf; obtain ⟨y0, y1, y2, y3, y4, y5, y6, y7⟩ := bz8 gf; have dm := hid cK; have ch := hid (iM.out.trans cf); have gX := hid dM; have iX := hid (show TxtsM (newB U2.heap.size) w4 (.slice an a.length cn) a from TxtsM.imp iA.out (fun _ h => h) (Keeps.of_but cf fun k hk => by have : U2.heap.size <= k := hk; omega)); have H4u := hid ((zg eG [.slice ak c.length ck] 4 w4).trans eX); have fp := hid (jg (show w.heap.size <= w1.heap.size by omega) [.slice ak c.length ck] 4 w4 w4 (ay w.heap.size w4)); have gE := hid (jm (Q := newB U2.heap.size) (b := w.heap.size) (fun k hk => by have : U2.heap.size <= k := hk; omega) [.int .i64 (k : Nat), .int .i64 ((x.1 : Nat) : Int), .int .i64 ((x.2 : Nat) : Int), .slice an a.length cn, .slice ak c.length ck, .bool false, .int .i64 0, .slice none 0 0] 0 _ w4 (jm (b := w1.heap.size) (fun k hk => by have : U2.heap.size <= k := hk; omega) [.slice ak c.length ck] 4 w4 w4 (Keeps.refl _ _))); clear cK cf eX gf dM p0 p1 p2 p3 p4 p5 p6 p7 t0 t1 t2 t3 t4 t5 t6 t7; go_wp2; have b1 := jy [.int .i64 (k : Nat), .int .i64 ((x.1 : Nat) : Int), .int .i64 ((x.2 : Nat) : Int), .slice an a.length cn, .slice ak c.length ck, .bool false, .int .i64 0, .slice none 0 0] 0 _ _ H4u.out; rw [put8] at b1; have b4 := jg (ai w.heap.size) [.int .i64 (k : Nat), .int .i64 ((x.1 : Nat) : Int), .int .i64 ((x.2 : Nat) : Int), .slice an a.length cn, .slice ak c.length ck, .bool false, .int .i64 0, .slice none 0 0] 0 _ _ fp.out; have kp := gE.out; simp only [setAll] at b1 b4 kp; obtain ⟨m0, m1, m2, m3, m4, m5, m6, m7⟩ := bx8 b1; refine aD (v := .agg #[.int .i64 (k : Nat), .int .i64 ((x.1 : Nat) : Int), .int .i64 ((x.2 : Nat) : Int), .slice an a.length cn, .slice ak c.length ck, .bool false, .int .i64 0, .slice none 0 0]) (by simp only [results, Tryz.results190]; simp [go_sem, m0, m1, m2, m3, m4, m5, m6, m7]) rfl ?_; rw [HE.out]; exact ⟨_, rfl, ⟨[.int .i64 (k : Nat), .int .i64 ((x.1 : Nat) : Int), .int .i64 ((x.2 : Nat) : Int), .slice an a.length cn, .slice ak c.length ck, .bool false, .int .i64 0, .slice none 0 0], rfl, ⟨_, _, _, rfl, TxtsM.imp iX.out (fun k hk => by have : U2.heap.size <= k := hk; show w.heap.size <= k; omega) kp, TxtsM.imp (TxtsM.imp gX.out (fun k hk => by have : U3.heap.size <= k := hk; show U2.heap.size <= k; omega) (Keeps.refl _ _)) (fun k hk => by have : U2.heap.size <= k := hk; show w.heap.size <= k; omega) kp, jh _ _ _ _ _ _⟩⟩, dm.out.under b4 hbl, ch.out.low b4⟩
   by_cases k9 : k = 9
   . subst k9; have HQ := hid (show jF (n + 1) d r = jo (ze q) fun a q => .ok ({ jZ with kind := 9, names := a }, q) by
        rw [jF, hk]; rfl)
     clear hk; obtain ⟨V1, hV1⟩ : ∃ V1, V1 = w1.alloc (.cells #[.int .i64 9, .int .i64 0, .int .i64 0, .slice none 0 0, .slice none 0 0, .bool false, .int .i64 0, .slice none 0 0] 199) := ⟨_, rfl⟩; have cr : Below w1.heap.size w1 V1 := by rw [hV1]; exact nb0 _ _
     have H5V := hid (show V1.heap[w1.heap.size]? = some (.cells #[.int .i64 9, .int .i64 0, .int .i64 0, .slice none 0 0, .slice none 0 0, .bool false, .int .i64 0, .slice none 0 0] 199) by rw [hV1]; exact az w1 _); have cL : w1.heap.size < V1.heap.size := by rw [hV1]; simp
     have dT := hid hV1; have H4V := hid ((cr.block _ cF).trans iw.out); have eH := hid (cC.out.next cr); have cU := hid (bX.out.trans (But.of cr)); have fT := hid (cO.out.next cr); clear hV1 cr a0 a1 a2 a3 a4 a5 a6 a7 z0 z1 z2 z3 z4 z5 z6 z7; go_wp2_with fail; rw [<- dT.out]; refine (vw b A C L q V1 eH.out).mono ?_; cases hx : ze q with
     | error m =>
       have HE := hid (show jF (n + 1) d r = .error m by rw [HQ.out, hx]; rfl); clear hx; rintro e w2 ⟨rfl, b7⟩; have bY := hid (cU.out.trans b7); clear b7; go_wp2; rw [HE.out]; exact ⟨rfl, rfl, bY.out⟩
     | ok y =>
       obtain ⟨x, q2⟩ := y; have HE := hid (show jF (n + 1) d r = .ok ({ jZ with kind := 9, names := x }, q2) by rw [HQ.out, hx]; rfl); clear hx; rintro e w2 ⟨v, rfl, hT, cA, b7⟩; obtain ⟨an, cn, rfl⟩ := hT.slice; have HT := hid hT; clear hT; have cZ := (b7.block _ (Nat.lt_trans cF cL) dt).trans H4V.out; have cW := (b7.block _ cL hn5b).trans H5V.out; have hs2 := b7.size; obtain ⟨a0, a1, a2, a3, a4, a5, a6, a7⟩ := bx8 cZ; obtain ⟨z0, z1, z2, z3, z4, z5, z6, z7⟩ := bz8 cZ; obtain ⟨g0, g1, g2, g3, g4, g5, g6, g7⟩ := bx8 cW; obtain ⟨y0, y1, y2, y3, y4, y5, y6, y7⟩ := bz8 cW; have cD := hid cA; have bY := hid (cU.out.trans b7); have H4u := hid ((zg eG [.slice an x.length cn] 3 w2).trans cZ); have fp := hid (jg (show w.heap.size <= w1.heap.size by omega) [.slice an x.length cn] 3 w2 w2 (ay w.heap.size w2)); have gE := hid (jm (Q := newB V1.heap.size) (b := w.heap.size) (fun k hk => by have : V1.heap.size <= k := hk; omega) [.int .i64 9, .int .i64 0, .int .i64 0, .slice an x.length cn, .slice none 0 0, .bool false, .int .i64 0, .slice none 0 0] 0 _ w2 (jm (b := w1.heap.size) (fun k hk => by have : V1.heap.size <= k := hk; omega) [.slice an x.length cn] 3 w2 w2 (Keeps.refl _ _))); clear cA b7 cZ cW; go_wp2; have b1 := jy [.int .i64 9, .int .i64 0, .int .i64 0, .slice an x.length cn, .slice none 0 0, .bool false, .int .i64 0, .slice none 0 0] 0 _ _ H4u.out; rw [put8] at b1; have b4 := jg (ai w.heap.size) [.int .i64 9, .int .i64 0, .int .i64 0, .slice an x.length cn, .slice none 0 0, .bool false, .int .i64 0, .slice none 0 0] 0 _ _ fp.out; have kp := gE.out; simp only [setAll] at b1 b4 kp; obtain ⟨m0, m1, m2, m3, m4, m5, m6, m7⟩ := bx8 b1; refine aD (v := .agg #[.int .i64 9, .int .i64 0, .int .i64 0, .slice an x.length cn, .slice none 0 0, .bool false, .int .i64 0, .slice none 0 0]) (by simp only [results, Tryz.results190]; simp [go_sem, m0, m1, m2, m3, m4, m5, m6, m7]) rfl ?_; rw [HE.out]; exact ⟨_, rfl, ⟨[.int .i64 9, .int .i64 0, .int .i64 0, .slice an x.length cn, .slice none 0 0, .bool false, .int .i64 0, .slice none 0 0], rfl, ⟨_, _, _, rfl, TxtsM.imp HT.out (fun k hk => by have : V1.heap.size <= k := hk; show w.heap.size <= k; omega) kp, jh _ _ _ _ _ _, jh _ _ _ _ _ _⟩⟩, cD.out.under b4 hbl, bY.out.low b4⟩
   by_cases k10 : k = 10
   . subst k10; have HQ := hid (show jF (n + 1) d r = jo (qr q) fun b q => .ok ({ jZ with kind := 10, over := b.1, limit := b.2 }, q) by
        rw [jF, hk]; rfl)
     clear hk; obtain ⟨V1, hV1⟩ : ∃ V1, V1 = w1.alloc (.cells #[.int .i64 10, .int .i64 0, .int .i64 0, .slice none 0 0, .slice none 0 0, .bool false, .int .i64 0, .slice none 0 0] 199) := ⟨_, rfl⟩; have cr : Below w1.heap.size w1 V1 := by rw [hV1]; exact nb0 _ _
     have H5V := hid (show V1.heap[w1.heap.size]? = some (.cells #[.int .i64 10, .int .i64 0, .int .i64 0, .slice none 0 0, .slice none 0 0, .bool false, .int .i64 0, .slice none 0 0] 199) by rw [hV1]; exact az w1 _); have cL : w1.heap.size < V1.heap.size := by rw [hV1]; simp
     have dT := hid hV1; have H4V := hid ((cr.block _ cF).trans iw.out); have eH := hid (cC.out.next cr); have cU := hid (bX.out.trans (But.of cr)); have fT := hid (cO.out.next cr); clear hV1 cr a0 a1 a2 a3 a4 a5 a6 a7 z0 z1 z2 z3 z4 z5 z6 z7; go_wp2_with fail; rw [<- dT.out]; refine (jjm b A C L q V1 eH.out).mono ?_; cases hx : qr q with
     | error m =>
       have HE := hid (show jF (n + 1) d r = .error m by rw [HQ.out, hx]; rfl); clear hx; rintro e w2 ⟨rfl, b7⟩; have bY := hid (cU.out.trans b7); clear b7; go_wp2; rw [HE.out]; exact ⟨rfl, rfl, bY.out⟩
     | ok y =>
       obtain ⟨x, q2⟩ := y; have HE := hid (show jF (n + 1) d r = .ok ({ jZ with kind := 10, over := x.1, limit := x.2 }, q2) by rw [HQ.out, hx]; rfl); clear hx; rintro e w2 ⟨v, rfl, rfl, cA, b7⟩; have cZ := (b7.block _ (Nat.lt_trans cF cL) dt).trans H4V.out; have cW := (b7.block _ cL hn5b).trans H5V.out; have hs2 := b7.size; obtain ⟨a0, a1, a2, a3, a4, a5, a6, a7⟩ := bx8 cZ; obtain ⟨z0, z1, z2, z3, z4, z5, z6, z7⟩ := bz8 cZ; obtain ⟨g0, g1, g2, g3, g4, g5, g6, g7⟩ := bx8 cW; obtain ⟨y0, y1, y2, y3, y4, y5, y6, y7⟩ := bz8 cW; have cD := hid cA; have bY := hid (cU.out.trans b7); have H4u := hid ((zg eG [.bool x.1, .int .i64 x.2] 5 w2).trans cZ); have fp := hid (jg (show w.heap.size <= w1.heap.size by omega) [.bool x.1, .int .i64 x.2] 5 w2 w2 (ay w.heap.size w2)); have gE := hid (jm (Q := newB V1.heap.size) (b := w.heap.size) (fun k hk => by have : V1.heap.size <= k := hk; omega) [.int .i64 10, .int .i64 0, .int .i64 0, .slice none 0 0, .slice none 0 0, .bool x.1, .int .i64 x.2, .slice none 0 0] 0 _ w2 (jm (b := w1.heap.size) (fun k hk => by have : V1.heap.size <= k := hk; omega) [.bool x.1, .int .i64 x.2] 5 w2 w2 (Keeps.refl _ _))); clear cA b7 cZ cW; go_wp2; have b1 := jy [.int .i64 10, .int .i64 0, .int .i64 0, .slice none 0 0, .slice none 0 0, .bool x.1, .int .i64 x.2, .slice none 0 0] 0 _ _ H4u.out; rw [put8] at b1; have b4 := jg (ai w.heap.size) [.int .i64 10, .int .i64 0, .int .i64 0, .slice none 0 0, .slice none 0 0, .bool x.1, .int .i64 x.2, .slice none 0 0] 0 _ _ fp.out; have kp := gE.out; simp only [setAll] at b1 b4 kp; obtain ⟨m0, m1, m2, m3, m4, m5, m6, m7⟩ := bx8 b1; refine aD (v := .agg #[.int .i64 10, .int .i64 0, .int .i64 0, .slice none 0 0, .slice none 0 0, .bool x.1, .int .i64 x.2, .slice none 0 0]) (by simp only [results, Tryz.results190]; simp [go_sem, m0, m1, m2, m3, m4, m5, m6, m7]) rfl ?_; rw [HE.out]; exact ⟨_, rfl, ⟨[.int .i64 10, .int .i64 0, .int .i64 0, .slice none 0 0, .slice none 0 0, .bool x.1, .int .i64 x.2, .slice none 0 0], rfl, ⟨_, _, _, rfl, jh _ _ _ _ _ _, jh _ _ _ _ _ _, jh _ _ _ _ _ _⟩⟩, cD.out.under b4 hbl, bY.out.low b4⟩
   have HE := hid (show jF (n + 1) d r = .ok ({ jZ with kind := k }, q) by
    rw [jF, hk]
    show (if _ then _ else if _ then _ else if _ then _ else if _ then _ else if _ then _ else _) = _
    rw [if_neg k3, if_neg k45, if_neg k678, if_neg k9, if_neg k10])
   have c3 : ((k : Int) == 3) = false := by rw [bA]; omega
   have c4 : ((k : Int) == 4) = false := by rw [bA]; omega
   have c5 : ((k : Int) == 5) = false := by rw [bA]; omega
   have c6 : ((k : Int) == 6) = false := by rw [bA]; omega
   have c7 : ((k : Int) == 7) = false := by rw [bA]; omega
   have c8 : ((k : Int) == 8) = false := by rw [bA]; omega
   have c9 : ((k : Int) == 9) = false := by rw [bA]; omega
   have c10 : ((k : Int) == 10) = false := by rw [bA]; omega
   clear hk k3 k45 k678 k9 k10; have H4u := iw; have fp := hid (ay w.heap.size w1); go_wp2; have CJ : (w1).heap[w.heap.size]? = some (.cells jeS 199) := H4u.out; have CK : Below w.heap.size w1 (w1) := fp.out; obtain ⟨b1, b2, b3, b4, b5⟩ := jmL (t := 199) 0 [(.int .i64 (k : Nat)), (.int .i64 0), (.int .i64 0), (.slice none 0 0), (.slice none 0 0), (.bool false), (.int .i64 0), (.slice none 0 0)] (.cells #[.int .i64 (k : Nat), .int .i64 0, .int .i64 0, .slice none 0 0, .slice none 0 0, .bool false, .int .i64 0, .slice none 0 0] 199) CJ CK (ai _) #[(.int .i64 (k : Nat)), (.int .i64 0), (.int .i64 0), (.slice none 0 0), (.slice none 0 0), (.bool false), (.int .i64 0), (.slice none 0 0)] (put8 _ _ _ _ _ _ _ _); simp only [setAll] at b1 b2 b3 b4 b5; obtain ⟨m0, m1, m2, m3, m4, m5, m6, m7⟩ := bx8 b1; refine aD (v := .agg #[(.int .i64 (k : Nat)), (.int .i64 0), (.int .i64 0), (.slice none 0 0), (.slice none 0 0), (.bool false), (.int .i64 0), (.slice none 0 0)]) (by simp only [results, Tryz.results190]; simp [go_sem, m0, m1, m2, m3, m4, m5, m6, m7]) rfl ?_; rw [HE.out]; exact ⟨_, rfl, ⟨[(.int .i64 (k : Nat)), (.int .i64 0), (.int .i64 0), (.slice none 0 0), (.slice none 0 0), (.bool false), (.int .i64 0), (.slice none 0 0)], rfl, ⟨_, _, _, rfl, jh _ _ _ _ _ _, jh _ _ _ _ _ _, jh _ _ _ _ _ _⟩⟩, cC.out.under b4 hbl, bX.out.low b4⟩
theorem jjp (n : Nat) : RdT n := by
 induction n with
 | zero => intro d b A C L r w _ _ _ h _; omega
 | succ n ih => exact jjv n ih
def RdC (n : Nat) : Prop := ∀ (d : Nat) (b : Nat) (A : Option Addr) (C : Nat) (L r : List Tok) (w : World), RdS w b A C L r -> WordsAt w -> 3 < b -> r.length + 1 < n -> d <= 7 ->
    Calls Tryz.prog 118 #[.pointer (some ⟨b, 0, none⟩), .int .i64 d] w (Rp b w A C L (fun c w' v => CmdR (newB w.heap.size) (n + 1) c w' v) (cmdP n true d r))
def RdBr (n : Nat) : Prop := ∀ (d : Nat) (b : Nat) (A : Option Addr) (C : Nat) (L r : List Tok) (w : World), RdS w b A C L r -> WordsAt w -> 3 < b -> r.length + 1 < n -> d <= 6 ->
    Calls Tryz.prog 156 #[.pointer (some ⟨b, 0, none⟩), .int .i64 d] w (Rp b w A C L (fun c w' v => CmdR (newB w.heap.size) (n + 1) c w' v) (cmdP n false d r))
theorem jj8 {Q : Nat -> Prop} {n : Nat} {t : Cmd} {cs : List Value} (h : CmdM Q n w t cs) : cs.length = 12 := by
 obtain ⟨_, _, _, _, _, _, _, _, _, _, _, _, _, _, rfl, _⟩ := zN h; rfl
theorem jil {f : List Tok -> Rdg Cmd} : qL f (m + 1) acc [] = .error (misP []) := rfl
theorem jgj {f : List Tok -> Rdg Cmd} {q : List Tok} (h : zl 5 [125] r = some q) : qL f (m + 1) acc r = .ok (acc, q) := by rw [qL, h]
theorem jj1 {f : List Tok -> Rdg Cmd} (h : zl 5 [125] (t :: r) = none) : qL f (m + 1) acc (t :: r) = jo (f (t :: r)) fun c q => qL f m (acc ++ [c]) q := by
 rw [qL, h]; rfl
theorem jjx {f : List Tok -> Rdg Cmd} : jav f (m + 1) acc (t :: r) = jo (f (t :: r)) fun c q => jav f m (acc ++ [c]) q := rfl
theorem jfF (n : Nat) (ih : RdC n) (d b : Nat) (A : Option Addr) (C : Nat) (L r : List Tok) (w : World) (h : RdS w b A C L r) (hw : WordsAt w) (hG : 3 < b) (hn : r.length < n) (hd : d <= 7) :
 Calls Tryz.prog 191 #[.pointer (some ⟨b, 0, none⟩), .int .i64 d] w (Rp b w A C L (fun l w' v => CmdsM (newB w.heap.size) (n + 1) w' v l) (zA (cmdP n true d) r)) := by
 have H := hid h; have HW := hid hw; have cR := hid ih; have hbl := h.lt; have hsm := h.small; obtain ⟨i0, hi, hz0, hz1, hz2⟩ := info_parts jkL; clear h hw ih; go_enter Tryz.func191, Tryz.ntmps191; go_wp2_with fail; refine (zB b A C L r 5 [123] w H.out (by omega)).mono ?_; cases gY : jI 5 [123] r with
 | error m =>
   have HE := hid (show zA (cmdP n true d) r = .error m by unfold zA; rw [gY]; rfl); clear gY; rintro e w1 ⟨rfl, b8⟩; have bX := hid b8; clear b8; go_wp2; rw [HE.out]; exact ⟨rfl, rfl, bX.out⟩
 | ok y =>
   obtain ⟨u0, q0⟩ := y; have ir := jH (zC gY); have HL := hid (show zA (cmdP n true d) r = qL (cmdP n true d) (q0.length + 1) [] q0 by unfold zA; rw [gY]; rfl); clear gY; rintro e w1 ⟨v, rfl, rfl, cz, b8⟩; have cC := hid cz; have bX := hid b8; clear cz b8; go_wp2
   go_loopw [5] (fun v wr => ∃ (acc : List Cmd) (q : List Tok) (a0 : Option Addr) (c0 m : Nat), v = .slice a0 acc.length c0 /\ OwnCs w.heap.size (n + 1) wr (.slice a0 acc.length c0) acc /\ RdS wr b A C L q /\ q.length < m /\ q.length + 1 < n /\ acc.length + q.length <= 401 /\
        Hid (zA (cmdP n true d) r = qL (cmdP n true d) m acc q) /\ But b w wr) (fun _ wr => jat b L.length wr)
   case atStart => exact ⟨[], q0, none, 0, q0.length + 1, rfl, OwnRow.nil _ _ _ _ _, cC.out, by omega, by omega, by have := cC.out.len; simp; omega, HL, bX.out⟩
   case round =>
    obtain ⟨acc, q, a0, c0, m, rfl, hO, de, oz, pZ, kh, hN, dd⟩ := hrel; have HO := hid hO; have dR := hid de; have iN := hid dd; have HM := hid (qd de); have rc := dd.size; clear hO de dd; obtain ⟨m, rfl⟩ : ∃ m', m = m' + 1 := ⟨m - 1, by omega⟩; go_wp2_with fail; refine (jdJ b A C L q wr dR.out).mono ?_; rintro e w2 ⟨rfl, hb2⟩; have mV := hid (dR.out.next hb2); have oH := hid (iN.out.trans (But.of hb2)); have dQ := hid (HO.out.keep (qc (n + 1)) (But.of hb2) hbl); clear hb2; cases q with
    | nil =>
      have HF := hid (show zA (cmdP n true d) r = .error (misP []) by rw [hN.out, jil]); have HT := hid (show jI 5 [125] ([] : List Tok) = .error (misP []) from rfl); simp only [List.isEmpty]; go_wp2_with fail; refine (zB b A C L [] 5 [125] w2 mV.out (by omega)).mono ?_; rw [HT.out]; rintro e w3 ⟨rfl, cy⟩; have bZ := hid (oH.out.trans cy); clear cy; go_wp2; rw [HF.out]; exact ⟨rfl, rfl, bZ.out⟩
    | cons t q =>
      simp only [List.isEmpty]; go_wp2_with fail; refine (jdK b A C L (t :: q) 5 [125] w2 mV.out (by omega)).mono ?_; rintro e w3 ⟨rfl, hb3⟩; have cT := hid (mV.out.next hb3); have bZ := hid (oH.out.trans (But.of hb3)); have db := hid (dQ.out.keep (qc (n + 1)) (But.of hb3) hbl); have cP := hid (HW.out.but bZ.out hG); clear hb3; cases hs : zl 5 [125] (t :: q) with
      | some q3 =>
        have HF := hid (show zA (cmdP n true d) r = .ok (acc, q3) by rw [hN.out, jgj hs]); have HT := hid (show jI 5 [125] (t :: q) = .ok ((), q3) by unfold jI; rw [hs]); clear hs; simp only [Option.isSome]; go_wp2_with fail; refine (zB b A C L (t :: q) 5 [125] w3 cT.out (by omega)).mono ?_; rw [HT.out]; rintro e w4 ⟨v, rfl, rfl, cK, cf⟩; have dm := hid cK; have ch := hid (bZ.out.trans cf); have HV := hid (show CmdsM (newB w.heap.size) (n + 1) w4 (.slice a0 acc.length c0) acc from (db.out.keep (qc (n + 1)) cf hbl).rowM (qc (n + 1)) (by unfold maxLen; omega)); clear cK cf; go_wp2; go_ret; rw [HF.out]; exact ⟨_, rfl, HV.out, dm.out, ch.out⟩
      | none =>
        have HE := hid (show zA (cmdP n true d) r = jo (cmdP n true d (t :: q)) fun c q => qL (cmdP n true d) m (acc ++ [c]) q by rw [hN.out, jj1 hs]); clear hs; simp only [Option.isSome]; go_wp2_with fail; refine (cR.out d b A C L (t :: q) w3 cT.out cP.out hG (by omega) hd).mono ?_; cases ht : cmdP n true d (t :: q) with
        | error mm =>
          have HF := hid (show zA (cmdP n true d) r = .error mm by rw [HE.out, ht]; rfl); clear ht; rintro e w4 ⟨rfl, cf⟩; have ch := hid (bZ.out.trans cf); clear cf; go_wp2; rw [HF.out]; exact ⟨rfl, rfl, ch.out⟩
        | ok y =>
          obtain ⟨x2, q2⟩ := y; have dW := jd0 _ _ _ _ _ _ ht; have HF := hid (show zA (cmdP n true d) r = qL (cmdP n true d) m (acc ++ [x2]) q2 by rw [HE.out, ht]; rfl); clear ht; rintro e w4 ⟨v, rfl, ⟨cs2, rfl, dM⟩, cK, cf⟩; obtain ⟨ax, cx, an, cn, ak, ck, at', ct, aa, ca, ae, ce, m02, _, rfl, _⟩ := zN dM; have dm := hid cK; have ch := hid (bZ.out.trans cf); obtain ⟨css, h1, h2, h3, h4⟩ := db.out.keep (qc (n + 1)) cf hbl; have hrow3 : ∀ k, (Value.slice a0 acc.length c0).ownBlock = some k -> k < w3.heap.size := fun k hk => by
           obtain ⟨_, g1, _⟩ := db.out; exact (aA g1 k hk).2
          have gB := ch.out.size; have mA := cf.size; have nH := bZ.out.size; have HX := hid (show CmdM (rowQ w.heap.size w4 (.slice a0 acc.length c0)) (n + 1) w4 x2 [.int .i64 x2.kind, .slice ax x2.texts.length cx, .int .i64 x2.test.kind, .int .i64 x2.test.mat, .int .i64 x2.test.part, .slice an x2.test.names.length cn, .slice ak x2.test.keys.length ck, .bool x2.test.over, .int .i64 x2.test.limit, .slice at' x2.test.tests.length ct, .slice aa x2.thn.length ca, .slice ae x2.els.length ce] from CmdM.imp (fun k hk => by
           have e1 : w3.heap.size <= k := hk.1; have e2 : k < w4.heap.size := hk.2; exact ⟨by omega, e2, fun e => by have := hrow3 k e.symm; omega⟩) (Keeps.refl _ _) _ _ _ (CmdM.both _ _ _ dM))
          have mr := jj8 dM; have fJ := jj9 dM; have H2 := hid h2; have H3 := hid h3; have H4 := hid h4; clear cK cf dM h2 h3 h4
          go_wp2_with (at_builtin; refine wpList_append_lies _ rfl _ _ 94 rfl w.heap.size 201 i0 _ 12 192 Tryz.underlying94 hi hz0 hz1 hz2 rfl (by decide) (.slice a0 acc.length c0) acc.length css.flatten rfl (aO h1 _) ⟨w4.heap.size, 0, none⟩ 1 1 [.int .i64 x2.kind, .slice ax x2.texts.length cx, .int .i64 x2.test.kind, .int .i64 x2.test.mat, .int .i64 x2.test.part, .slice an x2.test.names.length cn, .slice ak x2.test.keys.length ck, .bool x2.test.over, .int .i64 x2.test.limit, .slice at' x2.test.tests.length ct, .slice aa x2.thn.length ca, .slice ae x2.els.length ce] rfl rfl (jpr _ _ _) fJ (by omega) ?c3 ?c4 ?c5 _ rfl ?_)
          case c3 => unfold maxLen; omega
          case c4 => omega
          case c5 => simp; omega
          intro g cap w5 hown' hgrow hat fH; have fC : w4.grownBy w5 (Value.slice a0 acc.length c0).ownBlock := ⟨hgrow.os, hgrow.tape, hgrow.output, by have := hgrow.size; simp at this; omega, fun k hk hn => (hgrow.block k (by simp; omega) hn).trans (by
           show (w4.heap.push _)[k]? = _
           rw [bm hk, aY hk])⟩
          have eO := hid (show OwnCs w.heap.size (n + 1) w5 (.slice (some ⟨g, 0, none⟩) (acc.length + 1) cap) (acc ++ [x2]) from
           OwnRow.more (qc (n + 1)) (v := .slice a0 acc.length c0) (H := w4.heap.size + 1) H2.out H3.out H4.out HX.out rfl hown' fC (by
            rcases hat with e | e
            . exact .inl e.symm
            . exact .inr (by rw [e]; simp [Value.ownBlock])) (by omega))
          have dO : Below w.heap.size w4 w5 := ((ay _ _).alloc gB _).grown hgrow (by simp; omega) (fun j hj => (aA h1 j hj).1); have fw := hid (dm.out.under dO hbl); have dh := hid (ch.out.low dO); have HD := hid (show jat b L.length w5 < jat b L.length wr by rw [qd fw.out, HM.out]; simp at dW ⊢; omega); clear hown' hgrow dO h1 fC hat; go_wp2; exact ⟨⟨acc ++ [x2], q2, some ⟨g, 0, none⟩, cap, m, by first | rfl | simp, by simpa using eO.out, fw.out, by simp at dW oz; omega, by simp at dW pZ; omega, by simp at dW kh ⊢; omega, HF, dh.out⟩, HD.out⟩
def jaC : Array Value := #[.int .i64 0, .slice none 0 0, .int .i64 0, .int .i64 0, .int .i64 0, .slice none 0 0, .slice none 0 0, .bool false, .int .i64 0, .slice none 0 0, .slice none 0 0, .slice none 0 0]
theorem jfE (c0 c1 c2 c3 c4 c5 c6 c7 c8 c9 c10 c11 : Value) : qR jaC 0 [c0, c1, c2, c3, c4, c5, c6, c7, c8, c9, c10, c11] = #[c0, c1, c2, c3, c4, c5, c6, c7, c8, c9, c10, c11] := by simp [qR, jaC]
theorem qV {c0 c1 c2 c3 c4 c5 c6 c7 c8 c9 c10 c11 : Value} {t : TypeId} (h : w.heap[b]? = some (.cells #[c0, c1, c2, c3, c4, c5, c6, c7, c8, c9, c10, c11] t)) : w.cell? ⟨b, 0, none⟩ = some c0 /\ w.cell? ⟨b, 1, none⟩ = some c1 /\ w.cell? ⟨b, 2, none⟩ = some c2 /\ w.cell? ⟨b, 3, none⟩ = some c3 /\ w.cell? ⟨b, 4, none⟩ = some c4 /\ w.cell? ⟨b, 5, none⟩ = some c5 /\ w.cell? ⟨b, 6, none⟩ = some c6 /\ w.cell? ⟨b, 7, none⟩ = some c7 /\ w.cell? ⟨b, 8, none⟩ = some c8 /\ w.cell? ⟨b, 9, none⟩ = some c9 /\ w.cell? ⟨b, 10, none⟩ = some c10 /\ w.cell? ⟨b, 11, none⟩ = some c11 := by
 refine ⟨?_, ?_, ?_, ?_, ?_, ?_, ?_, ?_, ?_, ?_, ?_, ?_⟩ <;> simp [World.cell?, h]
theorem qN {cs : Array Value} {t : TypeId} (h : w.heap[b]? = some (.cells cs t)) (o : Nat) : w.frozen? ⟨b, o, none⟩ = false := by simp [World.frozen?, h]
theorem jlF (n : Nat) (ih : RdBr n) : RdC (n + 1) := by
 intro d b A C L r w h hw hG hn hd; have H := hid h; have HW := hid hw; have cR := hid ih; have hbl := h.lt; have hsm := h.small; clear h hw ih; obtain ⟨W0, hW0⟩ : ∃ W0, W0 = w.alloc (.cells #[.int .i64 0, .slice none 0 0, .int .i64 0, .int .i64 0, .int .i64 0, .slice none 0 0, .slice none 0 0, .bool false, .int .i64 0, .slice none 0 0, .slice none 0 0, .slice none 0 0] 201) := ⟨_, rfl⟩; have cw : Below w.heap.size w W0 := by rw [hW0]; exact nb0 _ _
 have eE : w.heap.size < W0.heap.size := by rw [hW0]; simp
 have kN := hid (show W0.heap[w.heap.size]? = some (.cells jaC 201) by rw [hW0]; exact az w _); have b9 := hid hW0; have cu := hid cw; have dt : w.heap.size ≠ b := by omega
 clear hW0 cw; go_enter Tryz.func118, Tryz.ntmps118; go_wp2_with fail; rw [<- b9.out]; refine (jfL b A C L r 0 d W0 (H.out.next cu.out) (by omega) (HW.out.next cu.out)).mono ?_; cases hk : jaS 0 d r with
 | error m =>
   have HE := hid (show cmdP (n + 1) true d r = .error m by unfold cmdP; rw [hk]; rfl); clear hk; rintro e w1 ⟨rfl, b8⟩; have bX := hid ((But.of cu.out).trans b8); clear b8; go_wp2; rw [HE.out]; exact ⟨rfl, rfl, bX.out⟩
 | ok y =>
   obtain ⟨k, q⟩ := y; have gR := jbj hk; obtain ⟨oq, fF, _⟩ := jee hk; rintro e w1 ⟨v, rfl, rfl, cz, b8⟩; have bX := hid (show But b w w1 from (But.of cu.out).trans b8); have cC := hid cz; have cO := hid (HW.out.but bX.out hG); have kY : w1.heap[w.heap.size]? = some (.cells jaC 201) := (b8.block _ eE dt).trans kN.out; have cF : w.heap.size < w1.heap.size := aK eE b8.size; have im := cz.lt; have iw := hid kY; have eG : w.heap.size ≠ w1.heap.size := by omega
   have hn5b : w1.heap.size ≠ b := by omega
   clear cz b8 kY
   by_cases k2 : k = 2
   . subst k2; have HQ := hid (show cmdP (n + 1) true d r = cmdP n false d q by rw [cmdP, hk]; rfl); clear hk; obtain ⟨V1, hV1⟩ : ∃ V1, V1 = w1.alloc (.cells #[.int .i64 2, .slice none 0 0, .int .i64 0, .int .i64 0, .int .i64 0, .slice none 0 0, .slice none 0 0, .bool false, .int .i64 0, .slice none 0 0, .slice none 0 0, .slice none 0 0] 201) := ⟨_, rfl⟩; have cr : Below w1.heap.size w1 V1 := by rw [hV1]; exact nb0 _ _
     have H5V := hid (show V1.heap[w1.heap.size]? = some (.cells #[.int .i64 2, .slice none 0 0, .int .i64 0, .int .i64 0, .int .i64 0, .slice none 0 0, .slice none 0 0, .bool false, .int .i64 0, .slice none 0 0, .slice none 0 0, .slice none 0 0] 201) by rw [hV1]; exact az w1 _); have cL : w1.heap.size < V1.heap.size := by rw [hV1]; simp
     have dT := hid hV1; have H4V := hid ((cr.block _ cF).trans iw.out); have eH := hid (cC.out.next cr); have cU := hid (bX.out.trans (But.of cr)); have fT := hid (cO.out.next cr); clear hV1 cr; go_wp2_with fail; rw [<- dT.out]; refine (cR.out d b A C L q V1 eH.out fT.out hG (by omega) oq).mono ?_; cases hx : cmdP n false d q with
     | error m =>
       have HE := hid (show cmdP (n + 1) true d r = .error m by rw [HQ.out, hx]); clear hx; rintro e w2 ⟨rfl, b7⟩; have bY := hid (cU.out.trans b7); clear b7; go_wp2; rw [HE.out]; exact ⟨rfl, rfl, bY.out⟩
     | ok y =>
       obtain ⟨x2, q2⟩ := y; have HE := hid (show cmdP (n + 1) true d r = .ok (x2, q2) by rw [HQ.out, hx]); clear hx; rintro e w2 ⟨v, rfl, ⟨cs2, rfl, hT⟩, cA, b7⟩; obtain ⟨ax, cx, an, cn, ak, ck, at', ct, aa, ca, ae, ce, m02, _, rfl, _⟩ := zN hT; have cZ := (b7.block _ (Nat.lt_trans cF cL) dt).trans H4V.out; have hs2 := b7.size; have HT := hid hT; have Ah := hid cZ; have cD := hid cA; have bY := hid (cU.out.trans b7); obtain ⟨a0, a1, a2, a3, a4, a5, a6, a7, a8, a9, a10, a11⟩ := bx12 cZ; obtain ⟨z0, z1, z2, z3, z4, z5, z6, z7, z8, z9, z10, z11⟩ := bz12 cZ; clear cA b7 cZ hT; go_wp2; have b1 := jy [.int .i64 x2.kind, .slice ax x2.texts.length cx, .int .i64 x2.test.kind, .int .i64 x2.test.mat, .int .i64 x2.test.part, .slice an x2.test.names.length cn, .slice ak x2.test.keys.length ck, .bool x2.test.over, .int .i64 x2.test.limit, .slice at' x2.test.tests.length ct, .slice aa x2.thn.length ca, .slice ae x2.els.length ce] 0 (w2) _ Ah.out; rw [jfE] at b1; have b4 := jg (ai w.heap.size) [.int .i64 x2.kind, .slice ax x2.texts.length cx, .int .i64 x2.test.kind, .int .i64 x2.test.mat, .int .i64 x2.test.part, .slice an x2.test.names.length cn, .slice ak x2.test.keys.length ck, .bool x2.test.over, .int .i64 x2.test.limit, .slice at' x2.test.tests.length ct, .slice aa x2.thn.length ca, .slice ae x2.els.length ce] 0 (w2) _ (ay w.heap.size w2); have kp := jm (b := w.heap.size) (fun k hk => by have : V1.heap.size <= k := hk; omega) [.int .i64 x2.kind, .slice ax x2.texts.length cx, .int .i64 x2.test.kind, .int .i64 x2.test.mat, .int .i64 x2.test.part, .slice an x2.test.names.length cn, .slice ak x2.test.keys.length ck, .bool x2.test.over, .int .i64 x2.test.limit, .slice at' x2.test.tests.length ct, .slice aa x2.thn.length ca, .slice ae x2.els.length ce] 0 (w2) _ (Keeps.refl (newB V1.heap.size) w2); simp only [setAll] at b1 b4 kp; obtain ⟨m0, m1, m2, m3, m4, m5, m6, m7, m8, m9, m10, m11⟩ := bx12 b1; refine aD (v := .agg #[.int .i64 x2.kind, .slice ax x2.texts.length cx, .int .i64 x2.test.kind, .int .i64 x2.test.mat, .int .i64 x2.test.part, .slice an x2.test.names.length cn, .slice ak x2.test.keys.length ck, .bool x2.test.over, .int .i64 x2.test.limit, .slice at' x2.test.tests.length ct, .slice aa x2.thn.length ca, .slice ae x2.els.length ce]) (by simp only [results, Tryz.results118]; simp [go_sem, m0, m1, m2, m3, m4, m5, m6, m7, m8, m9, m10, m11]) rfl ?_; rw [HE.out]; exact ⟨_, rfl, ⟨[.int .i64 x2.kind, .slice ax x2.texts.length cx, .int .i64 x2.test.kind, .int .i64 x2.test.mat, .int .i64 x2.test.part, .slice an x2.test.names.length cn, .slice ak x2.test.keys.length ck, .bool x2.test.over, .int .i64 x2.test.limit, .slice at' x2.test.tests.length ct, .slice aa x2.thn.length ca, .slice ae x2.els.length ce], rfl, CmdM.more _ _ _ _ (by omega) (CmdM.imp (fun k hk => by have : V1.heap.size <= k := hk; show w.heap.size <= k; omega) kp _ _ _ HT.out)⟩, cD.out.under b4 hbl, bY.out.low b4⟩
   by_cases k189 : k = 1 ∨ k = 8 ∨ k = 9
   . have HQ := hid (show cmdP (n + 1) true d r = jo (ze q) fun l q => jo (jI 5 [59] q) fun _ q => .ok (⟨(k : Nat), l, jZ, [], []⟩, q) by rw [cmdP, hk]; rcases k189 with rfl | rfl | rfl <;> rfl); have c2 : ((k : Int) == 2) = false := by rw [bA]; omega
     have hsw : ((k : Int) == 1) = true ∨ (((k : Int) == 1) = false /\ ((k : Int) == 8) = true) ∨ (((k : Int) == 1) = false /\ ((k : Int) == 8) = false /\ ((k : Int) == 9) = true) := by rcases k189 with rfl | rfl | rfl <;> decide
     clear hk k2 k189
     rcases hsw with h1 | ⟨h1, h2⟩ | ⟨h1, h2, h3⟩
     all_goals
        obtain ⟨V1, hV1⟩ : ∃ V1, V1 = w1.alloc (.cells #[.int .i64 (k : Nat), .slice none 0 0, .int .i64 0, .int .i64 0, .int .i64 0, .slice none 0 0, .slice none 0 0, .bool false, .int .i64 0, .slice none 0 0, .slice none 0 0, .slice none 0 0] 201) := ⟨_, rfl⟩; have cr : Below w1.heap.size w1 V1 := by rw [hV1]; exact nb0 _ _
        have H5V := hid (show V1.heap[w1.heap.size]? = some (.cells #[.int .i64 (k : Nat), .slice none 0 0, .int .i64 0, .int .i64 0, .int .i64 0, .slice none 0 0, .slice none 0 0, .bool false, .int .i64 0, .slice none 0 0, .slice none 0 0, .slice none 0 0] 201) by rw [hV1]; exact az w1 _); have cL : w1.heap.size < V1.heap.size := by rw [hV1]; simp
        have dT := hid hV1; have H4V := hid ((cr.block _ cF).trans iw.out); have eH := hid (cC.out.next cr); have cU := hid (bX.out.trans (But.of cr)); have fT := hid (cO.out.next cr); clear hV1 cr; go_wp2_with fail; rw [<- dT.out]; refine (vw b A C L q V1 eH.out).mono ?_; cases hx : ze q with
        | error m =>
          have HE := hid (show cmdP (n + 1) true d r = .error m by rw [HQ.out, hx]; rfl); clear hx; rintro e w2 ⟨rfl, b7⟩; have bY := hid (cU.out.trans b7); clear b7; go_wp2; rw [HE.out]; exact ⟨rfl, rfl, bY.out⟩
        | ok y =>
          obtain ⟨x, q2⟩ := y; have dJ := hid (show cmdP (n + 1) true d r = jo (jI 5 [59] q2) fun _ q => .ok (⟨(k : Nat), x, jZ, [], []⟩, q) by rw [HQ.out, hx]; rfl); clear hx; rintro e w2 ⟨v, rfl, hT, cA, b7⟩; obtain ⟨ax, cx, rfl⟩ := hT.slice; have HT := hid hT; have cZ := (b7.block _ (Nat.lt_trans cF cL) dt).trans H4V.out; have cW := (b7.block _ cL hn5b).trans H5V.out; have hs2 := b7.size; have u9 : w1.heap.size < w2.heap.size := by omega
          have g0 := (qV cW).2.1; have y0 := qN cW 1; obtain ⟨X1, cI⟩ : ∃ X1, X1 = w2.setCell ⟨w1.heap.size, 1, none⟩ (.slice ax x.length cx) := ⟨_, rfl⟩; have h4X : X1.heap[w.heap.size]? = some (.cells jaC 201) := by rw [cI]; exact (aC _ _ _ _ eG).trans cZ
          have h5X : X1.heap[w1.heap.size]? = some (.cells #[.int .i64 (k : Nat), .slice ax x.length cx, .int .i64 0, .int .i64 0, .int .i64 0, .slice none 0 0, .slice none 0 0, .bool false, .int .i64 0, .slice none 0 0, .slice none 0 0, .slice none 0 0] 201) := by rw [cI]; have := jk (i := 1) (.slice ax x.length cx) cW; simpa using this
          have gZ : Below w1.heap.size w2 X1 := by rw [cI]; exact (ay _ _).setCell (p := ⟨w1.heap.size, 1, none⟩) (ai _) _
          have py : Keeps (newB V1.heap.size) w2 X1 := by rw [cI]; exact Keeps.set w2 (p := ⟨w1.heap.size, 1, none⟩) _ (fun k hk => by have : V1.heap.size <= k := hk; show k ≠ w1.heap.size; omega)
          have yT := gZ.size; have pc := hid (cA.under gZ (by omega)); have bY := hid ((cU.out.trans b7).low (gZ.mono (by omega))); have i6 := hid cI; have H4X := hid h4X; have H5X := hid h5X; have ti := hid py; clear cA b7 cZ cW hT cI h4X h5X gZ py; go_wp2_with fail; rw [<- i6.out]; refine (zB b A C L q2 5 [59] X1 pc.out (by omega)).mono ?_; cases hy : jI 5 [59] q2 with
          | error m =>
            have HE := hid (show cmdP (n + 1) true d r = .error m by rw [dJ.out, hy]; rfl); clear hy; rintro e w3 ⟨rfl, cy⟩; have bZ := hid (bY.out.trans cy); clear cy; go_wp2; rw [HE.out]; exact ⟨rfl, rfl, bZ.out⟩
          | ok y =>
            obtain ⟨u, q3⟩ := y; have HE := hid (show cmdP (n + 1) true d r = .ok (⟨(k : Nat), x, jZ, [], []⟩, q3) by rw [dJ.out, hy]; rfl); clear hy; rintro e w3 ⟨v, rfl, rfl, cB, cy⟩; have eQ := (cy.block _ (by omega) dt).trans H4X.out; have eJ := (cy.block _ (by omega) hn5b).trans H5X.out; have hs3 := cy.size; have kH := hid eQ; have cT := hid cB; have bZ := hid (bY.out.trans cy); have fk := hid (ti.out.trans (Keeps.of_but cy (fun k hk => by have : V1.heap.size <= k := hk; omega))); obtain ⟨a0, a1, a2, a3, a4, a5, a6, a7, a8, a9, a10, a11⟩ := bx12 eQ; obtain ⟨z0, z1, z2, z3, z4, z5, z6, z7, z8, z9, z10, z11⟩ := bz12 eQ; obtain ⟨g0, g1, g2, g3, g4, g5, g6, g7, g8, g9, g10, g11⟩ := qV eJ; obtain ⟨y0, y1, y2, y3, y4, y5, y6, y7, y8, y9, y10, y11⟩ := bz12 eJ; clear cB cy eQ eJ; go_wp2; have b1 := jy [.int .i64 (k : Nat), .slice ax x.length cx, .int .i64 0, .int .i64 0, .int .i64 0, .slice none 0 0, .slice none 0 0, .bool false, .int .i64 0, .slice none 0 0, .slice none 0 0, .slice none 0 0] 0 (w3) _ kH.out; rw [jfE] at b1; have b4 := jg (ai w.heap.size) [.int .i64 (k : Nat), .slice ax x.length cx, .int .i64 0, .int .i64 0, .int .i64 0, .slice none 0 0, .slice none 0 0, .bool false, .int .i64 0, .slice none 0 0, .slice none 0 0, .slice none 0 0] 0 (w3) _ (ay w.heap.size w3); have kp := jm (b := w.heap.size) (fun k hk => by have : V1.heap.size <= k := hk; omega) [.int .i64 (k : Nat), .slice ax x.length cx, .int .i64 0, .int .i64 0, .int .i64 0, .slice none 0 0, .slice none 0 0, .bool false, .int .i64 0, .slice none 0 0, .slice none 0 0, .slice none 0 0] 0 (w3) _ fk.out; simp only [setAll] at b1 b4 kp; obtain ⟨m0, m1, m2, m3, m4, m5, m6, m7, m8, m9, m10, m11⟩ := bx12 b1; refine aD (v := .agg #[.int .i64 (k : Nat), .slice ax x.length cx, .int .i64 0, .int .i64 0, .int .i64 0, .slice none 0 0, .slice none 0 0, .bool false, .int .i64 0, .slice none 0 0, .slice none 0 0, .slice none 0 0]) (by simp only [results, Tryz.results118]; simp [go_sem, m0, m1, m2, m3, m4, m5, m6, m7, m8, m9, m10, m11]) rfl ?_; rw [HE.out]; exact ⟨_, rfl, ⟨[.int .i64 (k : Nat), .slice ax x.length cx, .int .i64 0, .int .i64 0, .int .i64 0, .slice none 0 0, .slice none 0 0, .bool false, .int .i64 0, .slice none 0 0, .slice none 0 0, .slice none 0 0], rfl, ⟨_, _, _, _, _, _, rfl, TxtsM.imp HT.out (fun k hk => by have : V1.heap.size <= k := hk; show w.heap.size <= k; omega) kp, jen _ _ _, jh _ _ _ _ _ _, jh _ _ _ _ _ _⟩⟩, cT.out.under b4 hbl, bZ.out.low b4⟩
   by_cases k567 : k = 5 ∨ k = 6 ∨ k = 7
   . have HQ := hid (show cmdP (n + 1) true d r = jo (qX q) fun x q => jo (jI 5 [59] q) fun _ q => .ok (⟨(k : Nat), [x], jZ, [], []⟩, q) by rw [cmdP, hk]; rcases k567 with rfl | rfl | rfl <;> rfl); have c1 : ((k : Int) == 1) = false := by rw [bA]; omega
     have c2 : ((k : Int) == 2) = false := by rw [bA]; omega
     have c8 : ((k : Int) == 8) = false := by rw [bA]; omega
     have c9 : ((k : Int) == 9) = false := by rw [bA]; omega
     have hsw : ((k : Int) == 5) = true ∨ (((k : Int) == 5) = false /\ ((k : Int) == 6) = true) ∨ (((k : Int) == 5) = false /\ ((k : Int) == 6) = false /\ ((k : Int) == 7) = true) := by rcases k567 with rfl | rfl | rfl <;> decide
     clear hk k2 k189 k567
     rcases hsw with h1 | ⟨h1, h2⟩ | ⟨h1, h2, h3⟩
     all_goals
        obtain ⟨V1, hV1⟩ : ∃ V1, V1 = w1.alloc (.cells #[.int .i64 (k : Nat), .slice none 0 0, .int .i64 0, .int .i64 0, .int .i64 0, .slice none 0 0, .slice none 0 0, .bool false, .int .i64 0, .slice none 0 0, .slice none 0 0, .slice none 0 0] 201) := ⟨_, rfl⟩; have cr : Below w1.heap.size w1 V1 := by rw [hV1]; exact nb0 _ _
        have H5V := hid (show V1.heap[w1.heap.size]? = some (.cells #[.int .i64 (k : Nat), .slice none 0 0, .int .i64 0, .int .i64 0, .int .i64 0, .slice none 0 0, .slice none 0 0, .bool false, .int .i64 0, .slice none 0 0, .slice none 0 0, .slice none 0 0] 201) by rw [hV1]; exact az w1 _); have cL : w1.heap.size < V1.heap.size := by rw [hV1]; simp
        have dT := hid hV1; have H4V := hid ((cr.block _ cF).trans iw.out); have eH := hid (cC.out.next cr); have cU := hid (bX.out.trans (But.of cr)); have fT := hid (cO.out.next cr); clear hV1 cr; go_wp2_with fail; rw [<- dT.out]; refine (jbw b A C L q V1 eH.out).mono ?_; cases hx : qX q with
        | error m =>
          have HE := hid (show cmdP (n + 1) true d r = .error m by rw [HQ.out, hx]; rfl); clear hx; rintro e w2 ⟨rfl, b7⟩; have bY := hid (cU.out.trans b7); clear b7; go_wp2; rw [HE.out]; exact ⟨rfl, rfl, bY.out⟩
        | ok y =>
          obtain ⟨x, q2⟩ := y; have dJ := hid (show cmdP (n + 1) true d r = jo (jI 5 [59] q2) fun _ q => .ok (⟨(k : Nat), [x], jZ, [], []⟩, q) by rw [HQ.out, hx]; rfl); clear hx; rintro e w2 ⟨v, rfl, rfl, cA, b7⟩; have cZ := (b7.block _ (Nat.lt_trans cF cL) dt).trans H4V.out; have cW := (b7.block _ cL hn5b).trans H5V.out; have hs2 := b7.size; have u9 : w1.heap.size < w2.heap.size := by omega
          have Cl : w.heap.size < w2.heap.size := by omega
          have g0 := (qV cW).2.1; have y0 := qN cW 1; obtain ⟨X1, cI⟩ : ∃ X1, X1 = (w2.setCell ⟨w1.heap.size, 1, none⟩ (.slice (some ⟨w2.heap.size, 0, none⟩) 1 1)).alloc (.cells #[.string (S x)] 9) := ⟨_, rfl⟩; have gZ : Below w1.heap.size w2 X1 := by rw [cI]; exact ((ay _ _).setCell (p := ⟨w1.heap.size, 1, none⟩) (ai _) _).alloc (by simp [World.setCell]; omega) _
          have hat : ∀ (k : Nat) (W : World) (o : Obj), k < W.heap.size -> (W.alloc o).heap[k]? = W.heap[k]? := fun k W o hk => by
            show (W.heap.push o)[k]? = _
            rw [bm hk, aY hk]
          have h4X : X1.heap[w.heap.size]? = some (.cells jaC 201) := by rw [cI, hat _ _ _ (by simp [World.setCell]; omega)]; exact (aC _ _ _ _ eG).trans cZ
          have h5X : X1.heap[w1.heap.size]? = some (.cells #[.int .i64 (k : Nat), .slice (some ⟨w2.heap.size, 0, none⟩) 1 1, .int .i64 0, .int .i64 0, .int .i64 0, .slice none 0 0, .slice none 0 0, .bool false, .int .i64 0, .slice none 0 0, .slice none 0 0, .slice none 0 0] 201) := by rw [cI, hat _ _ _ (by simp [World.setCell]; omega)]; have := jk (i := 1) (.slice (some ⟨w2.heap.size, 0, none⟩) 1 1) cW; simpa using this
          have hT : TxtsM (newB V1.heap.size) X1 (.slice (some ⟨w2.heap.size, 0, none⟩) 1 1) [x] := by
            rw [cI]; have e : (w2.setCell ⟨w1.heap.size, 1, none⟩ (.slice (some ⟨w2.heap.size, 0, none⟩) 1 1)).heap.size = w2.heap.size := by simp [World.setCell]
            have := az (w2.setCell ⟨w1.heap.size, 1, none⟩ (.slice (some ⟨w2.heap.size, 0, none⟩) 1 1)) (.cells #[.string (S x)] 9); rw [e] at this; exact jcr (cs := [.string (S x)]) this rfl hs2 rfl
          have yT := gZ.size; have pc := hid (cA.under gZ (by omega)); have bY := hid ((cU.out.trans b7).low (gZ.mono (by omega))); have i6 := hid cI; have H4X := hid h4X; have H5X := hid h5X; have HT := hid hT; clear cA b7 cZ cW hT cI h4X h5X gZ hat; go_wp2_with fail; rw [<- i6.out]; refine (zB b A C L q2 5 [59] X1 pc.out (by omega)).mono ?_; cases hy : jI 5 [59] q2 with
          | error m =>
            have HE := hid (show cmdP (n + 1) true d r = .error m by rw [dJ.out, hy]; rfl); clear hy; rintro e w3 ⟨rfl, cy⟩; have bZ := hid (bY.out.trans cy); clear cy; go_wp2; rw [HE.out]; exact ⟨rfl, rfl, bZ.out⟩
          | ok y =>
            obtain ⟨u, q3⟩ := y; have HE := hid (show cmdP (n + 1) true d r = .ok (⟨(k : Nat), [x], jZ, [], []⟩, q3) by rw [dJ.out, hy]; rfl); clear hy; rintro e w3 ⟨v, rfl, rfl, cB, cy⟩; have eQ := (cy.block _ (by omega) dt).trans H4X.out; have eJ := (cy.block _ (by omega) hn5b).trans H5X.out; have hs3 := cy.size; have kH := hid eQ; have cT := hid cB; have bZ := hid (bY.out.trans cy); have fk := hid (show Keeps (newB V1.heap.size) X1 w3 from Keeps.of_but cy (fun k hk => by have : V1.heap.size <= k := hk; omega)); obtain ⟨a0, a1, a2, a3, a4, a5, a6, a7, a8, a9, a10, a11⟩ := bx12 eQ; obtain ⟨z0, z1, z2, z3, z4, z5, z6, z7, z8, z9, z10, z11⟩ := bz12 eQ; obtain ⟨g0, g1, g2, g3, g4, g5, g6, g7, g8, g9, g10, g11⟩ := qV eJ; obtain ⟨y0, y1, y2, y3, y4, y5, y6, y7, y8, y9, y10, y11⟩ := bz12 eJ; clear cB cy eQ eJ; go_wp2; have b1 := jy [.int .i64 (k : Nat), .slice (some ⟨w2.heap.size, 0, none⟩) 1 1, .int .i64 0, .int .i64 0, .int .i64 0, .slice none 0 0, .slice none 0 0, .bool false, .int .i64 0, .slice none 0 0, .slice none 0 0, .slice none 0 0] 0 (w3) _ kH.out; rw [jfE] at b1; have b4 := jg (ai w.heap.size) [.int .i64 (k : Nat), .slice (some ⟨w2.heap.size, 0, none⟩) 1 1, .int .i64 0, .int .i64 0, .int .i64 0, .slice none 0 0, .slice none 0 0, .bool false, .int .i64 0, .slice none 0 0, .slice none 0 0, .slice none 0 0] 0 (w3) _ (ay w.heap.size w3); have kp := jm (b := w.heap.size) (fun k hk => by have : V1.heap.size <= k := hk; omega) [.int .i64 (k : Nat), .slice (some ⟨w2.heap.size, 0, none⟩) 1 1, .int .i64 0, .int .i64 0, .int .i64 0, .slice none 0 0, .slice none 0 0, .bool false, .int .i64 0, .slice none 0 0, .slice none 0 0, .slice none 0 0] 0 (w3) _ fk.out; simp only [setAll] at b1 b4 kp; obtain ⟨m0, m1, m2, m3, m4, m5, m6, m7, m8, m9, m10, m11⟩ := bx12 b1; refine aD (v := .agg #[.int .i64 (k : Nat), .slice (some ⟨w2.heap.size, 0, none⟩) 1 1, .int .i64 0, .int .i64 0, .int .i64 0, .slice none 0 0, .slice none 0 0, .bool false, .int .i64 0, .slice none 0 0, .slice none 0 0, .slice none 0 0]) (by simp only [results, Tryz.results118]; simp [go_sem, m0, m1, m2, m3, m4, m5, m6, m7, m8, m9, m10, m11]) rfl ?_; rw [HE.out]; exact ⟨_, rfl, ⟨[.int .i64 (k : Nat), .slice (some ⟨w2.heap.size, 0, none⟩) 1 1, .int .i64 0, .int .i64 0, .int .i64 0, .slice none 0 0, .slice none 0 0, .bool false, .int .i64 0, .slice none 0 0, .slice none 0 0, .slice none 0 0], rfl, ⟨_, _, _, _, _, _, rfl, TxtsM.imp HT.out (fun k hk => by have : V1.heap.size <= k := hk; show w.heap.size <= k; omega) kp, jen _ _ _, jh _ _ _ _ _ _, jh _ _ _ _ _ _⟩⟩, cT.out.under b4 hbl, bZ.out.low b4⟩
   have HQ := hid (show cmdP (n + 1) true d r = jo (jI 5 [59] q) fun _ q => .ok (⟨(k : Nat), [], jZ, [], []⟩, q) by
    rw [cmdP, hk]
    show (if _ then _ else if _ then _ else if _ then _ else _) = _
    rw [if_neg k2, if_neg k189, if_neg k567])
   have c1 : ((k : Int) == 1) = false := by rw [bA]; omega
   have c2 : ((k : Int) == 2) = false := by rw [bA]; omega
   have c5 : ((k : Int) == 5) = false := by rw [bA]; omega
   have c6 : ((k : Int) == 6) = false := by rw [bA]; omega
   have c7 : ((k : Int) == 7) = false := by rw [bA]; omega
   have c8 : ((k : Int) == 8) = false := by rw [bA]; omega
   have c9 : ((k : Int) == 9) = false := by rw [bA]; omega
   clear hk k2 k189 k567; obtain ⟨V1, hV1⟩ : ∃ V1, V1 = w1.alloc (.cells #[.int .i64 (k : Nat), .slice none 0 0, .int .i64 0, .int .i64 0, .int .i64 0, .slice none 0 0, .slice none 0 0, .bool false, .int .i64 0, .slice none 0 0, .slice none 0 0, .slice none 0 0] 201) := ⟨_, rfl⟩; have cr : Below w1.heap.size w1 V1 := by rw [hV1]; exact nb0 _ _
   have H5V := hid (show V1.heap[w1.heap.size]? = some (.cells #[.int .i64 (k : Nat), .slice none 0 0, .int .i64 0, .int .i64 0, .int .i64 0, .slice none 0 0, .slice none 0 0, .bool false, .int .i64 0, .slice none 0 0, .slice none 0 0, .slice none 0 0] 201) by rw [hV1]; exact az w1 _); have cL : w1.heap.size < V1.heap.size := by rw [hV1]; simp
   have dT := hid hV1; have H4V := hid ((cr.block _ cF).trans iw.out); have eH := hid (cC.out.next cr); have cU := hid (bX.out.trans (But.of cr)); have fT := hid (cO.out.next cr); clear hV1 cr; go_wp2_with fail; rw [<- dT.out]; refine (zB b A C L q 5 [59] V1 eH.out (by omega)).mono ?_; cases hy : jI 5 [59] q with
   | error m =>
     have HE := hid (show cmdP (n + 1) true d r = .error m by rw [HQ.out, hy]; rfl); clear hy; rintro e w3 ⟨rfl, cy⟩; have bZ := hid (cU.out.trans cy); clear cy; go_wp2; rw [HE.out]; exact ⟨rfl, rfl, bZ.out⟩
   | ok y =>
     obtain ⟨u, q3⟩ := y; have HE := hid (show cmdP (n + 1) true d r = .ok (⟨(k : Nat), [], jZ, [], []⟩, q3) by rw [HQ.out, hy]; rfl); clear hy; rintro e w3 ⟨v, rfl, rfl, cB, cy⟩; have eQ := (cy.block _ (by omega) dt).trans H4V.out; have eJ := (cy.block _ (by omega) hn5b).trans H5V.out; have hs3 := cy.size; have kH := hid eQ; have cT := hid cB; have bZ := hid (cU.out.trans cy); obtain ⟨a0, a1, a2, a3, a4, a5, a6, a7, a8, a9, a10, a11⟩ := bx12 eQ; obtain ⟨z0, z1, z2, z3, z4, z5, z6, z7, z8, z9, z10, z11⟩ := bz12 eQ; obtain ⟨g0, g1, g2, g3, g4, g5, g6, g7, g8, g9, g10, g11⟩ := qV eJ; obtain ⟨y0, y1, y2, y3, y4, y5, y6, y7, y8, y9, y10, y11⟩ := bz12 eJ; clear cB cy eQ eJ; go_wp2; have b1 := jy [.int .i64 (k : Nat), .slice none 0 0, .int .i64 0, .int .i64 0, .int .i64 0, .slice none 0 0, .slice none 0 0, .bool false, .int .i64 0, .slice none 0 0, .slice none 0 0, .slice none 0 0] 0 (w3) _ kH.out; rw [jfE] at b1; have b4 := jg (ai w.heap.size) [.int .i64 (k : Nat), .slice none 0 0, .int .i64 0, .int .i64 0, .int .i64 0, .slice none 0 0, .slice none 0 0, .bool false, .int .i64 0, .slice none 0 0, .slice none 0 0, .slice none 0 0] 0 (w3) _ (ay w.heap.size w3); simp only [setAll] at b1 b4; obtain ⟨m0, m1, m2, m3, m4, m5, m6, m7, m8, m9, m10, m11⟩ := bx12 b1; refine aD (v := .agg #[.int .i64 (k : Nat), .slice none 0 0, .int .i64 0, .int .i64 0, .int .i64 0, .slice none 0 0, .slice none 0 0, .bool false, .int .i64 0, .slice none 0 0, .slice none 0 0, .slice none 0 0]) (by simp only [results, Tryz.results118]; simp [go_sem, m0, m1, m2, m3, m4, m5, m6, m7, m8, m9, m10, m11]) rfl ?_; rw [HE.out]; exact ⟨_, rfl, ⟨[.int .i64 (k : Nat), .slice none 0 0, .int .i64 0, .int .i64 0, .int .i64 0, .slice none 0 0, .slice none 0 0, .bool false, .int .i64 0, .slice none 0 0, .slice none 0 0, .slice none 0 0], rfl, ⟨_, _, _, _, _, _, rfl, jh _ _ _ _ _ _, jen _ _ _, jh _ _ _ _ _ _, jh _ _ _ _ _ _⟩⟩, cT.out.under b4 hbl, bZ.out.low b4⟩
end Go.Proofs.YtjdkbdkimbgbfaaGreatDoor
