/-
  Just so many batches may wait: one more has no room till the next Sync: walked.
-/
import Derived.Test.YtgooljlpffnaeaaGreatDoorFQPoRn6
namespace Go.Proofs.YtgooljlpffnaeaaGreatDoor
open Go.RowKit Go.Proofs
theorem IntsM.in {Q : Nat → Prop} {w : World} {v : Value} {l : List Int} (h : IntsM Q w v l) : ∃ a c, v = .slice a l.length c ∧ ∀ (i : Nat) x, l[i]? = some x → ∃ b o, a = some ⟨b, o, none⟩ ∧ w.cell? ⟨b, o + i, none⟩ = some (.int .i64 x) := by
 obtain ⟨a, c, hv, _, hr⟩ := h; refine ⟨a, c, hv, fun i x hx => ?_⟩; obtain ⟨b, o, cs, ha, _, _, _, hc, hP⟩ := hr i x hx; have hP : cs = [.int .i64 x] := hP; refine ⟨b, o, ha, ?_⟩; have := hc 0 _ (by rw [hP]; rfl)
 simpa using this
theorem jiu {N : Nat} {w : World} {R : Rom} {vc vs : Value} {ao : Option Addr} {co : Nat} (h : OutM N w R vc (.slice ao 3 co) vs) {l : List Int} (hl : R.orders[0]? = some l) : ∃ b o a c, ao = some ⟨b, o, none⟩ ∧ w.cell? ⟨b, o, none⟩ = some (.slice a l.length c) ∧ ∀ (i : Nat) x, l[i]? = some x → ∃ b' o', a = some ⟨b', o', none⟩ ∧ w.cell? ⟨b', o' + i, none⟩ = some (.int .i64 x) := by
 obtain ⟨a', c', e, _, hr⟩ := h.od; simp only [Value.slice.injEq] at e; obtain ⟨rfl, _, rfl⟩ := e; obtain ⟨b, o, cs, ha, _, _, _, hc, v, rfl, hI⟩ := hr 0 l hl; obtain ⟨a, c, rfl, hat⟩ := hI.in; have h0 := hc 0 _ rfl; simp only [Nat.zero_mul, Nat.add_zero] at h0; exact ⟨b, o, a, c, ha, h0, hat⟩
theorem jit {N : Nat} {w : World} {R : Rom} {vc vo : Value} {as_ : Option Addr} {cs : Nat} (h : OutM N w R vc vo (.slice as_ 3 cs)) {s : Stt} (hs : R.safe[0]? = some s) {bx : Bx} (hb : s.boxes[0]? = some bx) : ∃ b o b1 o1 c1 a2 c2, as_ = some ⟨b, o, none⟩ ∧ w.cell? ⟨b, o, none⟩ = some (.slice (some ⟨b1, o1, none⟩) s.boxes.length c1) ∧ w.cell? ⟨b1, o1 + 2, none⟩ = some (.slice a2 bx.mails.length c2) := by
 obtain ⟨a', c', e, _, hr⟩ := h.sf; simp only [Value.slice.injEq] at e; obtain ⟨rfl, _, rfl⟩ := e; obtain ⟨b, o, ds, ha, _, _, _, hc, vb, vs, rfl, hB, _⟩ := hr 0 s hs; obtain ⟨a1, c1, rfl, _, hr1⟩ := hB; obtain ⟨b1, o1, es, ha1, _, _, _, hc1, v, rfl, hMl⟩ := hr1 0 bx hb; obtain ⟨a2, c2, rfl⟩ := RowM.slice hMl; have h0 := hc 0 _ rfl; have h2 := hc1 2 _ rfl; simp only [Nat.zero_mul, Nat.add_zero] at h0 h2; rw [ha1] at h0; exact ⟨b, o, b1, o1, c1, a2, c2, ha, h0, h2⟩
theorem jiI (j : Nat) : rmLA (j + 1) = rmLA j ++ [ordA [97]] := by unfold rmLA; rw [List.replicate_succ']
theorem jkq {k : Nat} (hk : k < 20) : (rmN k).waits = ((min k 8 : Nat) : Int) ∧ (∃ l, (rmN k).orders[0]? = some l ∧ l.length = k - min k 8) ∧ (∃ l, (rmB k (k + 3)).orders[0]? = some l ∧ l.length = k + 1 ∧ l[k]? = some 0) ∧ ∃ s bx, (rmB k (k + 3)).safe[0]? = some s ∧ s.boxes[0]? = some bx ∧ bx.mails.length = min k 8 + 1 ∧ 0 < s.boxes.length := by
 obtain ⟨h1, _, _, h4, h5⟩ := jg2 hk; unfold jlR at h4; unfold jjV at h5; simp only [Bool.and_eq_true, decide_eq_true_eq] at h4 h5; obtain ⟨⟨⟨⟨g1, g2⟩, g3⟩, g4⟩, g5⟩ := h5; have get : ∀ {A : Type} {l : List A} {d : A}, 0 < l.length → l[0]? = some (l.getD 0 d) := fun {A l d} h => by
  rw [List.getD_eq_getElem?_getD, List.getElem?_eq_getElem h]; rfl
 exact ⟨h4.1.trans (by omega), ⟨_, get (by rw [(vN h1).o3]; decide), h4.2⟩, ⟨_, get (by rw [(vN g1).o3]; decide), g2, g3⟩, _, _, get (by rw [(vN g1).f3]; decide), get g5, g4, g5⟩
set_option maxHeartbeats 4000000 in
set_option maxRecDepth 100000 in
theorem topRoom_walk (w : World) (hm : TabsM w) (n : Int) (wn : (Lit.int .i64 n).wf = true) :
 Calls Tryz.prog 3 #[.int .i64 n] w fun e w' => e = .returned (.bool true) ∧ Below w.heap.size w w' := by
 have HM := hid hm; obtain ⟨i0, hi, hz0, hz1, hz2⟩ := info_parts jk0; have h20 := jkj n 20 (by decide); have HP := hid (fun u => jfZ n 20 u wn (by decide) (by decide)); generalize jdg n 20 = k at *; obtain ⟨fw, ⟨lA, fa, fal⟩, ⟨lB, fb, fbl, fbk⟩, sB, bB, fs, fbx, fml, fbp⟩ := jkq h20; have HFW := hid fw; have HFA := hid (And.intro fa fal); have HFB := hid (And.intro fb (And.intro fbl fbk)); have HFS := hid (And.intro fs (And.intro fbx (And.intro fml fbp))); clear hm wn fw fa fal fb fbl fbk fs fbx fml fbp; go_enter Tryz.func3, Tryz.ntmps3; go_wp2_with fail; refine (HP.out _).mono ?_; rintro e u ⟨rfl, hu⟩; have hu' := hu.symm; subst hu'; clear hu; go_wp2
 go_loopw [4, 5] (fun l i wr => ∃ (j : Nat) (a9 : Option Addr) (c9 : Nat), j ≤ k ∧ i = .int .i64 j ∧ l = .slice a9 j c9 ∧ Hid (wr.ownsRow w.heap.size 27 11 (.slice a9 j c9) j ((rmLA j).map acuC).flatten) ∧ Hid (Below w.heap.size w wr)) (fun _ i _ => k - (intOf i).toNat)
 case atStart => exact ⟨0, none, 0, Nat.zero_le _, rfl, rfl, World.ownsRow_nil _ _ _ _, Below.refl _ _⟩
 case round =>
  obtain ⟨j, a9, c9, hj, rfl, rfl, HO, HBj⟩ := hrel
  by_cases hlt : j < k
  · have j1 : (j : Int) < (k : Int) := by omega
    have j0 : (0 : Int) ≤ (j : Int) := by omega
    go_wp2_with (first
        | (at_builtin; refine wpList_append_lies _ rfl _ _ 23 rfl w.heap.size 27 i0 _ 11 120 Tryz.underlying23 hi hz0 hz1 hz2 rfl (by omega) (.slice a9 j c9) j (((rmLA j).map acuC).flatten) rfl (World.ownsRow.alloc HO.out _) ⟨wr.heap.size, 0, none⟩ 1 1 [.int .i64 5, .int .i64 0, .int .i64 0, .int .i64 0, .string ⟨#[]⟩, .int .i64 2, .string ⟨#[73, 78, 66, 79, 88]⟩, .int .i64 0, .int .i64 0, .string ⟨#[]⟩, .string ⟨#[97]⟩] rfl rfl (zD wr [.int .i64 5, .int .i64 0, .int .i64 0, .int .i64 0, .string ⟨#[]⟩, .int .i64 2, .string ⟨#[73, 78, 66, 79, 88]⟩, .int .i64 0, .int .i64 0, .string ⟨#[]⟩, .string ⟨#[97]⟩] _) ?c1 (by omega) ?c2 ?c3 ?c4 _ rfl ?_)
        | fail)
    case c1 => simp [Value.oneCell']
    case c2 => unfold maxLen; omega
    case c3 => omega
    case c4 => have := HBj.out.size; simp; omega
    intro gm cap w4 hown hgrow hat hlt4; have HB4 := hid (show Below w.heap.size w w4 from (HBj.out.alloc HBj.out.size _).grown hgrow (by have := HBj.out.size; simp; omega) (fun j hj => (World.ownsRow.lt HO.out j hj).1)); have HO4 := hid (show w4.ownsRow w.heap.size 27 11 (.slice (some ⟨gm, 0, none⟩) (j + 1) cap) (j + 1) ((rmLA (j + 1)).map acuC).flatten by
        rw [jiI, jjq]; exact hown)
    clear hown hgrow hat; go_wp2
    go_roundw
    case rel => first | exact ⟨j + 1, _, cap, by omega, by go_num, rfl, HO4, HB4⟩ | ((repeat apply Exists.intro); exact ⟨⟨j + 1, _, cap, by omega, by go_num, rfl, HO4, HB4⟩, rfl⟩)
    case measure => simp [intOf]; omega
  · have j1 : ¬ (j : Int) < (k : Int) := by omega
    obtain rfl : j = k := by omega
    obtain ⟨U, hU⟩ : ∃ U, U = wr := ⟨_, rfl⟩; subst hU; have HRA := hid (show Calls Tryz.prog 5 #[.slice a9 j c9] U (RanP U (rmN j)) by
        have h := jmc (fun _ => True) a9 c9 j h20 U (HM.out.next HBj.out) (jfP HO.out (zd j).symm (by rw [zd]; omega)); rw [zd] at h; exact h)
    go_wp2_with fail; refine HRA.out.mono ?_; rintro e w2 ⟨ac, cc, ao, co, as_, cs, rfl, hO2, hb2⟩; obtain ⟨f1, f2⟩ := HFA.out; obtain ⟨p1, q1, a1, c1, rfl, r1, -⟩ := jiu hO2 f1; rw [f2] at r1; rw [HFW.out]; simp only; obtain ⟨W2, hW2⟩ : ∃ W2, W2 = w2.alloc (.cells #[.bool (rmN j).up, .slice ac 3 cc, .slice (some ⟨p1, q1, none⟩) 3 co, .slice as_ 3 cs, .int .i64 ((min j 8 : Nat) : Int)] 32) := ⟨_, rfl⟩; have hal : Below w2.heap.size w2 W2 := by rw [hW2]; exact nb0 _ _
    have hx2 : W2.heap[w2.heap.size]? = some (.cells #[.bool (rmN j).up, .slice ac 3 cc, .slice (some ⟨p1, q1, none⟩) 3 co, .slice as_ 3 cs, .int .i64 ((min j 8 : Nat) : Int)] 32) := by rw [hW2]; exact heap_alloc_new _ _
    have HR1 := hid (ja r1 hal); have HX2 := hid hx2; have HWE2 := hid hW2; have hbu2 : Below U.heap.size U W2 := hb2.trans (hal.mono hb2.size); have HB2 := hid (HBj.out.trans (hbu2.mono HBj.out.size)); have HO2 := hid (jU HO.out hbu2); obtain ⟨QA, hQA⟩ : ∃ Q, Q = w2.heap.size := ⟨_, rfl⟩; have HQA := hid hQA; rw [← hQA] at HX2; clear hO2 hb2 hal hx2 hW2 hbu2 f1 f2 r1 hQA HRA; go_upto_region 8 with fail
    rw [← HWE2.out, ← HQA.out]; obtain ⟨W3, hW3⟩ : ∃ W3, W3 = W2.alloc (.cells #[.int .i64 2, .int .i64 0, .int .i64 0, .int .i64 0, .string ⟨#[]⟩, .int .i64 0, .string ⟨#[]⟩, .int .i64 0, .int .i64 0, .string ⟨#[]⟩, .string ⟨#[]⟩, .int .i64 5, .int .i64 0, .int .i64 0, .int .i64 0, .string ⟨#[]⟩, .int .i64 2, .string ⟨#[73, 78, 66, 79, 88]⟩, .int .i64 0, .int .i64 0, .string ⟨#[]⟩, .string ⟨#[98]⟩, .int .i64 2, .int .i64 0, .int .i64 0, .int .i64 0, .string ⟨#[]⟩, .int .i64 0, .string ⟨#[]⟩, .int .i64 0, .int .i64 0, .string ⟨#[]⟩, .string ⟨#[]⟩] 27) := ⟨_, rfl⟩; have hal : Below W2.heap.size W2 W3 := by rw [hW3]; exact nb0 _ _
    have hz3 : W2.heap.size < W3.heap.size := by rw [hW3]; simp
    have hc3 : ∀ i u, ((([jau, ordA [98], jau] : List Acu).map acuC).flatten)[i]? = some u → W3.cell? ((⟨W2.heap.size, 0, none⟩ : Addr).add i) = some u := by rw [hW3]; exact zD W2 [.int .i64 2, .int .i64 0, .int .i64 0, .int .i64 0, .string ⟨#[]⟩, .int .i64 0, .string ⟨#[]⟩, .int .i64 0, .int .i64 0, .string ⟨#[]⟩, .string ⟨#[]⟩, .int .i64 5, .int .i64 0, .int .i64 0, .int .i64 0, .string ⟨#[]⟩, .int .i64 2, .string ⟨#[73, 78, 66, 79, 88]⟩, .int .i64 0, .int .i64 0, .string ⟨#[]⟩, .string ⟨#[98]⟩, .int .i64 2, .int .i64 0, .int .i64 0, .int .i64 0, .string ⟨#[]⟩, .int .i64 0, .string ⟨#[]⟩, .int .i64 0, .int .i64 0, .string ⟨#[]⟩, .string ⟨#[]⟩] _
    have HWT := hid (show Calls Tryz.prog 6 #[.slice a9 j c9, .slice (some ⟨W2.heap.size, 0, none⟩) 3 3] W3 (WiP W3 (rmLB j)) by
        have h := jkR (rmLA j) [jau, ordA [98], jau] a9 c9 ⟨W2.heap.size, 0, none⟩ 3 W3 w.heap.size (by rw [zd]; exact jU HO2.out hal) (by simp) (by rw [zd]; simp; omega) hc3 hz3; rw [zd] at h; exact h)
    have HB3 := hid (HB2.out.trans (hal.mono HB2.out.size)); have HX3 := hid ((hal.block _ (Array.getElem?_eq_some_iff.1 HX2.out).1).trans HX2.out); have HR3 := hid (ja HR1.out hal); have HWE3 := hid hW3; clear hal hz3 hc3 hW3; go_wp2_with fail; rw [← HWE3.out]; refine HWT.out.mono ?_; rintro e w4 ⟨a4, c4, rfl, ho4, hb4⟩; have HB4 := hid (HB3.out.trans (hb4.mono HB3.out.size)); have HX4 := hid ((hb4.block _ (Array.getElem?_eq_some_iff.1 HX3.out).1).trans HX3.out); have HR4 := hid (ja HR3.out hb4); rw [qy] at ho4 ⊢; have HRB := hid (show Calls Tryz.prog 5 #[.slice a4 (j + 3) c4] w4 (RanP w4 (rmB j (j + 3))) by
        have h := jmd (fun _ => True) a4 c4 j h20 w4 (HM.out.next HB4.out) (jfP ho4 (qy j).symm (by rw [qy]; omega)); rw [qy] at h; exact h)
    clear ho4 hb4 HWT HWE3; go_wp2_with fail; refine HRB.out.mono ?_; rintro e w5 ⟨ac5, cc5, ao5, co5, as5, cs5, rfl, hO5, hb5⟩; obtain ⟨g1, g2, g3⟩ := HFB.out; obtain ⟨p5, q5, a5, c5, rfl, r5, hat5⟩ := jiu hO5 g1; obtain ⟨p6, q6, rfl, r6⟩ := hat5 j 0 g3; rw [g2] at r5; obtain ⟨s1, s2, s3, s4⟩ := HFS.out; obtain ⟨b1, o1, b2, o2, c6, a7, c7, rfl, t1, t2⟩ := jit hO5 s1 s2; rw [s3] at t2; have hbl : (0 : Int) < (sB.boxes.length : Int) := by omega
    generalize (rmB j (j + 3)).waits = wB at *; generalize (rmB j (j + 3)).up = uB at *; simp only; obtain ⟨W5, hW5⟩ : ∃ W5, W5 = w5.alloc (.cells #[.bool uB, .slice ac5 3 cc5, .slice (some ⟨p5, q5, none⟩) 3 co5, .slice (some ⟨b1, o1, none⟩) 3 cs5, .int .i64 wB] 32) := ⟨_, rfl⟩; have hal : Below w5.heap.size w5 W5 := by rw [hW5]; exact nb0 _ _
    have hx5 : W5.heap[w5.heap.size]? = some (.cells #[.bool uB, .slice ac5 3 cc5, .slice (some ⟨p5, q5, none⟩) 3 co5, .slice (some ⟨b1, o1, none⟩) 3 cs5, .int .i64 wB] 32) := by rw [hW5]; exact heap_alloc_new _ _
    have hb45 := hb5.trans (hal.mono hb5.size); have HB5 := hid (HB4.out.trans (hb45.mono HB4.out.size)); obtain ⟨x0, x1, x2, x3, x4⟩ := bx5 ((hb45.block _ (Array.getElem?_eq_some_iff.1 HX4.out).1).trans HX4.out); have x5 := ja HR4.out hb45; obtain ⟨QB, hQB⟩ : ∃ Q, Q = w5.heap.size := ⟨_, rfl⟩; have HQB := hid hQB; rw [← hQB] at hx5; obtain ⟨y0, y1, y2, y3, y4⟩ := bx5 hx5; have y5 := ja r5 hal; have y6 := ja r6 hal; have y7 := ja t1 hal; have y8 := ja t2 hal; have HWE5 := hid hW5; have j0 : (0 : Int) ≤ (j : Int) := by omega
    have j20 : (j : Int) < 20 := by omega
    have jlt : (j : Int) < (j : Int) + 1 := by omega
    clear hO5 hb5 hal hx5 hb45 hW5 r5 r6 t1 t2 hat5 g1 g2 g3 s1 s2 s3 s4 hQB HRB; go_upto_region 9 with fail
    rw [← HWE5.out, ← HQB.out]; have hw2 : IntKind.i64.wrap ((j : Int) + 1) = (j : Int) + 1 := by rw [IntKind.wrap_i64]; omega
    by_cases h8 : 8 < j
    · have i8 : (8 : Int) < (j : Int) := by omega
      have e8 : min j 8 = 8 := by omega
      obtain ⟨d, hd⟩ : ∃ d, d = j - 8 := ⟨_, rfl⟩; rw [e8] at x4 x5 y8; rw [← hd] at x5; have hw1 : IntKind.i64.wrap ((j : Int) - 8) = (d : Int) := by rw [IntKind.wrap_i64]; omega
      go_upto_region 10 with fail
      rw [show min (j : Int) 8 = (8 : Int) by omega]; clear h8 e8 hd; go_wp2; go_ret; exact ⟨rfl, HB5.out⟩
    · have i8 : ¬ (8 : Int) < (j : Int) := by omega
      have e8 : min j 8 = j := by omega
      rw [e8] at x4 x5 y8; rw [Nat.sub_self] at x5; go_upto_region 10 with fail
      rw [show min (j : Int) 8 = (j : Int) by omega]; clear h8 e8; go_wp2; go_ret; exact ⟨rfl, HB5.out⟩
end Go.Proofs.YtgooljlpffnaeaaGreatDoor
