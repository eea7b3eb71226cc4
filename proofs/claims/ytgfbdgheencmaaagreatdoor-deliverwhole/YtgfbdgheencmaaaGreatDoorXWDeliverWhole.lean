/-
  A letter is delivered by its entries: they make the state; to each box once: walked.
-/
import Derived.Test.YtgfbdgheencmaaaGreatDoorXMkScrX
namespace Go.Proofs.YtgfbdgheencmaaaGreatDoor
open Go.RowKit Go.Proofs
set_option maxHeartbeats 2000000 in
set_option maxRecDepth 100000 in
theorem deliverWhole_walk (w : World) (hm : TabsM w) (al : Option Addr) (cl : Nat) (ls : List Chr) (hG : ChsM (fun _ => True) w (.slice al ls.length cl) ls) (hW : ∀ x ∈ ls, chrW x) (fl fd fg tl td tg : ByteArray) (a : Option Addr) (c : Nat) (fs : List F) (body : ByteArray) (hF : FieldsAt w a fs) (hL : fs.length ≤ maxLen) (hB : ∀ f ∈ fs, f.1.length ≤ maxLen ∧ f.2.length ≤ maxLen) (hY : body.size ≤ maxLen) (s1 : fl.size ≤ maxLen) (s2 : fd.size ≤ maxLen) (s3 : tl.size ≤ maxLen) (s4 : td.size ≤ maxLen) (ak : Option Addr) (ck : Nat) (lk : List Stk) (nk : Nat) (hK : SticksM nk w (.slice ak lk.length ck) lk) :
 Calls Tryz.prog 3 #[.slice al ls.length cl, .agg #[.string fl, .string fd, .string fg, .string tl, .string td, .string tg, .slice a fs.length c, .string body], .slice ak lk.length ck] w fun e w' => e = .returned (.bool true) ∧ Below w.heap.size w w' := by
 have HM := hid hm; have HMS := hid (jh8 ls); have HIN := hid (jh7 ls); have HSK := hid hK; clear hK; obtain ⟨o, ho⟩ : ∃ o, o = ltrO fl fd tl td fs body := ⟨_, rfl⟩; have HO := hid (show jau o by rw [ho]; exact jhJ _ _ _ _ _ _); have HOL := hid (show lawful (o.fl, o.fd) by rw [ho]; exact vG _ _); obtain ⟨W0, hW0⟩ : ∃ W0, W0 = w.alloc (.cells #[.string fl, .string fd, .string fg, .string tl, .string td, .string tg, .slice a fs.length c, .string body] 27) := ⟨_, rfl⟩; have HWE := hid hW0; have HB0 := hid (show Below w.heap.size w W0 by rw [hW0]; exact nb0 _ _); have HP0 := hid (show W0.heap[w.heap.size]? = some (.cells #[.string fl, .string fd, .string fg, .string tl, .string td, .string tg, .slice a fs.length c, .string body] 27) by rw [hW0]; exact jX _ rfl); have HST := hid (jkc ls al cl W0 _ (hG.next HB0.out) hW); have HLt := hid (show ∀ u, Below w.heap.size w u → Calls Tryz.prog 5 #[.agg #[.string fl, .string fd, .string fg, .string tl, .string td, .string tg, .slice a fs.length c, .string body]] u (LtrP u o) from fun u hu => by
  rw [ho]; exact jjo fl fd fg tl td tg a c fs body u (hF.below hu) hL hB hY s1 s2 s3 s4 (maxLenCell_below hm.2 hu))
 generalize jcv ls = s at *; clear hm hF hL hB hY s1 s2 s3 s4 hW0 ho hG hW; go_enter Tryz.func3, Tryz.ntmps3; go_upto_region 1 with fail
 rw [← HWE.out]; go_wp2_with fail; refine HST.out.mono ?_; rintro e w1 ⟨ab, nb, cb, aq, nq, cq, rfl, hS, hb1⟩; simp only; obtain ⟨ab', cb', e⟩ := RowM.slice hS.1; simp only [Value.slice.injEq] at e; obtain ⟨rfl, rfl, rfl⟩ := e; obtain ⟨aq', cq', e⟩ := RowM.slice hS.2.1; simp only [Value.slice.injEq] at e; obtain ⟨rfl, rfl, rfl⟩ := e; obtain ⟨W2, hW2⟩ : ∃ W2, W2 = w1.alloc (.cells #[.slice ab s.boxes.length cb, .slice aq s.spool.length cq] 32) := ⟨_, rfl⟩; have HWE2 := hid hW2; obtain ⟨SB, hSB⟩ : ∃ SB, SB = w1.heap.size := ⟨_, rfl⟩; have HSB := hid hSB; have hB2 : Below w1.heap.size w1 W2 := by rw [hW2]; exact nb0 _ _
 have HB2 := hid (show Below w.heap.size w W2 from (HB0.out.trans (hb1.mono HB0.out.size)).trans (hB2.mono (Nat.le_trans HB0.out.size hb1.size))); have HX2 := hid (show W2.heap[SB]? = some (.cells #[.slice ab s.boxes.length cb, .slice aq s.spool.length cq] 32) by rw [hW2, hSB]; exact jX _ rfl); have hP2 := jF hB2 (jF hb1 HP0.out); have p0 := jc (j := 0) hP2 rfl; have p1 := jc (j := 1) hP2 rfl; have p2 := jc (j := 2) hP2 rfl; have p3 := jc (j := 3) hP2 rfl; have p4 := jc (j := 4) hP2 rfl; have p5 := jc (j := 5) hP2 rfl; have p6 := jc (j := 6) hP2 rfl; have p7 := jc (j := 7) hP2 rfl; have HS2 := hid (hS.next hB2); clear hS hW2 hB2 hb1 hSB hP2; go_upto_region 2 with fail
 rw [← HWE2.out]; go_wp2_with fail; refine (HLt.out W2 HB2.out).mono ?_; rintro e w3 ⟨he, hb3⟩; rw [show e = .returned (.tuple #[.agg #[.string (S o.fl), .string (S o.fd), .string (S o.tl), .string (S o.td), .string (S o.tx)], .bool true]) from he]; simp only; obtain ⟨W4, hW4⟩ : ∃ W4, W4 = w3.alloc (.cells #[.string (S o.fl), .string (S o.fd), .string (S o.tl), .string (S o.td), .string (S o.tx)] 37) := ⟨_, rfl⟩; have HWE4 := hid hW4; obtain ⟨LB, hLB⟩ : ∃ LB, LB = w3.heap.size := ⟨_, rfl⟩; have HLB := hid hLB; have hB4 : Below w3.heap.size w3 W4 := by rw [hW4]; exact nb0 _ _
 have hB24 : Below W2.heap.size W2 W4 := hb3.trans (hB4.mono hb3.size); have HB4 := hid (show Below w.heap.size w W4 from HB2.out.trans (hB24.mono HB2.out.size)); have HX4 := hid (jF hB24 HX2.out); have HL4 := hid (show W4.heap[LB]? = some (.cells #[.string (S o.fl), .string (S o.fd), .string (S o.tl), .string (S o.td), .string (S o.tx)] 37) by rw [hW4, hLB]; exact jX _ rfl); have hX4 := HX4.out; have x0 : W4.cell? ⟨SB, 0, none⟩ = some (.slice ab s.boxes.length cb) := jc (j := 0) hX4 rfl; have x1 : W4.cell? ⟨SB, 1, none⟩ = some (.slice aq s.spool.length cq) := jc (j := 1) hX4 rfl; have hL4 := HL4.out; have l0 : W4.cell? ⟨LB, 0, none⟩ = some (.string (S o.fl)) := jc (j := 0) hL4 rfl; have l1 : W4.cell? ⟨LB, 1, none⟩ = some (.string (S o.fd)) := jc (j := 1) hL4 rfl; have l2 : W4.cell? ⟨LB, 2, none⟩ = some (.string (S o.tl)) := jc (j := 2) hL4 rfl; have l3 : W4.cell? ⟨LB, 3, none⟩ = some (.string (S o.td)) := jc (j := 3) hL4 rfl; have l4 : W4.cell? ⟨LB, 4, none⟩ = some (.string (S o.tx)) := jc (j := 4) hL4 rfl; have HS4 := hid ((HS2.out.next hB24).lows); have HTW := hid (show ∀ u, Below W4.heap.size W4 u → Tabs u from fun u hu => (HM.out.1.next HB4.out).next hu); have HMW := hid (show ∀ u, Below W4.heap.size W4 u → maxLenCell u from fun u hu => maxLenCell_below (maxLenCell_below HM.out.2 HB4.out) hu); clear he hb3 hW4 hB4 hB24 hX4 hL4 hLB HST HLt HS2 HX2 HWE HM; go_upto_region 3 with fail
 rw [← HWE4.out, ← HLB.out, ← HSB.out]; clear HWE4 HLB HSB HWE2 HP0 p0 p1 p2 p3 p4 p5 p6 p7; have HHF := hid (show jK o.fl o.fd = 0 from HOL.out.check); have HZA := hid (show Below W4.heap.size W4 (W4.alloc (.cells #[.slice none 0 0, .slice none 0 0] 32)).drew from (nb0 _ _).drew); have HS1 := hid (jdg 5 (by omega) jn8 nk lk ak ck W4.drew (HTW.out _ (Below.refl _ _).drew).1 (SticksM.next HSK.out HB4.out.drew)); have HS2 := hid (jdg 5 (by omega) jn8 nk lk ak ck (W4.alloc (.cells #[.slice none 0 0, .slice none 0 0] 32)).drew (HTW.out _ HZA.out).1 (SticksM.next HSK.out (HB4.out.trans (HZA.out.mono HB4.out.size)))); have HZ2 := hid (show (W4.alloc (.cells #[.slice none 0 0, .slice none 0 0] 32)).drew.heap[W4.heap.size]? = some (.cells #[.slice none 0 0, .slice none 0 0] 32) from jX (w := W4) _ rfl); have HDV := hid (show ∀ (r : List Cmd) (as' : Option Addr) (cs' : Nat) (u : World), Below W4.heap.size W4 u → (∀ x ∈ r, NC x) → jZ 5 (reqC :: r) = 0 → r.length + 1 ≤ cs' → CmdsM anyB 5 u (.slice as' (reqC :: r).length cs') (reqC :: r) → Calls Tryz.prog 6 #[.agg #[.slice ab s.boxes.length cb, .slice aq s.spool.length cq], .agg #[.string (S o.fl), .string (S o.fd), .string (S o.tl), .string (S o.td), .string (S o.tx)], .slice as' (r.length + 1) cs'] u (DlvV W4 u s o) from
  fun r as' cs' u hu hN hck hcap hC => jfz o HO.out HHF.out s HIN.out HMS.out _ _ r as' cs' W4 u hu (HTW.out u hu) (HMW.out u hu) hN hck hcap hC _ (HS4.out.next hu))
 have HKS := hid (show ∀ u, Below W4.heap.size W4 u → (u.cell? ⟨SB, 0, none⟩ = some (.slice ab s.boxes.length cb) ∧ u.cell? ⟨SB, 1, none⟩ = some (.slice aq s.spool.length cq) ∧ u.cell? ⟨LB, 0, none⟩ = some (.string (S o.fl)) ∧ u.cell? ⟨LB, 1, none⟩ = some (.string (S o.fd)) ∧ u.cell? ⟨LB, 2, none⟩ = some (.string (S o.tl)) ∧ u.cell? ⟨LB, 3, none⟩ = some (.string (S o.td)) ∧ u.cell? ⟨LB, 4, none⟩ = some (.string (S o.tx))) from fun u hu => ⟨jb x0 hu, jb x1 hu, jb l0 hu, jb l1 hu, jb l2 hu, jb l3 hu, jb l4 hu⟩)
 go_cut [10, 11, 12] (fun vx vt ve wx => DlvW W4 s o vx vt ve wx)
 case first =>
  go_region_held3 (fun w' => w'.cell? ⟨SB, 0, none⟩ = some (.slice ab s.boxes.length cb) ∧ w'.cell? ⟨SB, 1, none⟩ = some (.slice aq s.spool.length cq) ∧ w'.cell? ⟨LB, 0, none⟩ = some (.string (S o.fl)) ∧ w'.cell? ⟨LB, 1, none⟩ = some (.string (S o.fd)) ∧ w'.cell? ⟨LB, 2, none⟩ = some (.string (S o.tl)) ∧ w'.cell? ⟨LB, 3, none⟩ = some (.string (S o.td)) ∧ w'.cell? ⟨LB, 4, none⟩ = some (.string (S o.tx))) (first | go_keep | (refine HKS.out _ ?_; (repeat (first | exact HB8.out | exact HB6.out | exact Below.refl _ _ | refine Below.drew ?_ | refine Below.alloc ?_ (by first | exact Nat.le_refl _ | exact HB8.out.size | exact HB6.out.size | (have := HB6.out.size; simp; omega) | (simp <;> omega) | simp) _ | refine Below.setCell ?_ (by first | exact Nat.le_refl _ | exact HB6.out.size | (have := HB6.out.size; simp; omega) | simp) _))) | fail)
   (first
        | (go_at_call 7
           with_reducible refine HS1.out.mono ?_
           rintro e w6 ⟨r, a6, c6, rfl, hM6, hN6, hck6, ⟨hcap6, _⟩, hb6⟩; have HC6 := hid (CmdsM.any hM6); have HB6 := hid (show Below W4.heap.size W4 w6 from ((Below.refl W4.heap.size W4).drew).trans hb6); have HJ1 := hid (HDV.out r a6 c6 w6 HB6.out hN6 hck6 hcap6 HC6.out); have HA6 := hid (show Below w6.heap.size w6 (w6.alloc (.cells #[.slice none 0 0, .slice none 0 0] 32)) from nb0 _ _); have HJ2 := hid (HDV.out r a6 c6 (w6.alloc (.cells #[.slice none 0 0, .slice none 0 0] 32)) (HB6.out.trans (HA6.out.mono HB6.out.size)) hN6 hck6 hcap6 (CmdsM.next HC6.out HA6.out)); clear hM6 hN6 hck6 hb6)
        | (go_at_call 7
           with_reducible refine HS2.out.mono ?_
           rintro e w6 ⟨r, a6, c6, rfl, hM6, hN6, hck6, ⟨hcap6, _⟩, hb6⟩; have HC6 := hid (CmdsM.any hM6); have HB6 := hid (show Below W4.heap.size W4 w6 from HZA.out.trans (hb6.mono HZA.out.size)); have HJ1 := hid (HDV.out r a6 c6 w6 HB6.out hN6 hck6 hcap6 HC6.out); have HZ6 := hid (jF hb6 HZ2.out); clear hM6 hN6 hck6 hb6)
        | (go_at_call 6
           with_reducible refine HJ1.out.mono ?_
           rintro e w8 ⟨es, a8, n8, c8, a1, n1, d1, a2, n2, d2, z8, rfl, hW8, hF8, hb8, hB8, hU8⟩; have HF8 := hid hF8; have HW8 := hid hW8; have HB8 := hid hB8
           first
            | (have HK8 := hid (jF hb8 HZ6.out)
               have HL8 := hid (show W4.heap.size < w6.heap.size from (Array.getElem?_eq_some_iff.1 HZ6.out).1); have hk8 := HK8.out; have z0 := jc (j := 0) hk8 rfl; have z1 := jc (j := 1) hk8 rfl; have y0 := jG hk8 0; have y1 := jG hk8 1; clear hk8)
            | skip
           clear hF8 hW8 hb8 hB8 hU8)
        | (go_at_call 6
           with_reducible refine HJ2.out.mono ?_
           rintro e w8 ⟨es, a8, n8, c8, a1, n1, d1, a2, n2, d2, z8, rfl, hW8, hF8, hb8, hB8, hU8⟩; have HF8 := hid hF8; have HW8 := hid hW8; have HB8 := hid hB8; have HK9 := hid (jF hb8 (jX (w := w6) (.cells #[.slice none 0 0, .slice none 0 0] 32) rfl)); have HL9 := hid (show w6.heap.size < (w6.alloc (.cells #[.slice none 0 0, .slice none 0 0] 32)).heap.size by simp); have hk8 := HK9.out; have z0 := jc (j := 0) hk8 rfl; have z1 := jc (j := 1) hk8 rfl; have y0 := jG hk8 0; have y1 := jG hk8 1; clear hk8; clear hF8 hW8 hb8 hB8 hU8)
        | fail)
  all_goals
   first
        | (have HE := hid (DlvW.old HMS.out HW8.out HF8.out HB8.out (Nat.le_refl _) HL8.out HK8.out)
           go_wp2_with fail
           go_meet
           exact HE.out)
        | (have HE := hid (DlvW.old HMS.out HW8.out HF8.out HB8.out HB6.out.size HL9.out HK9.out)
           go_wp2_with fail
           go_meet
           exact HE.out)
        | (have HE := hid (DlvW.new HMS.out HW8.out HF8.out HB8.out)
           go_wp2_with fail
           go_meet
           exact HE.out)
 case rest =>
  obtain ⟨es, P, a5, n5, c5, a1, n1, d1, a2, n2, d2, z5, rfl, rfl, rfl, hB5, hWH, hP, hD⟩ := hcut; obtain ⟨W5, rfl⟩ : ∃ W, W = wc := ⟨_, rfl⟩; have HWH := hid hWH; have HB5 := hid (HB4.out.trans (hB5.mono HB4.out.size)); have x0 := jb x0 hB5; have x1 := jb x1 hB5; have l4 := jb l4 hB5; have t0 := jc (j := 0) hP rfl; have t1 := jc (j := 1) hP rfl; have HS5 := hid (show SttM anyB W5 _ _ s from (HS4.out.next hB5).imp (fun _ _ => trivial) (Keeps.refl _ _)); clear hWH hP l0 l1 l2 l3 HS1 HS2 HZ2 HDV HKS HZA; cases hr : allM s es with
  | error q =>
    rw [hr] at hD; obtain ⟨rfl, rfl, rfl⟩ := hD; clear hr hB5; go_wp2; go_ret; exact ⟨by first | rfl | simp, HB5.out⟩
  | ok s' =>
    rw [hr] at hD; obtain ⟨rfl, rfl, hE, hT⟩ := hD; have HE5 := hid hE; have HT5 := hid hT; have HAL := hid (jfh s _ _ es a5 c5 W5 anyB HS5.out HMS.out hE (by have := HWH.out.len; omega) HWH.out.formed); rw [hr] at HAL; have HMT := hid (jbF HMS.out HWH.out.formed hr); have HENT := hid HWH.out.ent; have HAP := hid HWH.out.apart; have h6 := HWH.out.len; clear hr hE hT hB5; go_upto_region 6 with fail
    go_wp2_with fail; refine HAL.out.mono ?_; rintro e w8 ⟨hb8, vb8, vs8, vm8, rfl, hO8⟩; obtain ⟨a3, d3, rfl⟩ := js hO8.boxes; obtain ⟨a4, d4, rfl⟩ := js hO8.spool; simp only; obtain ⟨W9, hW9⟩ : ∃ W9, W9 = w8.alloc (.cells #[.slice a3 s'.boxes.length d3, .slice a4 s'.spool.length d4] 32) := ⟨_, rfl⟩; have HWE9 := hid hW9; obtain ⟨UB, hUB⟩ : ∃ UB, UB = w8.heap.size := ⟨_, rfl⟩; have HUB := hid hUB; have hB89 : Below w8.heap.size w8 W9 := by rw [hW9]; exact nb0 _ _
    have hB59 : Below W5.heap.size W5 W9 := hb8.trans (hB89.mono hb8.size); have hX9 : W9.heap[UB]? = some (.cells #[.slice a3 s'.boxes.length d3, .slice a4 s'.spool.length d4] 32) := by rw [hW9, hUB]; exact jX _ rfl
    have u0 := jc (j := 0) hX9 rfl; have u1 := jc (j := 1) hX9 rfl; have HU9 := hid ((hO8.stt (Q := anyB) HMT.out (fun _ _ => trivial)).next hB89); have x0 := jb x0 hB59; have x1 := jb x1 hB59; have l4 := jb l4 hB59; have t0 := jb t0 hB59; have t1 := jb t1 hB59; have HS9 := hid (HS5.out.next hB59); have HT9 := hid (HT5.out.next hB59); have HE9 := hid (HE5.out.next hB59); have HB9 := hid (show Below w.heap.size w W9 from HB5.out.trans (hB59.mono HB5.out.size)); clear hb8 hO8 hW9 hB89 hB59 hX9 hUB HAL HE5 HT5 HS5 HMT; go_upto_region 7 with fail
    rw [← HWE9.out, ← HUB.out]; clear HWE9 HUB; go_wp2
    go_loopw [15] (fun v wr => ∃ i : Nat, i ≤ es.length ∧ v = .int .i64 i ∧ Hid (Below W9.heap.size W9 wr)) (fun v _ => es.length - (intOf v).toNat)
    case atStart => exact ⟨0, Nat.zero_le _, rfl, Below.refl _ _⟩
    case round =>
        obtain ⟨i, hi, rfl, HB⟩ := hrel; have x0 := jb x0 HB.out; have x1 := jb x1 HB.out; have l4 := jb l4 HB.out; have t0 := jb t0 HB.out; have t1 := jb t1 HB.out; have u0 := jb u0 HB.out; have u1 := jb u1 HB.out; have HEr := hid (HE9.out.next HB.out)
        by_cases hlt : i < es.length
        · have i1 : (i : Int) < (es.length : Int) := by omega
          have i0 : (0 : Int) ≤ (i : Int) := by omega
          obtain ⟨x, hx⟩ : ∃ x, es[i]? = some x := ⟨_, List.getElem?_eq_getElem hlt⟩; obtain ⟨gb, go, rfl, _, e0, e1, _, _, _, e5⟩ := HEr.out.at hx; have HXI := hid hx; have HXE := hid (HENT.out x (List.mem_of_getElem? hx)); have HFD := hid (show ∀ u, Below wr.heap.size wr u → Calls Tryz.prog 9 #[.agg #[.slice ab s.boxes.length cb, .slice aq s.spool.length cq], .string (S x.box)] u fun e w' => e = .returned (.int .i64 (idxZ (isName x.box) s.boxes)) ∧ Below u.heap.size u w' from fun u hu => jli s _ _ x.box u _ ((HS9.out.next HB.out).next hu)); have HNM := hid (show x.kind = 2 → ¬ idxZ (isName x.box) s.boxes < 0 by
           intro hk
           rcases HXE.out with ⟨nm, f, rfl, hm, _⟩ | ⟨tt, t, rfl, _⟩
           · obtain ⟨j, b, hj, _⟩ := jeq hm
             show ¬ idxZ (isName nm) s.boxes < 0
             unfold idxZ; rw [hj]
             simp
           · cases hk)
          generalize idxZ (isName x.box) s.boxes = zi at *; have HKD := hid (show x.kind = 2 ∧ x.text = o.tx ∨ x.kind = 6 by
           rcases HXE.out with ⟨nm, f, rfl, _⟩ | ⟨tt, t, rfl, _⟩
           · exact .inl ⟨rfl, rfl⟩
           · exact .inr rfl)
          clear hx; go_upto_region 10 with fail
          go_cut [96] from 57 to 128 (fun c wx => c = .bool false ∧ Below wr.heap.size wr wx)
          case first =>
           have HWY := hid (show (((x.kind : Int) == 2) = true ∧ decide (zi < 0) = false ∧ ((S x.text).toList == (S o.tx).toList) = true ∧ ((S x.text).toList != (S o.tx).toList) = false) ∨ (((x.kind : Int) == 2) = false ∧ ¬ x.kind = 2 ∧ zi < 0) ∨ (((x.kind : Int) == 2) = false ∧ ¬ x.kind = 2 ∧ decide (zi < 0) = false) by
            rcases HKD.out with ⟨hk, ht⟩ | hk
            · exact .inl ⟨by rw [hk]; rfl, by simpa using HNM.out hk, by rw [ht]; simp, by rw [ht]; simp⟩
            · by_cases hz : zi < 0
              · exact .inr (.inl ⟨by rw [hk]; rfl, by rw [hk]; decide, hz⟩)
              · exact .inr (.inr ⟨by rw [hk]; rfl, by rw [hk]; decide, by simpa using hz⟩))
           rcases HWY.out with ⟨k1, k2, k3, k4⟩ | ⟨k1, k2, k3⟩ | ⟨k1, k2, k3⟩
           all_goals
            refine wp_region_held_drew (S := fun u => u.cell? ⟨gb, go + i * 6, none⟩ = some (.int .i64 x.kind) ∧ u.cell? ⟨gb, go + i * 6 + 1, none⟩ = some (.string (S x.box)) ∧ u.cell? ⟨gb, go + i * 6 + 5, none⟩ = some (.string (S x.text)) ∧ u.cell? ⟨SB, 0, none⟩ = some (.slice ab s.boxes.length cb) ∧ u.cell? ⟨SB, 1, none⟩ = some (.slice aq s.spool.length cq) ∧ u.cell? ⟨LB, 4, none⟩ = some (.string (S o.tx))) (by kernel_rfl) ?_ (fun hHeld => ?_)
            · exact ⟨e0, e1, e5, x0, x1, l4⟩
            refine wpAnyH_take (i := 0) (v := ?_) rfl (by kernel_rfl) (by kernel_rfl) (by kernel_rfl) (fun _ _ _ h => h) (Or.inl ⟨by rfl, ?_⟩) (by assumption) ?_
            rotate_left
            · intro w hSw
              (try dsimp only at hSw)
              go_simp
              all_goals with_reducible rfl
            change wpAnyH _ _ _ _ _ _ _ (Act.put _ (some 63) _) _
            try simp only [Act.put, List.setIfInBounds_toArray, List.set_cons_zero, List.set_cons_succ]
            refine wpAnyH_take (i := 1) (v := ?_) rfl (by kernel_rfl) (by kernel_rfl) (by kernel_rfl) (fun _ _ _ h => h) (Or.inl ⟨by rfl, ?_⟩) (by assumption) ?_
            rotate_left
            · intro w hSw
              (try dsimp only at hSw)
              go_simp
              all_goals with_reducible rfl
            change wpAnyH _ _ _ _ _ _ _ (Act.put _ (some 64) _) _
            try simp only [Act.put, List.setIfInBounds_toArray, List.set_cons_zero, List.set_cons_succ]
            refine wpAnyH_take (i := 2) (v := ?_) rfl (by kernel_rfl) (by kernel_rfl) (by kernel_rfl) (fun _ _ _ h => h) (Or.inl ⟨by rfl, ?_⟩) (by assumption) ?_
            rotate_left
            · intro w hSw
              (try dsimp only at hSw)
              go_simp
              all_goals with_reducible rfl
            change wpAnyH _ _ _ _ _ _ _ (Act.put _ (some 65) _) _
            try simp only [Act.put, List.setIfInBounds_toArray, List.set_cons_zero, List.set_cons_succ]
            refine wpAnyH_take (i := 3) (v := ?_) rfl (by kernel_rfl) (by kernel_rfl) (by kernel_rfl) (fun _ _ _ h => h) (Or.inl ⟨by rfl, ?_⟩) (by assumption) ?_
            rotate_left
            · intro w hSw
              (try dsimp only at hSw)
              go_simp
              all_goals with_reducible rfl
            change wpAnyH _ _ _ _ _ _ _ (Act.put _ (some 66) _) _
            try simp only [Act.put, List.setIfInBounds_toArray, List.set_cons_zero, List.set_cons_succ]
            refine wpAnyH_take (i := 4) (v := ?_) rfl (by kernel_rfl) (by kernel_rfl) (by kernel_rfl) (fun _ _ _ h => h) (Or.inl ⟨by rfl, ?_⟩) (by assumption) ?_
            rotate_left
            · intro w hSw
              (try dsimp only at hSw)
              go_simp
              all_goals with_reducible rfl
            change wpAnyH _ _ _ _ _ _ _ (Act.put _ (some 67) _) _
            try simp only [Act.put, List.setIfInBounds_toArray, List.set_cons_zero, List.set_cons_succ]
            refine wpAnyH_take (i := 5) (v := ?_) rfl (by kernel_rfl) (by kernel_rfl) (by kernel_rfl) (fun _ _ _ h => h) (Or.inl ⟨by rfl, ?_⟩) (by assumption) ?_
            rotate_left
            · intro w hSw
              (try dsimp only at hSw)
              go_simp
              all_goals with_reducible rfl
            change wpAnyH _ _ _ _ _ _ _ (Act.put _ (some 68) _) _
            try simp only [Act.put, List.setIfInBounds_toArray, List.set_cons_zero, List.set_cons_succ]
            refine wpAnyH_take (i := 6) (v := ?_) rfl (by kernel_rfl) (by kernel_rfl) (by kernel_rfl) (fun _ _ _ h => h) (Or.inl ⟨by rfl, ?_⟩) (by assumption) ?_
            rotate_left
            · intro w hSw
              (try dsimp only at hSw)
              go_simp
              all_goals with_reducible rfl
            change wpAnyH _ _ _ _ _ _ _ (Act.put _ (some 69) _) _
            try simp only [Act.put, List.setIfInBounds_toArray, List.set_cons_zero, List.set_cons_succ]
            first
             | (refine wpAnyH_take (i := 7) (v := ?_) rfl (by kernel_rfl) (by kernel_rfl) (by kernel_rfl) (fun _ _ _ h => h) (Or.inl ⟨by rfl, ?_⟩) (by assumption) ?_
                rotate_left
                · intro w hSw
                  (try dsimp only at hSw)
                  go_simp
                  all_goals with_reducible rfl
                change wpAnyH _ _ _ _ _ _ _ (Act.put _ (some 70) _) _)
             | (refine wpAnyH_take (i := 7) rfl (by kernel_rfl) (by kernel_rfl) (by kernel_rfl) (fun _ _ _ h => h) (Or.inr ⟨by kernel_rfl, rfl⟩) (by assumption) ?_
                change wpAnyH _ _ _ _ _ _ _ (Act.put _ (some 70) _) _)
             | fail
            try simp only [Act.put, List.setIfInBounds_toArray, List.set_cons_zero, List.set_cons_succ]
            first
             | (refine wpAnyH_take (i := 8) (v := ?_) rfl (by kernel_rfl) (by kernel_rfl) (by kernel_rfl) (fun _ _ _ h => h) (Or.inl ⟨by rfl, ?_⟩) (by assumption) ?_
                rotate_left
                · intro w hSw
                  (try dsimp only at hSw)
                  go_simp
                  all_goals with_reducible rfl
                change wpAnyH _ _ _ _ _ _ _ (Act.put _ (some 71) _) _)
             | (refine wpAnyH_take (i := 8) rfl (by kernel_rfl) (by kernel_rfl) (by kernel_rfl) (fun _ _ _ h => h) (Or.inr ⟨by kernel_rfl, rfl⟩) (by assumption) ?_
                change wpAnyH _ _ _ _ _ _ _ (Act.put _ (some 71) _) _)
             | fail
            try simp only [Act.put, List.setIfInBounds_toArray, List.set_cons_zero, List.set_cons_succ]
            first
             | (refine wpAnyH_take (i := 9) (v := ?_) rfl (by kernel_rfl) (by kernel_rfl) (by kernel_rfl) (fun _ _ _ h => h) (Or.inl ⟨by rfl, ?_⟩) (by assumption) ?_
                rotate_left
                · intro w hSw
                  (try dsimp only at hSw)
                  go_simp
                  all_goals with_reducible rfl
                change wpAnyH _ _ _ _ _ _ _ (Act.put _ (some 72) _) _)
             | (refine wpAnyH_take (i := 9) rfl (by kernel_rfl) (by kernel_rfl) (by kernel_rfl) (fun _ _ _ h => h) (Or.inr ⟨by kernel_rfl, rfl⟩) (by assumption) ?_
                change wpAnyH _ _ _ _ _ _ _ (Act.put _ (some 72) _) _)
             | fail
            try simp only [Act.put, List.setIfInBounds_toArray, List.set_cons_zero, List.set_cons_succ]
            first
             | (refine wpAnyH_take (i := 10) (v := ?_) rfl (by kernel_rfl) (by kernel_rfl) (by kernel_rfl) (fun _ _ _ h => h) (Or.inl ⟨by rfl, ?_⟩) (by assumption) ?_
                rotate_left
                · intro w hSw
                  (try dsimp only at hSw)
                  go_simp
                  all_goals with_reducible rfl
                change wpAnyH _ _ _ _ _ _ _ (Act.put _ (some 73) _) _)
             | (refine wpAnyH_take (i := 10) rfl (by kernel_rfl) (by kernel_rfl) (by kernel_rfl) (fun _ _ _ h => h) (Or.inr ⟨by kernel_rfl, rfl⟩) (by assumption) ?_
                change wpAnyH _ _ _ _ _ _ _ (Act.put _ (some 73) _) _)
             | fail
            try simp only [Act.put, List.setIfInBounds_toArray, List.set_cons_zero, List.set_cons_succ]
            first
             | (refine wpAnyH_take (i := 11) (v := ?_) rfl (by kernel_rfl) (by kernel_rfl) (by kernel_rfl) (fun _ _ _ h => h) (Or.inl ⟨by rfl, ?_⟩) (by assumption) ?_
                rotate_left
                · intro w hSw
                  (try dsimp only at hSw)
                  go_simp
                  all_goals with_reducible rfl
                change wpAnyH _ _ _ _ _ _ _ (Act.put _ (some 74) _) _)
             | (refine wpAnyH_take (i := 11) rfl (by kernel_rfl) (by kernel_rfl) (by kernel_rfl) (fun _ _ _ h => h) (Or.inr ⟨by kernel_rfl, rfl⟩) (by assumption) ?_
                change wpAnyH _ _ _ _ _ _ _ (Act.put _ (some 74) _) _)
             | fail
            try simp only [Act.put, List.setIfInBounds_toArray, List.set_cons_zero, List.set_cons_succ]
            first
             | (refine wpAnyH_take (i := 12) (v := ?_) rfl (by kernel_rfl) (by kernel_rfl) (by kernel_rfl) (fun _ _ _ h => h) (Or.inl ⟨by rfl, ?_⟩) (by assumption) ?_
                rotate_left
                · intro w hSw
                  (try dsimp only at hSw)
                  go_simp
                  all_goals with_reducible rfl
                change wpAnyH _ _ _ _ _ _ _ (Act.put _ (some 75) _) _)
             | (refine wpAnyH_take (i := 12) rfl (by kernel_rfl) (by kernel_rfl) (by kernel_rfl) (fun _ _ _ h => h) (Or.inr ⟨by kernel_rfl, rfl⟩) (by assumption) ?_
                change wpAnyH _ _ _ _ _ _ _ (Act.put _ (some 75) _) _)
             | fail
            try simp only [Act.put, List.setIfInBounds_toArray, List.set_cons_zero, List.set_cons_succ]
            first
             | (refine wpAnyH_take (i := 13) (v := ?_) rfl (by kernel_rfl) (by kernel_rfl) (by kernel_rfl) (fun _ _ _ h => h) (Or.inl ⟨by rfl, ?_⟩) (by assumption) ?_
                rotate_left
                · intro w hSw
                  (try dsimp only at hSw)
                  go_simp
                  all_goals with_reducible rfl
                change wpAnyH _ _ _ _ _ _ _ (Act.put _ (some 76) _) _)
             | (refine wpAnyH_take (i := 13) rfl (by kernel_rfl) (by kernel_rfl) (by kernel_rfl) (fun _ _ _ h => h) (Or.inr ⟨by kernel_rfl, rfl⟩) (by assumption) ?_
                change wpAnyH _ _ _ _ _ _ _ (Act.put _ (some 76) _) _)
             | fail
            try simp only [Act.put, List.setIfInBounds_toArray, List.set_cons_zero, List.set_cons_succ]
            first
             | (refine wpAnyH_take (i := 14) (v := ?_) rfl (by kernel_rfl) (by kernel_rfl) (by kernel_rfl) (fun _ _ _ h => h) (Or.inl ⟨by rfl, ?_⟩) (by assumption) ?_
                rotate_left
                · intro w hSw
                  (try dsimp only at hSw)
                  go_simp
                  all_goals with_reducible rfl
                change wpAnyH _ _ _ _ _ _ _ (Act.put _ (some 77) _) _)
             | (refine wpAnyH_take (i := 14) rfl (by kernel_rfl) (by kernel_rfl) (by kernel_rfl) (fun _ _ _ h => h) (Or.inr ⟨by kernel_rfl, rfl⟩) (by assumption) ?_
                change wpAnyH _ _ _ _ _ _ _ (Act.put _ (some 77) _) _)
             | fail
            try simp only [Act.put, List.setIfInBounds_toArray, List.set_cons_zero, List.set_cons_succ]
            refine wpAnyH_take (i := 15) (v := ?_) rfl (by kernel_rfl) (by kernel_rfl) (by kernel_rfl) (fun _ _ _ h => h) (Or.inl ⟨by rfl, ?_⟩) (by assumption) ?_
            rotate_left
            · intro w hSw
              (try dsimp only at hSw)
              go_simp
              all_goals with_reducible rfl
            change wpAnyH _ _ _ _ _ _ _ (Act.put _ (some 78) _) _
            try simp only [Act.put, List.setIfInBounds_toArray, List.set_cons_zero, List.set_cons_succ]
            refine wpAnyH_take (i := 16) (v := ?_) rfl (by kernel_rfl) (by kernel_rfl) (by kernel_rfl) (fun _ _ _ h => h) (Or.inl ⟨by rfl, ?_⟩) (by assumption) ?_
            rotate_left
            · intro w hSw
              (try dsimp only at hSw)
              go_simp
              all_goals with_reducible rfl
            change wpAnyH _ _ _ _ _ _ _ (Act.put _ (some 79) _) _
            try simp only [Act.put, List.setIfInBounds_toArray, List.set_cons_zero, List.set_cons_succ]
            refine wpAnyH_take (i := 17) (v := ?_) rfl (by kernel_rfl) (by kernel_rfl) (by kernel_rfl) (fun _ _ _ h => h) (Or.inl ⟨by rfl, ?_⟩) (by assumption) ?_
            rotate_left
            · intro w hSw
              (try dsimp only at hSw)
              go_simp
              all_goals with_reducible rfl
            change wpAnyH _ _ _ _ _ _ _ (Act.put _ (some 80) _) _
            try simp only [Act.put, List.setIfInBounds_toArray, List.set_cons_zero, List.set_cons_succ]
            refine wpAnyH_take (i := 18) (v := ?_) rfl (by kernel_rfl) (by kernel_rfl) (by kernel_rfl) (fun _ _ _ h => h) (Or.inl ⟨by rfl, ?_⟩) (by assumption) ?_
            rotate_left
            · intro w hSw
              (try dsimp only at hSw)
              go_simp
              all_goals with_reducible rfl
            change wpAnyH _ _ _ _ _ _ _ (Act.put _ (some 81) _) _
            try simp only [Act.put, List.setIfInBounds_toArray, List.set_cons_zero, List.set_cons_succ]
            refine wpAnyH_take (i := 19) (v := ?_) rfl (by kernel_rfl) (by kernel_rfl) (by kernel_rfl) (fun _ _ _ h => h) (Or.inl ⟨by rfl, ?_⟩) (by assumption) ?_
            rotate_left
            · intro w hSw
              (try dsimp only at hSw)
              go_simp
              all_goals with_reducible rfl
            change wpAnyH _ _ _ _ _ _ _ (Act.put _ (some 82) _) _
            try simp only [Act.put, List.setIfInBounds_toArray, List.set_cons_zero, List.set_cons_succ]
            refine wpAnyH_take (i := 20) (v := ?_) rfl (by kernel_rfl) (by kernel_rfl) (by kernel_rfl) (fun _ _ _ h => h) (Or.inl ⟨by rfl, ?_⟩) (by assumption) ?_
            rotate_left
            · intro w hSw
              (try dsimp only at hSw)
              go_simp
              all_goals with_reducible rfl
            change wpAnyH _ _ _ _ _ _ _ (Act.put _ (some 83) _) _
            try simp only [Act.put, List.setIfInBounds_toArray, List.set_cons_zero, List.set_cons_succ]
            refine wpAnyH_take (i := 21) (v := ?_) rfl (by kernel_rfl) (by kernel_rfl) (by kernel_rfl) (fun _ _ _ h => h) (Or.inl ⟨by rfl, ?_⟩) (by assumption) ?_
            rotate_left
            · intro w hSw
              (try dsimp only at hSw)
              go_simp
              all_goals with_reducible rfl
            change wpAnyH _ _ _ _ _ _ _ (Act.put _ (some 84) _) _
            try simp only [Act.put, List.setIfInBounds_toArray, List.set_cons_zero, List.set_cons_succ]
            refine wpAnyH_take (i := 22) (v := ?_) rfl (by kernel_rfl) (by kernel_rfl) (by kernel_rfl) (fun _ _ _ h => h) (Or.inl ⟨by rfl, ?_⟩) (by assumption) ?_
            rotate_left
            · intro w hSw
              (try dsimp only at hSw)
              go_simp
              all_goals with_reducible rfl
            change wpAnyH _ _ _ _ _ _ _ (Act.put _ (some 85) _) _
            try simp only [Act.put, List.setIfInBounds_toArray, List.set_cons_zero, List.set_cons_succ]
            refine wpAnyH_ready (rs := [23]) (by kernel_rfl) (by simp) ?_; refine AllReadyH.cons rfl (fun K hK => ?_) AllReadyH.nil
            go_simp
            refine (HFD.out _ (Below.refl _ _).drew).mono ?_; rintro e w4q ⟨rfl, hbq⟩; have HB4q := hid (show Below wr.heap.size wr w4q from (Below.refl _ _).drew.trans hbq); clear hbq; go_wp2_with fail; refine hK.out _ _ ?_ (fun hHeld => ?_)
            · exact ⟨jb e0 HB4q.out, jb e1 HB4q.out, jb e5 HB4q.out, jb x0 HB4q.out, jb x1 HB4q.out, jb l4 HB4q.out⟩
            clear hK K
            try simp only [Act.put, List.setIfInBounds_toArray, List.set_cons_zero, List.set_cons_succ]
            refine wpAnyH_take (i := 24) (v := ?_) rfl (by kernel_rfl) (by kernel_rfl) (by kernel_rfl) (fun _ _ _ h => h) (Or.inl ⟨by rfl, ?_⟩) (by assumption) ?_
            rotate_left
            · intro w hSw
              (try dsimp only at hSw)
              go_simp
              all_goals with_reducible rfl
            change wpAnyH _ _ _ _ _ _ _ (Act.put _ (some 87) _) _
            try simp only [Act.put, List.setIfInBounds_toArray, List.set_cons_zero, List.set_cons_succ]
            refine wpAnyH_take (i := 25) (v := ?_) rfl (by kernel_rfl) (by kernel_rfl) (by kernel_rfl) (fun _ _ _ h => h) (Or.inl ⟨by rfl, ?_⟩) (by assumption) ?_
            rotate_left
            · intro w hSw
              (try dsimp only at hSw)
              go_simp
              all_goals with_reducible rfl
            change wpAnyH _ _ _ _ _ _ _ (Act.put _ (some 88) _) _
            try simp only [Act.put, List.setIfInBounds_toArray, List.set_cons_zero, List.set_cons_succ]
            first
             | (refine wpAnyH_take (i := 26) (v := ?_) rfl (by kernel_rfl) (by kernel_rfl) (by kernel_rfl) (fun _ _ _ h => h) (Or.inl ⟨by rfl, ?_⟩) (by assumption) ?_
                rotate_left
                · intro w hSw
                  (try dsimp only at hSw)
                  go_simp
                  all_goals with_reducible rfl
                change wpAnyH _ _ _ _ _ _ _ (Act.put _ (some 89) _) _)
             | (refine wpAnyH_take (i := 26) rfl (by kernel_rfl) (by kernel_rfl) (by kernel_rfl) (fun _ _ _ h => h) (Or.inr ⟨by kernel_rfl, rfl⟩) (by assumption) ?_
                change wpAnyH _ _ _ _ _ _ _ (Act.put _ (some 89) _) _)
             | fail
            try simp only [Act.put, List.setIfInBounds_toArray, List.set_cons_zero, List.set_cons_succ]
            first
             | (refine wpAnyH_take (i := 27) (v := ?_) rfl (by kernel_rfl) (by kernel_rfl) (by kernel_rfl) (fun _ _ _ h => h) (Or.inl ⟨by rfl, ?_⟩) (by assumption) ?_
                rotate_left
                · intro w hSw
                  (try dsimp only at hSw)
                  go_simp
                  all_goals with_reducible rfl
                change wpAnyH _ _ _ _ _ _ _ (Act.put _ (some 90) _) _)
             | (refine wpAnyH_take (i := 27) rfl (by kernel_rfl) (by kernel_rfl) (by kernel_rfl) (fun _ _ _ h => h) (Or.inr ⟨by kernel_rfl, rfl⟩) (by assumption) ?_
                change wpAnyH _ _ _ _ _ _ _ (Act.put _ (some 90) _) _)
             | fail
            try simp only [Act.put, List.setIfInBounds_toArray, List.set_cons_zero, List.set_cons_succ]
            first
             | (refine wpAnyH_take (i := 28) (v := ?_) rfl (by kernel_rfl) (by kernel_rfl) (by kernel_rfl) (fun _ _ _ h => h) (Or.inl ⟨by rfl, ?_⟩) (by assumption) ?_
                rotate_left
                · intro w hSw
                  (try dsimp only at hSw)
                  go_simp
                  all_goals with_reducible rfl
                change wpAnyH _ _ _ _ _ _ _ (Act.put _ (some 91) _) _)
             | (refine wpAnyH_take (i := 28) rfl (by kernel_rfl) (by kernel_rfl) (by kernel_rfl) (fun _ _ _ h => h) (Or.inr ⟨by kernel_rfl, rfl⟩) (by assumption) ?_
                change wpAnyH _ _ _ _ _ _ _ (Act.put _ (some 91) _) _)
             | fail
            try simp only [Act.put, List.setIfInBounds_toArray, List.set_cons_zero, List.set_cons_succ]
            first
             | (refine wpAnyH_take (i := 29) (v := ?_) rfl (by kernel_rfl) (by kernel_rfl) (by kernel_rfl) (fun _ _ _ h => h) (Or.inl ⟨by rfl, ?_⟩) (by assumption) ?_
                rotate_left
                · intro w hSw
                  (try dsimp only at hSw)
                  go_simp
                  all_goals with_reducible rfl
                change wpAnyH _ _ _ _ _ _ _ (Act.put _ (some 92) _) _)
             | (refine wpAnyH_take (i := 29) rfl (by kernel_rfl) (by kernel_rfl) (by kernel_rfl) (fun _ _ _ h => h) (Or.inr ⟨by kernel_rfl, rfl⟩) (by assumption) ?_
                change wpAnyH _ _ _ _ _ _ _ (Act.put _ (some 92) _) _)
             | fail
            try simp only [Act.put, List.setIfInBounds_toArray, List.set_cons_zero, List.set_cons_succ]
            first
             | (refine wpAnyH_take (i := 30) (v := ?_) rfl (by kernel_rfl) (by kernel_rfl) (by kernel_rfl) (fun _ _ _ h => h) (Or.inl ⟨by rfl, ?_⟩) (by assumption) ?_
                rotate_left
                · intro w hSw
                  (try dsimp only at hSw)
                  go_simp
                  all_goals with_reducible rfl
                change wpAnyH _ _ _ _ _ _ _ (Act.put _ (some 93) _) _)
             | (refine wpAnyH_take (i := 30) rfl (by kernel_rfl) (by kernel_rfl) (by kernel_rfl) (fun _ _ _ h => h) (Or.inr ⟨by kernel_rfl, rfl⟩) (by assumption) ?_
                change wpAnyH _ _ _ _ _ _ _ (Act.put _ (some 93) _) _)
             | fail
            try simp only [Act.put, List.setIfInBounds_toArray, List.set_cons_zero, List.set_cons_succ]
            first
             | (refine wpAnyH_take (i := 31) (v := ?_) rfl (by kernel_rfl) (by kernel_rfl) (by kernel_rfl) (fun _ _ _ h => h) (Or.inl ⟨by rfl, ?_⟩) (by assumption) ?_
                rotate_left
                · intro w hSw
                  (try dsimp only at hSw)
                  go_simp
                  all_goals with_reducible rfl
                change wpAnyH _ _ _ _ _ _ _ (Act.put _ (some 94) _) _)
             | (refine wpAnyH_take (i := 31) rfl (by kernel_rfl) (by kernel_rfl) (by kernel_rfl) (fun _ _ _ h => h) (Or.inr ⟨by kernel_rfl, rfl⟩) (by assumption) ?_
                change wpAnyH _ _ _ _ _ _ _ (Act.put _ (some 94) _) _)
             | fail
            try simp only [Act.put, List.setIfInBounds_toArray, List.set_cons_zero, List.set_cons_succ]
            refine wpAnyH_take (i := 32) (v := ?_) rfl (by kernel_rfl) (by kernel_rfl) (by kernel_rfl) (fun _ _ _ h => h) (Or.inl ⟨by rfl, ?_⟩) (by assumption) ?_
            rotate_left
            · intro w hSw
              (try dsimp only at hSw)
              go_simp
              all_goals with_reducible rfl
            change wpAnyH _ _ _ _ _ _ _ (Act.put _ (some 95) _) _
            try simp only [Act.put, List.setIfInBounds_toArray, List.set_cons_zero, List.set_cons_succ]
            refine wpAnyH_take (i := 33) (v := ?_) rfl (by kernel_rfl) (by kernel_rfl) (by kernel_rfl) (fun _ _ _ h => h) (Or.inl ⟨by rfl, ?_⟩) (by assumption) ?_
            rotate_left
            · intro w hSw
              (try dsimp only at hSw)
              go_simp
              all_goals with_reducible rfl
            change wpAnyH _ _ _ _ _ _ _ (Act.put _ (some 96) _) _
            try simp only [Act.put, List.setIfInBounds_toArray, List.set_cons_zero, List.set_cons_succ]
            refine wpAnyH_done (by kernel_rfl) ?_ _; go_wp2_with fail
            go_meet
            exact ⟨by first | rfl | simp, HB4q.out⟩
          case rest =>
           obtain ⟨rfl, hbc⟩ := hcut; have HBC := hid (show Below W9.heap.size W9 wc from HB.out.trans (hbc.mono HB.out.size)); obtain ⟨wo, rfl⟩ : ∃ W, W = wc := ⟨_, rfl⟩; have HEo := hid (HE9.out.next HBC.out); have e0 := jb e0 hbc; have e1 := jb e1 hbc; clear hbc; go_wp2
           go_loopw [16] (fun v wr => ∃ k : Nat, k ≤ i ∧ v = .int .i64 k ∧ Hid (Below wo.heap.size wo wr)) (fun v _ => i - (intOf v).toNat)
           case atStart => exact ⟨0, Nat.zero_le _, rfl, Below.refl _ _⟩
           case round =>
            obtain ⟨k, hk', rfl, HC⟩ := hrel; have e0 := jb e0 HC.out; have e1 := jb e1 HC.out
            by_cases hlk : k < i
            · have k1 : (k : Int) < (i : Int) := by omega
              have k0 : (0 : Int) ≤ (k : Int) := by omega
              have k2 : (k : Int) < (es.length : Int) := by omega
              obtain ⟨y, hy⟩ : ∃ y, es[k]? = some y := ⟨_, List.getElem?_eq_getElem (by omega)⟩; obtain ⟨gb', go', hg, _, g0, g1, _, _, _, _⟩ := (HEo.out.next HC.out).at hy; cases hg; have HAPT := hid (HAP.out i k x y hlk HXI.out hy); have HSM := hid (jbV x.box y.box); have HKY := hid (show y.kind = 2 ∨ y.kind = 6 by
                  rcases HENT.out y (List.mem_of_getElem? hy) with ⟨nm, f, rfl, _⟩ | ⟨tt, t, rfl, _⟩
                  · exact .inl rfl
                  · exact .inr rfl)
              clear hy; go_upto_region 15 with fail
              go_cut [128] from 97 to 128 (fun c wx => c = .bool false ∧ Below wr.heap.size wr wx)
              case first =>
                  rcases HKD.out with ⟨hk, _⟩ | hk
                  · rcases HKY.out with hky | hky
                    · have hne := HAPT.out hk hky; have hq : ((S x.box).toList == (S y.box).toList) = false := by rw [HSM.out]; simp [hne]
                      rw [hk] at e0; rw [hky] at g0; clear hk hky hne
                      go_quiet (fail)
                      have HE := hid (jaE (Below.refl wr.heap.size wr) nq); go_wp2_with fail
                      go_meet
                      exact ⟨by first | rfl | simp, HE.out⟩
                    · rw [hk] at e0; rw [hky] at g0; clear hk hky
                      go_quiet (fail)
                      have HE := hid (jaE (Below.refl wr.heap.size wr) nq); go_wp2_with fail
                      go_meet
                      exact ⟨by first | rfl | simp, HE.out⟩
                  · rw [hk] at e0; clear hk
                    go_quiet (fail)
                    have HE := hid (jaE (Below.refl wr.heap.size wr) nq); go_wp2_with fail
                    go_meet
                    exact ⟨by first | rfl | simp, HE.out⟩
              case rest =>
                  obtain ⟨rfl, hbq⟩ := hcut; have HCQ := hid (show Below wo.heap.size wo wc from HC.out.trans (hbq.mono HC.out.size)); clear hbq; go_wp2
                  go_roundw
                  case rel => first | exact ⟨k + 1, by omega, by go_num, HCQ⟩ | ((repeat apply Exists.intro); exact ⟨⟨k + 1, by omega, by go_num, HCQ⟩, rfl⟩)
                  case measure => simp [intOf]; omega
            · have k1 : ¬ (k : Int) < (i : Int) := by omega
              have HBN := hid (show Below W9.heap.size W9 wr from HBC.out.trans (HC.out.mono HBC.out.size)); go_wp2
              go_roundw
              case rel => first | exact ⟨i + 1, by omega, by go_num, HBN⟩ | ((repeat apply Exists.intro); exact ⟨⟨i + 1, by omega, by go_num, HBN⟩, rfl⟩)
              case measure => simp [intOf]; omega
        · have i1 : ¬ (i : Int) < (es.length : Int) := by omega
          have HSA := hid (jdW s' _ _ _ _ wr _ _ (HT9.out.next HB.out) (HU9.out.next HB.out)); have HBR := hid (show Below w.heap.size w wr from HB9.out.trans (HB.out.mono HB9.out.size)); go_wp2_with fail; refine HSA.out.mono ?_; rintro e w11 ⟨rfl, hb11⟩; have HB11 := hid (show Below w.heap.size w w11 from HBR.out.trans (hb11.mono HBR.out.size)); clear hb11; simp only; go_wp2; go_ret; exact ⟨rfl, HB11.out⟩
end Go.Proofs.YtgfbdgheencmaaaGreatDoor
