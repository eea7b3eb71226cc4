/-
  Ops make the course that the script makes: walked.
-/
import Derived.Test.YtaapmpchcfcniaaGreatDoorXCodRn
import Derived.Test.YtaapmpchcfcniaaGreatDoorXQKeepAdr5
namespace Go.Proofs.YtaapmpchcfcniaaGreatDoor
open Go.RowKit Go.Proofs
theorem jmQ {Q : Nat → Prop} {w : World} : ∀ (n : Nat) (t : Tst) (cs : List Value), TstM Q n w t cs → FitT n t → shT n t := by
 intro n
 induction n with
 | zero => intro t cs h; exact h.elim
 | succ n ih =>
   intro t cs h hF; obtain ⟨_, _, vt, _, _, _, hr⟩ := h; obtain ⟨_, _, _, hfit⟩ := jfB hF; refine ⟨jfD hfit, fun k => jdg hfit k, fun k3 k4 k5 => jiH hfit k3 k4 k5, fun x hx => ?_⟩; obtain ⟨_, _, _, _, hrr⟩ := hr; obtain ⟨i, hi⟩ := List.getElem?_of_mem hx; obtain ⟨_, _, cs', _, _, _, _, _, hP⟩ := hrr i x hi; exact ih x cs' hP (hF.2 x hx)
theorem jmO {Q : Nat → Prop} {w : World} : ∀ (n : Nat) (c : Cmd) (cs : List Value), CmdM Q n w c cs → FitC n c → shC n c := by
 intro n
 induction n with
 | zero => intro t cs h; exact h.elim
 | succ n ih =>
   intro c cs h hF; obtain ⟨_, _, _, _, _, _, _, _, hT, hA, hE⟩ := h; obtain ⟨h1, h2, h3, h4⟩ := hF; refine fun k => ⟨jmQ n _ _ hT (h2 k), fun x hx => ?_, fun x hx => ?_⟩
   · obtain ⟨_, _, _, _, hr⟩ := hA; obtain ⟨i, hi⟩ := List.getElem?_of_mem hx; obtain ⟨_, _, cs', _, _, _, _, _, hP⟩ := hr i x hi; exact ih x cs' hP (h3 x hx)
   · obtain ⟨_, _, _, _, hr⟩ := hE; obtain ⟨i, hi⟩ := List.getElem?_of_mem hx; obtain ⟨_, _, cs', _, _, _, _, _, hP⟩ := hr i x hi; exact ih x cs' hP (h4 x hx)
theorem jkX {Q : Nat → Prop} {w : World} {v : Value} {r : List Cmd} (o : Opn) (hN : ∀ x ∈ r, NC x) (hC : CmdsM Q 5 w v (reqC :: r)) {L : List Opr} (hL : L = qq 5 (reqC :: r)) {j : Nat} {s : Rn} (hs : s = runN o L j ⟨newC, 0, 0, false⟩) (hp : L.length ≤ s.pc) : s.c = jd5 o 5 (reqC :: r) := by
 obtain ⟨k, h1, h2⟩ := jhK o 4 (reqC :: r) (fun c hc => by
  rcases List.mem_cons.1 hc with rfl | hx
  · intro h; cases h
  · obtain ⟨_, _, _, _, hr⟩ := hC; obtain ⟨i, hi⟩ := List.getElem?_of_mem hc; obtain ⟨_, _, cs', _, _, _, _, _, hP⟩ := hr i c hi; exact jns 5 c (jmO 5 c cs' hP (hN c hx 5).2)) newC
 rw [← hL] at h1 h2; rw [hs] at hp ⊢; rw [jkU o L ⟨newC, 0, 0, false⟩ j k hp h2]; exact h1
set_option maxHeartbeats 4000000 in
set_option maxRecDepth 100000 in
theorem codeSame_walk (w : World) (hm : TabsM w) (fl fd fg tl td tg : ByteArray) (a : Option Addr) (c : Nat) (fs : List F) (body : ByteArray) (hF : FieldsAt w a fs) (hL : fs.length ≤ maxLen) (hB : ∀ f ∈ fs, f.1.length ≤ maxLen ∧ f.2.length ≤ maxLen) (hY : body.size ≤ maxLen) (s1 : fl.size ≤ maxLen) (s2 : fd.size ≤ maxLen) (s3 : tl.size ≤ maxLen) (s4 : td.size ≤ maxLen) (al : Option Addr) (cl : Nat) (l : List Stk) (n : Nat) (hS : SticksM n w (.slice al l.length cl) l) :
 Calls Tryz.prog 3 #[.agg #[.string fl, .string fd, .string fg, .string tl, .string td, .string tg, .slice a fs.length c, .string body], .slice al l.length cl] w fun e w' => e = .returned (.bool true) ∧ Below w.heap.size w w' := by
 have HM := hid hm; have HSt := hid hS; obtain ⟨o, ho⟩ : ∃ o, o = ltrO fl fd tl td fs body := ⟨_, rfl⟩; have HO := hid (show vy o by rw [ho]; exact jgX _ _ _ _ _ _); obtain ⟨W0, hW0⟩ : ∃ W0, W0 = w.alloc (.cells #[.string fl, .string fd, .string fg, .string tl, .string td, .string tg, .slice a fs.length c, .string body] 26) := ⟨_, rfl⟩; have HWE := hid hW0; have HB0 := hid (show Below w.heap.size w W0 by rw [hW0]; exact nb0 _ _); have HLt := hid (show Calls Tryz.prog 5 #[.agg #[.string fl, .string fd, .string fg, .string tl, .string td, .string tg, .slice a fs.length c, .string body]] W0 (LtrP W0 o) by
  rw [ho]; exact jio fl fd fg tl td tg a c fs body W0 (hF.below HB0.out) hL hB hY s1 s2 s3 s4 (maxLenCell_below hm.2 HB0.out))
 clear hm hF hL hB hY s1 s2 s3 s4 hW0 ho hS; go_enter Tryz.func3, Tryz.ntmps3; go_wp2_with fail; rw [← HWE.out]; refine HLt.out.mono ?_; rintro e w1 ⟨he, hb1⟩; rw [show e = .returned (.tuple #[.agg #[.string (S o.fl), .string (S o.fd), .string (S o.tl), .string (S o.td), .string (S o.tx)], .bool true]) from he]; simp only; obtain ⟨W1, hW1⟩ : ∃ W1, W1 = w1.alloc (.cells #[.string (S o.fl), .string (S o.fd), .string (S o.tl), .string (S o.td), .string (S o.tx)] 31) := ⟨_, rfl⟩; have HWE1 := hid hW1; have HB1 := hid (show Below w.heap.size w W1 by
  have h := HB0.out.trans (hb1.mono HB0.out.size); rw [hW1]; exact h.alloc h.size _)
 have HX1 := hid (show W1.heap[w1.heap.size]? = some (.cells #[.string (S o.fl), .string (S o.fd), .string (S o.tl), .string (S o.td), .string (S o.tx)] 31) by rw [hW1]; exact j9 _ rfl); obtain ⟨LB, hLB⟩ : ∃ LB, LB = w1.heap.size := ⟨_, rfl⟩; have HLB := hid hLB; rw [← hLB] at HX1; have HSC := hid (jhe 5 (by omega) jnS n l al cl W1 (HM.out.1.1.next HB1.out) (SticksM.next HSt.out HB1.out)); clear he hb1 hW1 HWE hLB HLt; go_wp2_with fail; rw [← HWE1.out, ← HLB.out]; refine HSC.out.mono ?_; rintro e w2 ⟨r, a2, c2, rfl, hM2, hN, hck, ⟨hcap, _⟩, hb2⟩; have HB2 := hid (HB1.out.trans (hb2.mono HB1.out.size)); have HX2 := hid (jD hb2 HX1.out); have HC2 := hid (show CmdsM anyB 5 w2 (.slice a2 (reqC :: r).length c2) (reqC :: r) from CmdsM.any hM2); have HN := hid hN; have HCK := hid hck; have HCA := hid hcap; have HCP := hid (jeI 4 r a2 c2 w2 (HM.out.1.next HB2.out) hN hck hcap HC2.out); obtain ⟨ops, hops⟩ : ∃ ops, ops = qq 5 (reqC :: r) := ⟨_, rfl⟩; have hol : ops.length ≤ 400 := by rw [hops]; exact Nat.le_trans (jdd 5 _) (jaD hck).2
 have hop : 0 < ops.length := by
  rw [hops]
  show 0 < ((oCmd 5 reqC 0) ++ _).length
  rw [List.length_append, show (oCmd 5 reqC 0).length = 1 from rfl]; omega
 have HG := hid (show AllGood RT RC 0 ops.length ops by rw [hops]; exact jkW hN 4); have HOE := hid hops; rw [← hops] at HCP; clear hM2 hN hck hcap hb2 hops HSC HWE1 HLB; go_wp2_with fail; refine HCP.out.mono ?_; rintro e w3 ⟨a3, c3, he, hM3, hb3⟩; rw [he]; simp only; have HB3 := hid (HB2.out.trans (hb3.mono HB2.out.size)); obtain ⟨bb, oo, rfl⟩ : ∃ bb oo, a3 = some ⟨bb, oo, none⟩ := by
  obtain ⟨a', c', hv, _, hr⟩ := hM3; simp only [Value.slice.injEq, true_and] at hv; obtain ⟨rfl, rfl⟩ := hv; obtain ⟨b, o, _, e, _⟩ := hr 0 _ (List.getElem?_eq_getElem hop); exact ⟨b, o, e⟩
 have HM3 := hid (show OpsM anyB w3 (.slice (some ⟨bb, oo, none⟩) ops.length c3) ops from RowM.imp hM3 (fun _ _ => trivial) (Keeps.refl _ _) fun _ _ h => vl _ _ _ _ _ _ (fun _ _ => trivial) (Keeps.refl _ _) h); have HX3 := hid (jD hb3 HX2.out); have HC3 := hid (CmdsM.next HC2.out hb3); have HRN := hid (jm8 o ops bb oo c3 w3 (HM.out.1.next HB3.out) (maxLenCell_below HM.out.2 HB3.out) HO.out hol HM3.out HG.out); obtain ⟨x0, x1, x2, x3, x4⟩ := bx5 HX3.out; have i0 : (0 : Int) < (ops.length : Int) := by omega
 clear he hM3 hb3 HCP; go_wp2_with fail; refine HRN.out.mono ?_; rintro e w4 ⟨j, s, a4, k4, hs, hpc, hrk, he, hA4, hn4, hb4⟩; rw [he]; simp only; obtain ⟨cc, hcc⟩ : ∃ cc, cc = s.c := ⟨_, rfl⟩; have HJP := hid (show jd5 o 5 (reqC :: r) = cc by rw [hcc]; exact (jkX o HN.out HC2.out HOE.out hs hpc).symm); have HCL := hid (show cc.acts.length ≤ 6 by rw [hcc]; have := hrk.crs.1; omega); have i1 : (s.done : Int) ≤ (ops.length : Int) := by have := hrk.done; have := hrk.le; omega
 rw [← hcc] at hA4 ⊢; obtain ⟨dn, hdn⟩ : ∃ dn : Int, dn = (s.done : Int) := ⟨_, rfl⟩; rw [← hdn] at i1 ⊢; obtain ⟨W4, hW4⟩ : ∃ W4, W4 = w4.alloc (.cells #[.slice a4 cc.acts.length k4, .int .i64 cc.flags, .bool cc.asked, .int .i64 cc.fault] 42) := ⟨_, rfl⟩; have HWE4 := hid hW4; have hal : Below w4.heap.size w4 W4 := by rw [hW4]; exact nb0 _ _
 have hb34 := hb4.trans (hal.mono hb4.size); have HB4 := hid (HB3.out.trans (hb34.mono HB3.out.size)); have HX4 := hid (jD hb34 HX3.out); have HP4 := hid (show W4.heap[w4.heap.size]? = some (.cells #[.slice a4 cc.acts.length k4, .int .i64 cc.flags, .bool cc.asked, .int .i64 cc.fault] 42) by rw [hW4]; exact j9 _ rfl); have HA4 := hid (AtnsM.next hA4 hal); obtain ⟨Q4, hQ4⟩ : ∃ Q, Q = w4.heap.size := ⟨_, rfl⟩; have HQ4 := hid hQ4; rw [← hQ4] at HP4; have HJ := hid (show Calls Tryz.prog 9 #[.slice a2 (r.length + 1) c2, .agg #[.string (S o.fl), .string (S o.fd), .string (S o.tl), .string (S o.td), .string (S o.tx)]] W4 (CrsR W4 cc) by
  have := jim o HO.out 4 r a2 c2 W4 (HM.out.1.next HB4.out) (maxLenCell_below HM.out.2 HB4.out) HN.out HCK.out HCA.out (CmdsM.next HC3.out hb34); rw [HJP.out] at this; exact this)
 clear x0 x1 x2 x3 x4; obtain ⟨x0, x1, x2, x3, x4⟩ := bx5 HX4.out; clear he hA4 hb4 hal hb34 hW4 hQ4 hcc hs hpc hrk hn4 hdn HRN; go_upto_region 5 with fail
 rw [← HWE4.out, ← HQ4.out]; go_wp2_with fail; refine HJ.out.mono ?_; rintro e w5 ⟨a5, k5, he, hA5, hn5, hb5⟩; rw [he]; simp only; obtain ⟨W5, hW5⟩ : ∃ W5, W5 = w5.alloc (.cells #[.slice a5 cc.acts.length k5, .int .i64 cc.flags, .bool cc.asked, .int .i64 cc.fault] 42) := ⟨_, rfl⟩; have HWE5 := hid hW5; have hal : Below w5.heap.size w5 W5 := by rw [hW5]; exact nb0 _ _
 have hb45 := hb5.trans (hal.mono hb5.size); have HB5 := hid (HB4.out.trans (hb45.mono HB4.out.size)); have HP5 := hid (jD hb45 HP4.out); have HQ5 := hid (show W5.heap[w5.heap.size]? = some (.cells #[.slice a5 cc.acts.length k5, .int .i64 cc.flags, .bool cc.asked, .int .i64 cc.fault] 42) by rw [hW5]; exact j9 _ rfl); have HS5 := hid (jcy a4 a5 k4 k5 cc W5 (AtnsM.next HA4.out hb45) (AtnsM.next hA5 hal) HCL.out); obtain ⟨P5, hP5⟩ : ∃ P, P = w5.heap.size := ⟨_, rfl⟩; have HPE := hid hP5; rw [← hP5] at HQ5; obtain ⟨y0, y1, y2, y3⟩ := bx4 HP5.out; obtain ⟨z0, z1, z2, z3⟩ := bx4 HQ5.out; clear he hA5 hn5 hb5 hal hb45 hW5 hP5 x0 x1 x2 x3 x4 HJ; go_upto_region 6 with fail
 rw [← HWE5.out, ← HPE.out]; go_wp2_with fail; refine HS5.out.mono ?_; rintro e w6 ⟨rfl, hb6⟩; have HB6 := hid (HB5.out.trans (hb6.mono HB5.out.size)); clear hb6 HS5; go_wp2; go_ret; exact ⟨rfl, HB6.out⟩
end Go.Proofs.YtaapmpchcfcniaaGreatDoor
