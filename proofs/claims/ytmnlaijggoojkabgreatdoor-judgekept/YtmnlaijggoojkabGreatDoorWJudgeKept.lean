/-
  A letter is never lost: walked.
-/
import Derived.Test.YtmnlaijggoojkabGreatDoorJudScr
import Derived.Test.YtmnlaijggoojkabGreatDoorJudSame
import Derived.Test.YtmnlaijggoojkabGreatDoorLtrMsg
import Derived.Test.YtmnlaijggoojkabGreatDoorRulTabs
import Derived.Deep.RegionLaw
import Derived.Deep.RegionHeld3
import Derived.Deep.DeepCutAuto
namespace Go.Proofs.YtmnlaijggoojkabGreatDoor
open Go.RowKit Go.Proofs

/-- A row of actions does not lie in a course's box. -/
theorem acts_apart {w : World} {b n k : Nat} {x : Option Addr} {f er : Int} {q : Bool} {t : TypeId} {fr : Nat × Nat} {v : Value} {l : List Atn} (hb : w.heap[b]? = some (.cells #[.slice x n k, .int .i64 f, .bool q, .int .i64 er] t fr)) (h : AtnsM anyB w v l) : AtnsM (fun p => p ≠ b) w v l := by
  obtain ⟨a, c, hv, hm, hr⟩ := h
  refine ⟨a, c, hv, hm, fun i y hy => ?_⟩
  obtain ⟨p, o, cs, h1, h2, _, h4, h5, h6⟩ := hr i y hy
  refine ⟨p, o, cs, h1, h2, fun hpb => ?_, h4, h5, h6⟩
  rw [hpb] at h5
  have h7 := h5 1 (.string (S y.text)) (by rw [show cs = _ from h6]; rfl)
  simp only [World.cell?, hb] at h7
  rw [List.getElem?_toArray] at h7
  have hj : ∀ j : Nat, ([.slice x n k, .int .i64 f, .bool q, .int .i64 er] : List Value)[j]? ≠ some (.string (S y.text)) := by
    intro j
    match j with
    | 0 | 1 | 2 | 3 => simp
    | j + 4 => simp
  exact hj _ h7
theorem set4 {w : World} {b : Nat} {v0 v1 v2 v3 u0 u1 u2 u3 : Value} {t : TypeId} (h : w.heap[b]? = some (.cells #[v0, v1, v2, v3] t)) :
    ((((w.setCell ⟨b, 0, none⟩ u0).setCell ⟨b, 1, none⟩ u1).setCell ⟨b, 2, none⟩ u2).setCell ⟨b, 3, none⟩ u3).heap[b]? = some (.cells #[u0, u1, u2, u3] t) := by
  have h1 := heap_setCell_same w b 0 _ t u0 h
  have h2 := heap_setCell_same _ b 1 _ t u1 h1
  have h3 := heap_setCell_same _ b 2 _ t u2 h2
  have h4 := heap_setCell_same _ b 3 _ t u3 h3
  simpa using h4
theorem acts_set {w : World} {b : Nat} {u0 u1 u2 u3 v : Value} {l : List Atn} (h : AtnsM (fun p => p ≠ b) w v l) : AtnsM anyB ((((w.setCell ⟨b, 0, none⟩ u0).setCell ⟨b, 1, none⟩ u1).setCell ⟨b, 2, none⟩ u2).setCell ⟨b, 3, none⟩ u3) v l :=
  RowM.imp h (fun _ _ => trivial) ((((Keeps.set (p := ⟨b, 0, none⟩) w u0 (fun _ h => h)).trans (Keeps.set (p := ⟨b, 1, none⟩) _ u1 (fun _ h => h))).trans (Keeps.set (p := ⟨b, 2, none⟩) _ u2 (fun _ h => h))).trans (Keeps.set (p := ⟨b, 3, none⟩) _ u3 (fun _ h => h))) fun _ _ h => h
theorem keep4 {w : World} {P LB : Nat} {u0 u1 u2 u3 v0 v1 v2 v3 v4 : Value} (h : LB ≠ P) (m0 : w.cell? ⟨LB, 0, none⟩ = some v0) (m1 : w.cell? ⟨LB, 1, none⟩ = some v1) (m2 : w.cell? ⟨LB, 2, none⟩ = some v2) (m3 : w.cell? ⟨LB, 3, none⟩ = some v3) (m4 : w.cell? ⟨LB, 4, none⟩ = some v4) :
    ((((w.setCell ⟨P, 0, none⟩ u0).setCell ⟨P, 1, none⟩ u1).setCell ⟨P, 2, none⟩ u2).setCell ⟨P, 3, none⟩ u3).cell? ⟨LB, 0, none⟩ = some v0 ∧ ((((w.setCell ⟨P, 0, none⟩ u0).setCell ⟨P, 1, none⟩ u1).setCell ⟨P, 2, none⟩ u2).setCell ⟨P, 3, none⟩ u3).cell? ⟨LB, 1, none⟩ = some v1 ∧ ((((w.setCell ⟨P, 0, none⟩ u0).setCell ⟨P, 1, none⟩ u1).setCell ⟨P, 2, none⟩ u2).setCell ⟨P, 3, none⟩ u3).cell? ⟨LB, 2, none⟩ = some v2 ∧ ((((w.setCell ⟨P, 0, none⟩ u0).setCell ⟨P, 1, none⟩ u1).setCell ⟨P, 2, none⟩ u2).setCell ⟨P, 3, none⟩ u3).cell? ⟨LB, 3, none⟩ = some v3 ∧ ((((w.setCell ⟨P, 0, none⟩ u0).setCell ⟨P, 1, none⟩ u1).setCell ⟨P, 2, none⟩ u2).setCell ⟨P, 3, none⟩ u3).cell? ⟨LB, 4, none⟩ = some v4 := by
  refine ⟨?_, ?_, ?_, ?_, ?_⟩ <;> exact cell_far' (cell_far' (cell_far' (cell_far' (by assumption) h) h) h) h
/-- A course that a script has made, in a box. -/
def JKept (W : World) (p e : Value) (wx : World) : Prop := ∃ (cc : Crs) (P : Nat) (a3 : Option Addr) (k3 : Nat), p = .pointer (some ⟨P, 0, none⟩) ∧ e = .int .i64 0 ∧ wx.heap[P]? = some (.cells #[.slice a3 cc.acts.length k3, .int .i64 cc.flags, .bool cc.asked, .int .i64 cc.fault] 37) ∧ AtnsM anyB wx (.slice a3 cc.acts.length k3) cc.acts ∧ (a3 = none → cc.acts = [] ∧ k3 = 0) ∧ crsOk cc ∧ crsInv cc ∧ Below W.heap.size W wx
theorem JKept.old {W w3 : World} {cc : Crs} {P : Nat} {a3 : Option Addr} {k3 : Nat} (hP : W.heap.size ≤ P) (hb : w3.heap[P]? = some (.cells #[.slice none 0 0, .int .i64 0, .bool false, .int .i64 0] 37)) (hA : AtnsM anyB w3 (.slice a3 cc.acts.length k3) cc.acts) (hn : a3 = none → cc.acts = [] ∧ k3 = 0) (h1 : crsOk cc) (h2 : crsInv cc) (hB : Below W.heap.size W w3) :
    JKept W (.pointer (some ⟨P, 0, none⟩)) (.int .i64 0) ((((w3.setCell ⟨P, 0, none⟩ (.slice a3 cc.acts.length k3)).setCell ⟨P, 1, none⟩ (.int .i64 cc.flags)).setCell ⟨P, 2, none⟩ (.bool cc.asked)).setCell ⟨P, 3, none⟩ (.int .i64 cc.fault)) :=
  ⟨cc, P, a3, k3, rfl, rfl, set4 hb, acts_set (acts_apart hb hA), hn, h1, h2, (((hB.setCell hP _).setCell hP _).setCell hP _).setCell hP _⟩
theorem JKept.new {W w3 : World} {cc : Crs} {a3 : Option Addr} {k3 : Nat} (hA : AtnsM anyB w3 (.slice a3 cc.acts.length k3) cc.acts) (hn : a3 = none → cc.acts = [] ∧ k3 = 0) (h1 : crsOk cc) (h2 : crsInv cc) (hB : Below W.heap.size W w3) :
    JKept W (.pointer (some ⟨w3.heap.size, 0, none⟩)) (.int .i64 0) (w3.alloc (.cells #[.slice a3 cc.acts.length k3, .int .i64 cc.flags, .bool cc.asked, .int .i64 cc.fault] 37)) :=
  ⟨cc, w3.heap.size, a3, k3, rfl, rfl, tl_at _ rfl, AtnsM.next hA ((Below.refl _ _).alloc (Nat.le_refl _) _), hn, h1, h2, hB.alloc hB.size _⟩

set_option maxHeartbeats 2000000 in
set_option maxRecDepth 100000 in
theorem judgeKept_walk (w : World) (hm : TabsM w) (fl fd fg tl td tg : ByteArray) (a : Option Addr) (c : Nat) (fs : List F) (body : ByteArray) (hF : FieldsAt w a fs) (hL : fs.length ≤ maxLen) (hB : ∀ f ∈ fs, f.1.length ≤ maxLen ∧ f.2.length ≤ maxLen) (hY : body.size ≤ maxLen) (s1 : fl.size ≤ maxLen) (s2 : fd.size ≤ maxLen) (s3 : tl.size ≤ maxLen) (s4 : td.size ≤ maxLen) (al : Option Addr) (cl : Nat) (l : List Stk) (n : Nat) (hS : SticksM n w (.slice al l.length cl) l) :
    Calls Tryz.prog 3 #[.agg #[.string fl, .string fd, .string fg, .string tl, .string td, .string tg, .slice a fs.length c, .string body], .slice al l.length cl] w fun e w' => e = .returned (.bool true) ∧ Below w.heap.size w w' := by
  have HM := hid hm
  have HSt := hid hS
  obtain ⟨o, ho⟩ : ∃ o, o = ltrO fl fd tl td fs body := ⟨_, rfl⟩
  have HO := hid (show Opened o by rw [ho]; exact ltr_opened _ _ _ _ _ _)
  obtain ⟨W0, hW0⟩ : ∃ W0, W0 = w.alloc (.cells #[.string fl, .string fd, .string fg, .string tl, .string td, .string tg, .slice a fs.length c, .string body] 26) := ⟨_, rfl⟩
  have HWE := hid hW0
  have HB0 := hid (show Below w.heap.size w W0 by rw [hW0]; exact (Below.refl _ _).alloc (Nat.le_refl _) _)
  have HLt := hid (show Calls Tryz.prog 8 #[.agg #[.string fl, .string fd, .string fg, .string tl, .string td, .string tg, .slice a fs.length c, .string body]] W0 (LtrP W0 o) by
    rw [ho]
    exact letter_ok fl fd fg tl td tg a c fs body W0 (hF.below HB0.out) hL hB hY s1 s2 s3 s4 (maxLenCell_below hm.2 HB0.out))
  clear hm hF hL hB hY s1 s2 s3 s4 hW0 ho hS
  go_enter Tryz.func3, Tryz.ntmps3
  go_wp2_with fail
  rw [← HWE.out]
  refine HLt.out.mono ?_
  rintro e w1 ⟨he, hb1⟩
  rw [show e = .returned (.tuple #[.agg #[.string (S o.fl), .string (S o.fd), .string (S o.tl), .string (S o.td), .string (S o.tx)], .bool true]) from he]
  simp only
  obtain ⟨W1, hW1⟩ : ∃ W1, W1 = w1.alloc (.cells #[.string (S o.fl), .string (S o.fd), .string (S o.tl), .string (S o.td), .string (S o.tx)] 31) := ⟨_, rfl⟩
  have HWE1 := hid hW1
  have HB1 := hid (show Below w.heap.size w W1 by
    have h := HB0.out.trans (hb1.mono HB0.out.size)
    rw [hW1]; exact h.alloc h.size _)
  have HX1 := hid (show W1.heap[w1.heap.size]? = some (.cells #[.string (S o.fl), .string (S o.fd), .string (S o.tl), .string (S o.td), .string (S o.tx)] 31) by rw [hW1]; exact tl_at _ rfl)
  obtain ⟨LB, hLB⟩ : ∃ LB, LB = w1.heap.size := ⟨_, rfl⟩
  have HLB := hid hLB
  rw [← hLB] at HX1
  have hX1 := HX1.out
  have l0 := tl_cell (j := 0) hX1 rfl
  have l1 := tl_cell (j := 1) hX1 rfl
  have l2 := tl_cell (j := 2) hX1 rfl
  have l3 := tl_cell (j := 3) hX1 rfl
  have l4 := tl_cell (j := 4) hX1 rfl
  clear he hb1 hW1 HWE hLB hX1
  go_wp2
  rw [← HWE1.out, ← HLB.out]
  clear HWE1 HLB
  have HAB := hid (show Below W1.heap.size W1 (W1.alloc (.cells #[.slice none 0 0, .int .i64 0, .bool false, .int .i64 0] 37)).drew from ((Below.refl _ _).alloc (Nat.le_refl _) _).drew)
  have HBA := hid (HB1.out.trans (HAB.out.mono HB1.out.size))
  have HS1 := hid (script_any 5 (by omega) cmds0 n l al cl W1.drew (HM.out.1.1.next HB1.out.drew) (SticksM.next HSt.out HB1.out.drew))
  have HS2 := hid (script_any 5 (by omega) cmds0 n l al cl (W1.alloc (.cells #[.slice none 0 0, .int .i64 0, .bool false, .int .i64 0] 37)).drew (HM.out.1.1.next HBA.out) (SticksM.next HSt.out HBA.out))
  have HZ2 := hid (show (W1.alloc (.cells #[.slice none 0 0, .int .i64 0, .bool false, .int .i64 0] 37)).drew.heap[W1.heap.size]? = some (.cells #[.slice none 0 0, .int .i64 0, .bool false, .int .i64 0] 37) from tl_at (w := W1) _ rfl)
  have HJD := hid (show ∀ (r : List Cmd) (a2 : Option Addr) (c2 : Nat) (u : World), Below w.heap.size w u → (∀ x ∈ r, NC x) → checkM 5 (reqC :: r) = 0 → r.length + 1 ≤ c2 → CmdsM anyB 5 u (.slice a2 (reqC :: r).length c2) (reqC :: r) → Calls Tryz.prog 9 #[.slice a2 (r.length + 1) c2, .agg #[.string (S o.fl), .string (S o.fd), .string (S o.tl), .string (S o.td), .string (S o.tx)]] u (CrsR u (judgeP o 5 (reqC :: r))) from
    fun r a2 c2 u hu hN hck hcap hC => judge_scr o HO.out 4 r a2 c2 u (HM.out.1.next hu) (maxLenCell_below HM.out.2 hu) hN hck hcap hC)
  have HNE := hid (show ∀ u, Below W1.heap.size W1 u → LB ≠ u.heap.size from fun u hu e => by have := hu.size; have := (Array.getElem?_eq_some_iff.1 HX1.out).1; omega)
  have hnW : LB ≠ W1.heap.size := HNE.out W1 (Below.refl _ _)
  go_cut [7, 8] (fun p e wx => JKept W1 p e wx)
  case first =>
    go_region_held3 (fun w' => w'.cell? ⟨LB, 0, none⟩ = some (.string (S o.fl)) ∧ w'.cell? ⟨LB, 1, none⟩ = some (.string (S o.fd)) ∧ w'.cell? ⟨LB, 2, none⟩ = some (.string (S o.tl)) ∧ w'.cell? ⟨LB, 3, none⟩ = some (.string (S o.td)) ∧ w'.cell? ⟨LB, 4, none⟩ = some (.string (S o.tx))) (first | go_keep | exact keep4 (HNE.out w2 HB2.out) m0 m1 m2 m3 m4 | exact keep4 (HNE.out W1 (Below.refl _ _)) m0 m1 m2 m3 m4)
      (first
        | (go_at_call 10
           with_reducible refine HS1.out.mono ?_
           rintro e w2 ⟨r, a2, c2, rfl, hM2, hN2, hck2, ⟨hcap2, _⟩, hb2⟩
           have HC2 := hid (CmdsM.any hM2)
           have HB2 := hid (show Below W1.heap.size W1 w2 from ((Below.refl W1.heap.size W1).drew).trans hb2)
           have HJ1 := hid (HJD.out r a2 c2 w2 (HB1.out.trans (HB2.out.mono HB1.out.size)) hN2 hck2 hcap2 HC2.out)
           have HA2 := hid (show Below w2.heap.size w2 (w2.alloc (.cells #[.slice none 0 0, .int .i64 0, .bool false, .int .i64 0] 37)) from (Below.refl _ _).alloc (Nat.le_refl _) _)
           have HB3 := hid (HB2.out.trans (HA2.out.mono HB2.out.size))
           have HJ2 := hid (HJD.out r a2 c2 (w2.alloc (.cells #[.slice none 0 0, .int .i64 0, .bool false, .int .i64 0] 37)) (HB1.out.trans (HB3.out.mono HB1.out.size)) hN2 hck2 hcap2 (CmdsM.next HC2.out HA2.out))
           have hn2 := HNE.out w2 HB2.out
           have m0 := wcell_next l0 HB2.out
           have m1 := wcell_next l1 HB2.out
           have m2 := wcell_next l2 HB2.out
           have m3 := wcell_next l3 HB2.out
           have m4 := wcell_next l4 HB2.out
           clear hM2 hN2 hck2 hb2)
        | (go_at_call 10
           with_reducible refine HS2.out.mono ?_
           rintro e w2 ⟨r, a2, c2, rfl, hM2, hN2, hck2, ⟨hcap2, _⟩, hb2⟩
           have HC2 := hid (CmdsM.any hM2)
           have HB2 := hid (show Below W1.heap.size W1 w2 from HAB.out.trans (hb2.mono HAB.out.size))
           have HJ1 := hid (HJD.out r a2 c2 w2 (HB1.out.trans (HB2.out.mono HB1.out.size)) hN2 hck2 hcap2 HC2.out)
           have HZ3 := hid (tl_low hb2 HZ2.out)
           have hn2 := HNE.out w2 HB2.out
           have m0 := wcell_next l0 HB2.out
           have m1 := wcell_next l1 HB2.out
           have m2 := wcell_next l2 HB2.out
           have m3 := wcell_next l3 HB2.out
           have m4 := wcell_next l4 HB2.out
           clear hM2 hN2 hck2 hb2)
        | (go_at_call 9
           with_reducible refine HJ1.out.mono ?_
           rintro e w3 ⟨a3, k3, he, hA3, hn3, hb3⟩
           obtain ⟨cc, hcc⟩ : ∃ cc, cc = judgeP o 5 (reqC :: r) := ⟨_, rfl⟩
           rw [← hcc] at he hA3 hn3
           have he' : e = .returned (.tuple #[.agg #[.slice a3 cc.acts.length k3, .int .i64 cc.flags, .bool cc.asked, .int .i64 cc.fault], .int .i64 0]) := he
           subst he'
           have HOK := hid (show crsOk cc from hcc ▸ judge_ok o 5 (reqC :: r))
           have HIN := hid (show crsInv cc from hcc ▸ judge_inv o 5 (reqC :: r))
           have HA3 := hid hA3
           have HN3 := hid hn3
           have HB4 := hid (show Below W1.heap.size W1 w3 from HB2.out.trans (hb3.mono HB2.out.size))
           have hn3' := HNE.out w3 HB4.out
           have m0 := wcell_next l0 HB4.out
           have m1 := wcell_next l1 HB4.out
           have m2 := wcell_next l2 HB4.out
           have m3 := wcell_next l3 HB4.out
           have m4 := wcell_next l4 HB4.out
           first
             | (have HZ4 := hid (tl_low hb3 HZ3.out)
                have hz4 := HZ4.out
                have z0 := tl_cell (j := 0) hz4 rfl
                have z1 := tl_cell (j := 1) hz4 rfl
                have z2 := tl_cell (j := 2) hz4 rfl
                have z3 := tl_cell (j := 3) hz4 rfl
                have y0 := box_free hz4 0
                have y1 := box_free hz4 1
                have y2 := box_free hz4 2
                have y3 := box_free hz4 3
                clear hz4)
             | skip
           clear hA3 hn3 hb3 hcc)
        | (go_at_call 9
           with_reducible refine HJ2.out.mono ?_
           rintro e w3 ⟨a3, k3, he, hA3, hn3, hb3⟩
           obtain ⟨cc, hcc⟩ : ∃ cc, cc = judgeP o 5 (reqC :: r) := ⟨_, rfl⟩
           rw [← hcc] at he hA3 hn3
           have he' : e = .returned (.tuple #[.agg #[.slice a3 cc.acts.length k3, .int .i64 cc.flags, .bool cc.asked, .int .i64 cc.fault], .int .i64 0]) := he
           subst he'
           have HOK := hid (show crsOk cc from hcc ▸ judge_ok o 5 (reqC :: r))
           have HIN := hid (show crsInv cc from hcc ▸ judge_inv o 5 (reqC :: r))
           have HA3 := hid hA3
           have HN3 := hid hn3
           have HB4 := hid (show Below W1.heap.size W1 w3 from HB3.out.trans (hb3.mono HB3.out.size))
           have hn3' := HNE.out w3 HB4.out
           have m0 := wcell_next l0 HB4.out
           have m1 := wcell_next l1 HB4.out
           have m2 := wcell_next l2 HB4.out
           have m3 := wcell_next l3 HB4.out
           have m4 := wcell_next l4 HB4.out
           have HZ5 := hid (tl_low hb3 (tl_at (w := w2) (.cells #[.slice none 0 0, .int .i64 0, .bool false, .int .i64 0] 37) rfl))
           have hz4 := HZ5.out
           have z0 := tl_cell (j := 0) hz4 rfl
           have z1 := tl_cell (j := 1) hz4 rfl
           have z2 := tl_cell (j := 2) hz4 rfl
           have z3 := tl_cell (j := 3) hz4 rfl
           have y0 := box_free hz4 0
           have y1 := box_free hz4 1
           have y2 := box_free hz4 2
           have y3 := box_free hz4 3
           clear hA3 hn3 hb3 hcc hz4))
    all_goals
      first
        | (have HE := hid (JKept.old (W := W1) (P := W1.heap.size) (Nat.le_refl _) HZ4.out HA3.out HN3.out HOK.out HIN.out HB4.out)
           go_wp2_with fail
           go_meet
           exact HE.out)
        | (have HE := hid (JKept.old (W := W1) (P := w2.heap.size) HB2.out.size HZ5.out HA3.out HN3.out HOK.out HIN.out HB4.out)
           go_wp2_with fail
           go_meet
           exact HE.out)
        | (have HE := hid (JKept.new (W := W1) HA3.out HN3.out HOK.out HIN.out HB4.out)
           go_wp2_with fail
           go_meet
           exact HE.out)
  case rest =>
    obtain ⟨cc, P, a3, k3, rfl, rfl, hP, hA3, hn3, hOK, hIN, hBc⟩ := hcut
    have HOK := hid hOK
    have HIN := hid hIN
    have HBc := hid (HB1.out.trans (hBc.mono HB1.out.size))
    have HXc := hid (tl_low hBc HX1.out)
    have HPc := hid hP
    have HAc := hid hA3
    have HN3 := hid hn3
    have HEN := hid (End_ok cc a3 k3 wc hA3 hn3 hOK)
    have p0 := tl_cell (j := 0) hP rfl
    have p1 := tl_cell (j := 1) hP rfl
    have p2 := tl_cell (j := 2) hP rfl
    have p3 := tl_cell (j := 3) hP rfl
    clear hP hA3 hn3 hOK hIN hBc l0 l1 l2 l3 l4 HS1 HS2 HJD HAB HBA HZ2
    go_wp2_with fail
    refine HEN.out.mono ?_
    rintro e w5 ⟨a5, k5, he, hA5, hb5⟩
    rw [show e = .returned (.tuple #[.slice a5 (endP cc).length k5, .int .i64 0]) from he]
    simp only
    have HB5 := hid (HBc.out.trans (hb5.mono HBc.out.size))
    have HX5 := hid (tl_low hb5 HXc.out)
    have HP5 := hid (tl_low hb5 HPc.out)
    have HA5 := hid hA5
    have HC5 := hid (AtnsM.next HAc.out hb5)
    have hX5 := HX5.out
    have l0 := tl_cell (j := 0) hX5 rfl
    have l1 := tl_cell (j := 1) hX5 rfl
    have l2 := tl_cell (j := 2) hX5 rfl
    have l3 := tl_cell (j := 3) hX5 rfl
    have l4 := tl_cell (j := 4) hX5 rfl
    have HJN := hid (show Calls Tryz.prog 9 #[.slice none 0 0, .agg #[.string (S o.fl), .string (S o.fd), .string (S o.tl), .string (S o.td), .string (S o.tx)]] w5 (CrsR w5 newC) by
      have h := Judge_ok 0 [] none 0 o w5 (HM.out.1.next HB5.out) (maxLenCell_below HM.out.2 HB5.out) HO.out (Nat.le_refl _) (fun _ => ⟨rfl, rfl⟩) (fun x hx => by cases hx) (rowM_nil _ _ _ _ _ _) rfl (fun x hx => by cases hx)
      rw [judge_nil] at h
      exact h)
    clear he hA5 hb5 hX5 p0 p1 p2 p3 HEN
    go_wp2_with fail
    refine HJN.out.mono ?_
    rintro e w6 ⟨a6, k6, he, hA6, hn6, hb6⟩
    rw [show e = .returned (.tuple #[.agg #[.slice a6 0 k6, .int .i64 0, .bool false, .int .i64 0], .int .i64 0]) from he]
    simp only
    obtain ⟨W6, hW6⟩ : ∃ W6, W6 = w6.alloc (.cells #[.slice a6 0 k6, .int .i64 0, .bool false, .int .i64 0] 37) := ⟨_, rfl⟩
    have HWE6 := hid hW6
    have hal : Below w6.heap.size w6 W6 := by rw [hW6]; exact (Below.refl _ _).alloc (Nat.le_refl _) _
    have hb56 := hb6.trans (hal.mono hb6.size)
    have HB6 := hid (HB5.out.trans (hb56.mono HB5.out.size))
    have HP6 := hid (tl_low hb56 HP5.out)
    have HA6 := hid (AtnsM.next HA5.out hb56)
    have HC6 := hid (AtnsM.next HC5.out hb56)
    have HEN := hid (show Calls Tryz.prog 11 #[.agg #[.slice a6 0 k6, .int .i64 0, .bool false, .int .i64 0]] W6 (EndR W6 [⟨3, [], 0⟩]) from End_ok newC a6 k6 W6 (AtnsM.next hA6 hal) hn6 new_ok)
    clear he hA6 hn6 hb6 hal hb56 hW6 l0 l1 l2 l3 l4 HJN
    go_wp2_with fail
    rw [← HWE6.out]
    refine HEN.out.mono ?_
    rintro e w7 ⟨a7, k7, he, hA7, hb7⟩
    rw [show e = .returned (.tuple #[.slice a7 1 k7, .int .i64 0]) from he]
    simp only
    have HB7 := hid (HB6.out.trans (hb7.mono HB6.out.size))
    have HP7 := hid (tl_low hb7 HP6.out)
    have HA7 := hid (AtnsM.next HA6.out hb7)
    have HC7 := hid (AtnsM.next HC6.out hb7)
    obtain ⟨W8, hW8⟩ : ∃ W8, W8 = w7.alloc (.cells #[.int .i64 3, .string ⟨#[]⟩, .int .i64 0] 46) := ⟨_, rfl⟩
    have HWE8 := hid hW8
    have hal : Below w7.heap.size w7 W8 := by rw [hW8]; exact (Below.refl _ _).alloc (Nat.le_refl _) _
    have HB8 := hid (HB7.out.trans (hal.mono HB7.out.size))
    have HP8 := hid (tl_low hal HP7.out)
    have HA8 := hid (AtnsM.next HA7.out hal)
    have HC8 := hid (AtnsM.next HC7.out hal)
    have HK8 := hid (AtnsM.next hA7 hal)
    have HSA := hid (show Calls Tryz.prog 12 #[.slice a7 1 k7, .slice (some ⟨w7.heap.size, 0, none⟩) 1 1] W8 fun e w' => e = .returned (.bool true) ∧ Below W8.heap.size W8 w' from sameActs_any a7 (some ⟨w7.heap.size, 0, none⟩) k7 1 [⟨3, [], 0⟩] W8 HK8.out (rowM_one (t := 46) (fr := (0, 0)) (cs := [.int .i64 3, .string ⟨#[]⟩, .int .i64 0]) (by rw [hW8]; exact tl_at _ rfl) rfl trivial rfl) (by simp))
    clear he hA7 hb7 hal hW8 HEN HWE6
    go_wp2_with fail
    rw [← HWE8.out]
    refine HSA.out.mono ?_
    rintro e w9 ⟨rfl, hb9⟩
    simp only
    have HB9 := hid (HB8.out.trans (hb9.mono HB8.out.size))
    have HA9 := hid (AtnsM.next HA8.out hb9)
    have HC9 := hid (AtnsM.next HC8.out hb9)
    have HK9 := hid (AtnsM.next HK8.out hb9)
    have HP9 := hid (tl_low hb9 HP8.out)
    have hP9 := HP9.out
    have p0 := tl_cell (j := 0) hP9 rfl
    have p1 := tl_cell (j := 1) hP9 rfl
    have p2 := tl_cell (j := 2) hP9 rfl
    have p3 := tl_cell (j := 3) hP9 rfl
    clear hb9 hP9 HWE8 HSA
    by_cases hf : cc.fault = 0
    · have hfb : (cc.fault == 0) = true := by simpa using hf
      cases hq : cc.asked with
      | false =>
        have hE : endP cc = [⟨3, [], cc.flags⟩] := by unfold endP; rw [if_neg (by simpa using hf), if_pos hq]
        have HA' := hid (show AtnsM anyB w9 (.slice a5 ([⟨3, [], cc.flags⟩] : List Atn).length k5) [⟨3, [], cc.flags⟩] by have := HA9.out; rw [hE] at this; exact this)
        obtain ⟨b, q, hab, c0, c1, c2⟩ := atn_at HA'.out (i := 0) rfl
        simp only [Nat.zero_mul, Nat.add_zero] at c0 c1 c2
        rw [hq] at p2
        have e1 : (endP cc).length = 1 := by rw [hE]; rfl
        rw [e1, hab]
        clear hf hq hE e1 hab
        go_wp2
        go_region_held3 (fun w' => w'.cell? ⟨b, q, none⟩ = some (.int .i64 3) ∧ w'.cell? ⟨b, q + 2, none⟩ = some (.int .i64 cc.flags) ∧ w'.cell? ⟨P, 1, none⟩ = some (.int .i64 cc.flags)) (go_keep) (fail)
        all_goals
          go_wp2
          go_ret
          exact ⟨rfl, by first | exact HB9.out | exact HB9.out.drew⟩
      | true =>
        have hE : endP cc = cc.acts := by unfold endP; rw [if_neg (by simpa using hf), if_neg (by rw [hq]; simp)]
        have hne := HIN.out.2 hq hf
        have HSA := hid (sameActs_any a5 a3 k5 k3 cc.acts w9 (by have := HA9.out; rw [hE] at this; exact this) HC9.out (by have := HOK.out.1; omega))
        have h1 : (0 : Int) < (cc.acts.length : Int) := by have := List.length_pos_iff.2 hne; omega
        rw [hq] at p2
        rw [hE]
        clear hf hq hE hne
        go_wp2_with fail
        refine HSA.out.mono ?_
        rintro e w10 ⟨rfl, hb10⟩
        simp only
        have HB10 := hid (HB9.out.trans (hb10.mono HB9.out.size))
        have hl1 : decide (0 < cc.acts.length) = true := decide_eq_true (by omega)
        clear hb10
        go_wp2
        go_ret
        exact ⟨rfl, HB10.out⟩
    · have hfb : (cc.fault == 0) = false := by simpa using hf
      have hE : endP cc = [⟨3, [], 0⟩] := by unfold endP; rw [if_pos hf]
      have HSA := hid (show Calls Tryz.prog 12 #[.slice a5 1 k5, .slice a7 1 k7] w9 fun e w' => e = .returned (.bool true) ∧ Below w9.heap.size w9 w' from sameActs_any a5 a7 k5 k7 [⟨3, [], 0⟩] w9 (by have := HA9.out; rw [hE] at this; exact this) HK9.out (by simp))
      have e1 : (endP cc).length = 1 := by rw [hE]; rfl
      have h95 : ((cc.fault == 9) = true) ∨ ((cc.fault == 9) = false ∧ (cc.fault == 5) = true) := by
        rcases HIN.out.1 with h | h | h
        · exact absurd h hf
        · left; simpa using h
        · right; rw [h]; exact ⟨rfl, rfl⟩
      rw [e1]
      clear hf hE e1
      go_wp2_with fail
      refine HSA.out.mono ?_
      rintro e w10 ⟨rfl, hb10⟩
      simp only
      have HB10 := hid (HB9.out.trans (hb10.mono HB9.out.size))
      have hP10 := tl_low hb10 HP9.out
      have q0 := tl_cell (j := 0) hP10 rfl
      have q1 := tl_cell (j := 1) hP10 rfl
      have q2 := tl_cell (j := 2) hP10 rfl
      have q3 := tl_cell (j := 3) hP10 rfl
      clear hb10 hP10 p0 p1 p2 p3
      rcases h95 with h | ⟨h, h'⟩
      · go_wp2
        go_ret
        exact ⟨rfl, HB10.out⟩
      · go_wp2
        go_ret
        exact ⟨rfl, HB10.out⟩
end Go.Proofs.YtmnlaijggoojkabGreatDoor
