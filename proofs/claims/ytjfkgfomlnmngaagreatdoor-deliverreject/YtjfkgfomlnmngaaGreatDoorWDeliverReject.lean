/-
  Who is turned away is told so, and the letter is nowhere: walked.
-/
import Derived.Test.YtjfkgfomlnmngaaGreatDoorQKeepLtr3
import Derived.Test.YtjfkgfomlnmngaaGreatDoorQRowGw6
import Derived.Deep.DeepCutAuto
namespace Go.Proofs.YtjfkgfomlnmngaaGreatDoor
open Go.RowKit Go.Proofs

set_option maxHeartbeats 2000000 in
set_option maxRecDepth 100000 in
theorem deliverReject_walk (w : World) (hm : TabsM w) (al : Option Addr) (cl : Nat) (ls : List Chr) (hG : ChsM (fun _ => True) w (.slice al ls.length cl) ls) (hW : ∀ x ∈ ls, chrW x) (fl fd fg tl td tg : ByteArray) (a : Option Addr) (c : Nat) (fs : List F) (body : ByteArray) (hF : FieldsAt w a fs) (hL : fs.length ≤ maxLen) (hB : ∀ f ∈ fs, f.1.length ≤ maxLen ∧ f.2.length ≤ maxLen) (hY : body.size ≤ maxLen) (s1 : fl.size ≤ maxLen) (s2 : fd.size ≤ maxLen) (s3 : tl.size ≤ maxLen) (s4 : td.size ≤ maxLen) (nx : ByteArray) (hN : nx.size ≤ maxLen) :
    Calls Tryz.prog 6 #[.slice al ls.length cl, .agg #[.string fl, .string fd, .string fg, .string tl, .string td, .string tg, .slice a fs.length c, .string body], .string nx] w fun e w' => e = .returned (.bool true) ∧ Below w.heap.size w w' := by
  have HM := hid hm
  have HMS := hid (stateP_may ls)
  obtain ⟨o, ho⟩ : ∃ o, o = ltrO fl fd tl td fs body := ⟨_, rfl⟩
  have HO := hid (show Opened o by rw [ho]; exact ltr_opened _ _ _ _ _ _)
  have HOL := hid (show lawful (o.fl, o.fd) by rw [ho]; exact adrOf_lawful _ _)
  obtain ⟨W0, hW0⟩ : ∃ W0, W0 = w.alloc (.cells #[.string fl, .string fd, .string fg, .string tl, .string td, .string tg, .slice a fs.length c, .string body] 27) := ⟨_, rfl⟩
  have HWE := hid hW0
  have HB0 := hid (show Below w.heap.size w W0 by rw [hW0]; exact (Below.refl _ _).alloc (Nat.le_refl _) _)
  have HP0 := hid (show W0.heap[w.heap.size]? = some (.cells #[.string fl, .string fd, .string fg, .string tl, .string td, .string tg, .slice a fs.length c, .string body] 27) by rw [hW0]; exact tl_at _ rfl)
  have HST := hid (state_any ls al cl W0 _ (hG.next HB0.out) hW)
  have HLt := hid (show ∀ u, Below w.heap.size w u → Calls Tryz.prog 8 #[.agg #[.string fl, .string fd, .string fg, .string tl, .string td, .string tg, .slice a fs.length c, .string body]] u (LtrP u o) from fun u hu => by
    rw [ho]
    exact letter_ok fl fd fg tl td tg a c fs body u (hF.below hu) hL hB hY s1 s2 s3 s4 (maxLenCell_below hm.2 hu))
  generalize stateP ls = s at *
  clear hm hF hL hB hY s1 s2 s3 s4 hW0 ho hG hW
  go_enter Tryz.func6, Tryz.ntmps6
  go_upto_region 1 with fail
  rw [← HWE.out]
  go_wp2_with fail
  refine HST.out.mono ?_
  rintro e w1 ⟨ab, nb, cb, aq, nq, cq, rfl, hS, hb1⟩
  simp only
  obtain ⟨ab', cb', e⟩ := RowM.slice hS.1
  simp only [Value.slice.injEq] at e
  obtain ⟨rfl, rfl, rfl⟩ := e
  obtain ⟨aq', cq', e⟩ := RowM.slice hS.2.1
  simp only [Value.slice.injEq] at e
  obtain ⟨rfl, rfl, rfl⟩ := e
  obtain ⟨W2, hW2⟩ : ∃ W2, W2 = w1.alloc (.cells #[.slice ab s.boxes.length cb, .slice aq s.spool.length cq] 31) := ⟨_, rfl⟩
  have HWE2 := hid hW2
  obtain ⟨SB, hSB⟩ : ∃ SB, SB = w1.heap.size := ⟨_, rfl⟩
  have HSB := hid hSB
  have hB2 : Below w1.heap.size w1 W2 := by rw [hW2]; exact (Below.refl _ _).alloc (Nat.le_refl _) _
  have HB2 := hid (show Below w.heap.size w W2 from (HB0.out.trans (hb1.mono HB0.out.size)).trans (hB2.mono (Nat.le_trans HB0.out.size hb1.size)))
  have HX2 := hid (show W2.heap[SB]? = some (.cells #[.slice ab s.boxes.length cb, .slice aq s.spool.length cq] 31) by rw [hW2, hSB]; exact tl_at _ rfl)
  have hP2 := tl_low hB2 (tl_low hb1 HP0.out)
  have p0 := tl_cell (j := 0) hP2 rfl
  have p1 := tl_cell (j := 1) hP2 rfl
  have p2 := tl_cell (j := 2) hP2 rfl
  have p3 := tl_cell (j := 3) hP2 rfl
  have p4 := tl_cell (j := 4) hP2 rfl
  have p5 := tl_cell (j := 5) hP2 rfl
  have p6 := tl_cell (j := 6) hP2 rfl
  have p7 := tl_cell (j := 7) hP2 rfl
  have HS2 := hid (hS.next hB2)
  clear hS hW2 hB2 hb1 hSB hP2
  go_upto_region 2 with fail
  rw [← HWE2.out]
  go_wp2_with fail
  refine (HLt.out W2 HB2.out).mono ?_
  rintro e w3 ⟨he, hb3⟩
  rw [show e = .returned (.tuple #[.agg #[.string (S o.fl), .string (S o.fd), .string (S o.tl), .string (S o.td), .string (S o.tx)], .bool true]) from he]
  simp only
  obtain ⟨W4, hW4⟩ : ∃ W4, W4 = w3.alloc (.cells #[.string (S o.fl), .string (S o.fd), .string (S o.tl), .string (S o.td), .string (S o.tx)] 36) := ⟨_, rfl⟩
  have HWE4 := hid hW4
  obtain ⟨LB, hLB⟩ : ∃ LB, LB = w3.heap.size := ⟨_, rfl⟩
  have HLB := hid hLB
  have hB4 : Below w3.heap.size w3 W4 := by rw [hW4]; exact (Below.refl _ _).alloc (Nat.le_refl _) _
  have hB24 : Below W2.heap.size W2 W4 := hb3.trans (hB4.mono hb3.size)
  have HB4 := hid (show Below w.heap.size w W4 from HB2.out.trans (hB24.mono HB2.out.size))
  have HX4 := hid (tl_low hB24 HX2.out)
  have HL4 := hid (show W4.heap[LB]? = some (.cells #[.string (S o.fl), .string (S o.fd), .string (S o.tl), .string (S o.td), .string (S o.tx)] 36) by rw [hW4, hLB]; exact tl_at _ rfl)
  have hX4 := HX4.out
  have x0 : W4.cell? ⟨SB, 0, none⟩ = some (.slice ab s.boxes.length cb) := tl_cell (j := 0) hX4 rfl
  have x1 : W4.cell? ⟨SB, 1, none⟩ = some (.slice aq s.spool.length cq) := tl_cell (j := 1) hX4 rfl
  have hL4 := HL4.out
  have l0 : W4.cell? ⟨LB, 0, none⟩ = some (.string (S o.fl)) := tl_cell (j := 0) hL4 rfl
  have l1 : W4.cell? ⟨LB, 1, none⟩ = some (.string (S o.fd)) := tl_cell (j := 1) hL4 rfl
  have l2 : W4.cell? ⟨LB, 2, none⟩ = some (.string (S o.tl)) := tl_cell (j := 2) hL4 rfl
  have l3 : W4.cell? ⟨LB, 3, none⟩ = some (.string (S o.td)) := tl_cell (j := 3) hL4 rfl
  have l4 : W4.cell? ⟨LB, 4, none⟩ = some (.string (S o.tx)) := tl_cell (j := 4) hL4 rfl
  have HS4 := hid ((HS2.out.next hB24).lows)
  have HTW := hid (show ∀ u, Below W4.heap.size W4 u → Tabs u from fun u hu => (HM.out.1.next HB4.out).next hu)
  have HMW := hid (show ∀ u, Below W4.heap.size W4 u → maxLenCell u from fun u hu => maxLenCell_below (maxLenCell_below HM.out.2 HB4.out) hu)
  clear he hb3 hW4 hB4 hB24 hX4 hL4 hLB HST HLt HS2 HX2 HWE HM
  go_upto_region 3 with fail
  rw [← HWE4.out, ← HLB.out, ← HSB.out]
  clear HWE4 HLB HSB HWE2 HP0 p0 p1 p2 p3 p4 p5 p6 p7
  obtain ⟨t, ht⟩ : ∃ t, t = cutL nx 12 := ⟨_, rfl⟩
  have HSH := hid (short_t nx W4 hN)
  rw [← ht] at HSH
  have HPT := hid (part_one HOL.out)
  obtain ⟨fr, hfr⟩ : ∃ fr, fr = textA (o.fl, o.fd) := ⟨_, rfl⟩
  have HGO := hid (show goalM fr = 0 by rw [hfr]; exact goal_text HOL.out)
  rw [← hfr] at HPT
  have HTL := hid (show t.length ≤ 12 by rw [ht]; exact cutL_len _ _)
  obtain ⟨E, hE⟩ : ∃ E, E = outE fr t := ⟨_, rfl⟩
  have HEE := hid hE
  have HFE := hid (show Formed E by rw [hE]; exact out_formed HGO.out (by have := HTL.out; omega))
  have HPL := hid (show [E] = plan s.boxes o (endP (judgeP o 3 [reqC, rejC t])) by rw [hE, ← plan_rej, show (partM 1 o.fl o.fd) = (fr, 0) from HPT.out])
  have HK6' := hid (show doM s E = if 20 ≤ s.spool.length then .error 5 else .ok ⟨s.boxes, s.spool ++ [E]⟩ from doM_k6 (by rw [hE]; rfl))
  have HPA := hid (show ∀ u, Calls Tryz.prog 17 #[.int .i64 1, .agg #[.string (S o.fl), .string (S o.fd)]] u fun e w' => e = .returned (.tuple #[.string (S fr), .int .i64 0]) ∧ Below u.heap.size u w' from fun u => by
    have h := part_any 1 (S o.fl) (S o.fd) u (by rw [size_S]; have := HOL.out.len.1; simp at this; omega) (by rw [size_S]; have := HOL.out.len.2; simp at this; omega)
    rw [list_S, list_S, show (partM 1 o.fl o.fd) = (fr, 0) from HPT.out] at h
    exact h)
  have HDV := hid (show ∀ (u : World) (p : Nat) (v0 v1 v2 v3 v4 v5 v6 v7 v8 v9 v10 v11 : Value), Below W4.heap.size W4 u → (∃ q, u.heap[p]? = some (.cells #[v0, v1, v2, v3, v4, v5, v6, v7, v8, v9, v10, v11, .int .i64 7, .slice (some ⟨q, 0, none⟩) 1 1, .int .i64 0, .int .i64 0, .int .i64 0, .slice none 0 0, .slice none 0 0, .bool false, .int .i64 0, .slice none 0 0, .slice none 0 0, .slice none 0 0] 54) ∧ u.heap[q]? = some (.cells #[.string (S t)] 9)) → CmdM anyB 2 u reqC [v0, v1, v2, v3, v4, v5, v6, v7, v8, v9, v10, v11] → Calls Tryz.prog 9 #[.agg #[.slice ab s.boxes.length cb, .slice aq s.spool.length cq], .agg #[.string (S o.fl), .string (S o.fd), .string (S o.tl), .string (S o.td), .string (S o.tx)], .slice (some ⟨p, 0, none⟩) 2 2] u (DlvG W4 u s E) from fun u p v0 v1 v2 v3 v4 v5 v6 v7 v8 v9 v10 v11 hu ⟨q, h1, h2⟩ h3 =>
    (deliver_ok 2 [reqC, rejC t] (some ⟨p, 0, none⟩) 2 o s _ _ u (HTW.out _ hu) (HMW.out _ hu) HO.out (Nat.le_refl _) (fun h => by cases h) (scr_rej t).short (row2 h1 h2 h3) (scr_rej t).rule (scr_rej t).good _ (HS4.out.next hu) HMS.out [E] HPL.out (fun x hx => by rw [List.mem_singleton.1 hx]; exact HFE.out)).mono fun e w' h => h.gen hu)
  have HKS := hid (show ∀ u, Below W4.heap.size W4 u → (u.cell? ⟨SB, 0, none⟩ = some (.slice ab s.boxes.length cb) ∧ u.cell? ⟨SB, 1, none⟩ = some (.slice aq s.spool.length cq) ∧ u.cell? ⟨LB, 0, none⟩ = some (.string (S o.fl)) ∧ u.cell? ⟨LB, 1, none⟩ = some (.string (S o.fd)) ∧ u.cell? ⟨LB, 2, none⟩ = some (.string (S o.tl)) ∧ u.cell? ⟨LB, 3, none⟩ = some (.string (S o.td)) ∧ u.cell? ⟨LB, 4, none⟩ = some (.string (S o.tx))) from fun u hu => ⟨wcell_next x0 hu, wcell_next x1 hu, wcell_next l0 hu, wcell_next l1 hu, wcell_next l2 hu, wcell_next l3 hu, wcell_next l4 hu⟩)
  clear hE ht hfr hN
  go_wp2_with fail
  refine HSH.out.mono ?_
  rintro e w5 ⟨rfl, hw5⟩
  rw [hw5]
  clear hw5 w5
  simp only
  have HRQ0 := hid (requires_f W4.drew)
  have HRQ1 := hid (requires_f (W4.alloc (.cells #[.string (S t)] 9)).drew)
  have HRQ2 := hid (requires_f (W4.alloc (.cells #[.slice none 0 0, .slice none 0 0] 31)).drew)
  have HRQ3 := hid (requires_f ((W4.alloc (.cells #[.string (S t)] 9)).alloc (.cells #[.slice none 0 0, .slice none 0 0] 31)).drew)
  have HRQ4 := hid (requires_f ((W4.alloc (.cells #[.slice none 0 0, .slice none 0 0] 31)).alloc (.cells #[.string (S t)] 9)).drew)
  go_wp2_with fail
  go_cut [11, 12, 13] (fun vx vt ve wx => DlvB W4 s E vx vt ve wx)
  case first =>
    go_region_held3 (fun w' => w'.cell? ⟨SB, 0, none⟩ = some (.slice ab s.boxes.length cb) ∧ w'.cell? ⟨SB, 1, none⟩ = some (.slice aq s.spool.length cq) ∧ w'.cell? ⟨LB, 0, none⟩ = some (.string (S o.fl)) ∧ w'.cell? ⟨LB, 1, none⟩ = some (.string (S o.fd)) ∧ w'.cell? ⟨LB, 2, none⟩ = some (.string (S o.tl)) ∧ w'.cell? ⟨LB, 3, none⟩ = some (.string (S o.td)) ∧ w'.cell? ⟨LB, 4, none⟩ = some (.string (S o.tx))) (first | go_keep | (refine HKS.out _ ?_; (repeat (first | exact HB8.out | exact HB6.out | exact Below.refl _ _ | refine Below.drew ?_ | refine Below.alloc ?_ (by first | exact Nat.le_refl _ | exact HZ8.out | exact HZ6.out | (have := HZ6.out; simp; omega) | (simp <;> omega) | simp) _ | refine Below.setCell ?_ (by first | exact HPP.out | (have := HZ6.out; simp; omega) | simp) _))) | fail)
      (first
        | (go_at_call 13
           with_reducible refine HRQ0.out.mono ?_
           rintro e w6 ⟨v0, v1, v2, v3, v4, v5, v6, v7, v8, v9, v10, v11, rfl, hR6, hb6⟩
           have HB6 := hid (show Below W4.heap.size W4 w6 from (show Below W4.heap.size W4 W4.drew by repeat (first | exact Below.refl _ _ | refine Below.drew ?_ | refine Below.alloc ?_ (by first | exact Nat.le_refl _ | simp) _)).trans (hb6.mono (by simp <;> omega)))
           have HZ6 := hid HB6.out.size
           have HR6 := hid (CmdM.imp (Q' := anyB) (fun _ _ => trivial) (Keeps.refl _ _) _ _ _ hR6)
           clear hR6 hb6)
        | (go_at_call 13
           with_reducible refine HRQ1.out.mono ?_
           rintro e w6 ⟨v0, v1, v2, v3, v4, v5, v6, v7, v8, v9, v10, v11, rfl, hR6, hb6⟩
           have HB6 := hid (show Below W4.heap.size W4 w6 from (show Below W4.heap.size W4 (W4.alloc (.cells #[.string (S t)] 9)).drew by repeat (first | exact Below.refl _ _ | refine Below.drew ?_ | refine Below.alloc ?_ (by first | exact Nat.le_refl _ | simp) _)).trans (hb6.mono (by simp <;> omega)))
           have HZ6 := hid HB6.out.size
           have HR6 := hid (CmdM.imp (Q' := anyB) (fun _ _ => trivial) (Keeps.refl _ _) _ _ _ hR6)
           have HA6 := hid (tl_low hb6 (show (W4.alloc (.cells #[.string (S t)] 9)).drew.heap[W4.heap.size]? = some (.cells #[.string (S t)] 9) from tl_at (w := W4) _ rfl))
           clear hR6 hb6)
        | (go_at_call 13
           with_reducible refine HRQ2.out.mono ?_
           rintro e w6 ⟨v0, v1, v2, v3, v4, v5, v6, v7, v8, v9, v10, v11, rfl, hR6, hb6⟩
           have HB6 := hid (show Below W4.heap.size W4 w6 from (show Below W4.heap.size W4 (W4.alloc (.cells #[.slice none 0 0, .slice none 0 0] 31)).drew by repeat (first | exact Below.refl _ _ | refine Below.drew ?_ | refine Below.alloc ?_ (by first | exact Nat.le_refl _ | simp) _)).trans (hb6.mono (by simp <;> omega)))
           have HZ6 := hid HB6.out.size
           have HR6 := hid (CmdM.imp (Q' := anyB) (fun _ _ => trivial) (Keeps.refl _ _) _ _ _ hR6)
           have HK6 := hid (tl_low hb6 (show (W4.alloc (.cells #[.slice none 0 0, .slice none 0 0] 31)).drew.heap[W4.heap.size]? = some (.cells #[.slice none 0 0, .slice none 0 0] 31) from tl_at (w := W4) _ rfl))
           have HL6 := hid (Array.getElem?_eq_some_iff.1 HK6.out).1
           clear hR6 hb6)
        | (go_at_call 13
           with_reducible refine HRQ3.out.mono ?_
           rintro e w6 ⟨v0, v1, v2, v3, v4, v5, v6, v7, v8, v9, v10, v11, rfl, hR6, hb6⟩
           have HB6 := hid (show Below W4.heap.size W4 w6 from (show Below W4.heap.size W4 ((W4.alloc (.cells #[.string (S t)] 9)).alloc (.cells #[.slice none 0 0, .slice none 0 0] 31)).drew by repeat (first | exact Below.refl _ _ | refine Below.drew ?_ | refine Below.alloc ?_ (by first | exact Nat.le_refl _ | simp) _)).trans (hb6.mono (by simp <;> omega)))
           have HZ6 := hid HB6.out.size
           have HR6 := hid (CmdM.imp (Q' := anyB) (fun _ _ => trivial) (Keeps.refl _ _) _ _ _ hR6)
           have HA6 := hid (tl_low hb6 (show ((W4.alloc (.cells #[.string (S t)] 9)).alloc (.cells #[.slice none 0 0, .slice none 0 0] 31)).drew.heap[W4.heap.size]? = some (.cells #[.string (S t)] 9) from tl_old _ (tl_at (w := W4) _ rfl)))
           have HK6 := hid (tl_low hb6 (show ((W4.alloc (.cells #[.string (S t)] 9)).alloc (.cells #[.slice none 0 0, .slice none 0 0] 31)).drew.heap[W4.heap.size + 1]? = some (.cells #[.slice none 0 0, .slice none 0 0] 31) from tl_at _ (by simp)))
           have HL6 := hid (Array.getElem?_eq_some_iff.1 HK6.out).1
           clear hR6 hb6)
        | (go_at_call 13
           with_reducible refine HRQ4.out.mono ?_
           rintro e w6 ⟨v0, v1, v2, v3, v4, v5, v6, v7, v8, v9, v10, v11, rfl, hR6, hb6⟩
           have HB6 := hid (show Below W4.heap.size W4 w6 from (show Below W4.heap.size W4 ((W4.alloc (.cells #[.slice none 0 0, .slice none 0 0] 31)).alloc (.cells #[.string (S t)] 9)).drew by repeat (first | exact Below.refl _ _ | refine Below.drew ?_ | refine Below.alloc ?_ (by first | exact Nat.le_refl _ | simp) _)).trans (hb6.mono (by simp <;> omega)))
           have HZ6 := hid HB6.out.size
           have HR6 := hid (CmdM.imp (Q' := anyB) (fun _ _ => trivial) (Keeps.refl _ _) _ _ _ hR6)
           have HK6 := hid (tl_low hb6 (show ((W4.alloc (.cells #[.slice none 0 0, .slice none 0 0] 31)).alloc (.cells #[.string (S t)] 9)).drew.heap[W4.heap.size]? = some (.cells #[.slice none 0 0, .slice none 0 0] 31) from tl_old _ (tl_at (w := W4) _ rfl)))
           have HL6 := hid (Array.getElem?_eq_some_iff.1 HK6.out).1
           have HA6 := hid (tl_low hb6 (show ((W4.alloc (.cells #[.slice none 0 0, .slice none 0 0] 31)).alloc (.cells #[.string (S t)] 9)).drew.heap[W4.heap.size + 1]? = some (.cells #[.string (S t)] 9) from tl_at _ (by simp)))
           clear hR6 hb6)
        | (go_at_call 9
           refine (HDV.out _ _ v0 v1 v2 v3 v4 v5 v6 v7 v8 v9 v10 v11 ?_ ?_ ?_).mono ?_
           · repeat (first | exact HB6.out | refine Below.alloc ?_ (by have := HZ6.out; first | exact this | (simp <;> omega) | omega) _)
           · apply Exists.intro
             apply And.intro
             · repeat (first | exact tl_at _ (by simp) | refine tl_old _ ?_)
             · repeat (first | exact HA6.out | exact tl_at _ (by simp) | refine tl_old _ ?_)
           · refine CmdM.imp (fun _ h => h) ?_ _ _ _ HR6.out
             repeat (first | exact Keeps.refl _ _ | refine Keeps.more ?_ _)
           rintro e w8 ⟨a8, n8, c8, a1, n1, d1, a2, n2, d2, z8, rfl, hF8, hb8, hB8, hU8⟩
           have HF8 := hid hF8
           have HU8 := hid hU8
           have HB8 := hid hB8
           have HZ8 := hid hB8.size
           first
             | (have HK8 : Hid (w8.heap[W4.heap.size]? = some (.cells #[.slice none 0 0, .slice none 0 0] 31)) := hid (tl_low hb8 (tl_old _ (tl_old _ HK6.out))); have hk8 := HK8.out; have y0 := box_free hk8 0; have y1 := box_free hk8 1; have z0 : w8.cell? ⟨W4.heap.size, 0, none⟩ = some (.slice none 0 0) := tl_cell (j := 0) hk8 rfl; have z1 : w8.cell? ⟨W4.heap.size, 1, none⟩ = some (.slice none 0 0) := tl_cell (j := 1) hk8 rfl; clear hk8)
             | (have HK8 : Hid (w8.heap[W4.heap.size]? = some (.cells #[.slice none 0 0, .slice none 0 0] 31)) := hid (tl_low hb8 (tl_old _ HK6.out)); have hk8 := HK8.out; have y0 := box_free hk8 0; have y1 := box_free hk8 1; have z0 : w8.cell? ⟨W4.heap.size, 0, none⟩ = some (.slice none 0 0) := tl_cell (j := 0) hk8 rfl; have z1 : w8.cell? ⟨W4.heap.size, 1, none⟩ = some (.slice none 0 0) := tl_cell (j := 1) hk8 rfl; clear hk8)
             | (have HK8 : Hid (w8.heap[W4.heap.size + 1]? = some (.cells #[.slice none 0 0, .slice none 0 0] 31)) := hid (tl_low hb8 (tl_old _ (tl_old _ HK6.out))); have hk8 := HK8.out; have y0 := box_free hk8 0; have y1 := box_free hk8 1; have z0 : w8.cell? ⟨W4.heap.size + 1, 0, none⟩ = some (.slice none 0 0) := tl_cell (j := 0) hk8 rfl; have z1 : w8.cell? ⟨W4.heap.size + 1, 1, none⟩ = some (.slice none 0 0) := tl_cell (j := 1) hk8 rfl; clear hk8)
             | (have HK8 : Hid (w8.heap[W4.heap.size + 1]? = some (.cells #[.slice none 0 0, .slice none 0 0] 31)) := hid (tl_low hb8 (tl_old _ HK6.out)); have hk8 := HK8.out; have y0 := box_free hk8 0; have y1 := box_free hk8 1; have z0 : w8.cell? ⟨W4.heap.size + 1, 0, none⟩ = some (.slice none 0 0) := tl_cell (j := 0) hk8 rfl; have z1 : w8.cell? ⟨W4.heap.size + 1, 1, none⟩ = some (.slice none 0 0) := tl_cell (j := 1) hk8 rfl; clear hk8)
             | (have HK8 : Hid (w8.heap[w6.heap.size + 2]? = some (.cells #[.slice none 0 0, .slice none 0 0] 31)) := hid (tl_low hb8 (tl_at2 _ _ _)); have hk8 := HK8.out; have y0 := box_free hk8 0; have y1 := box_free hk8 1; have z0 : w8.cell? ⟨w6.heap.size + 2, 0, none⟩ = some (.slice none 0 0) := tl_cell (j := 0) hk8 rfl; have z1 : w8.cell? ⟨w6.heap.size + 2, 1, none⟩ = some (.slice none 0 0) := tl_cell (j := 1) hk8 rfl; clear hk8)
             | (have HK8 : Hid (w8.heap[w6.heap.size + 1]? = some (.cells #[.slice none 0 0, .slice none 0 0] 31)) := hid (tl_low hb8 (tl_at1 _ _)); have hk8 := HK8.out; have y0 := box_free hk8 0; have y1 := box_free hk8 1; have z0 : w8.cell? ⟨w6.heap.size + 1, 0, none⟩ = some (.slice none 0 0) := tl_cell (j := 0) hk8 rfl; have z1 : w8.cell? ⟨w6.heap.size + 1, 1, none⟩ = some (.slice none 0 0) := tl_cell (j := 1) hk8 rfl; clear hk8)
             | (have HK8 : Hid (w8.heap[w6.heap.size + 1]? = some (.cells #[.slice none 0 0, .slice none 0 0] 31)) := hid (tl_low hb8 (tl_old _ (tl_at1 _ _))); have hk8 := HK8.out; have y0 := box_free hk8 0; have y1 := box_free hk8 1; have z0 : w8.cell? ⟨w6.heap.size + 1, 0, none⟩ = some (.slice none 0 0) := tl_cell (j := 0) hk8 rfl; have z1 : w8.cell? ⟨w6.heap.size + 1, 1, none⟩ = some (.slice none 0 0) := tl_cell (j := 1) hk8 rfl; clear hk8)
             | (have HK8 : Hid (w8.heap[w6.heap.size]? = some (.cells #[.slice none 0 0, .slice none 0 0] 31)) := hid (tl_low hb8 (tl_old _ (tl_at _ rfl))); have hk8 := HK8.out; have y0 := box_free hk8 0; have y1 := box_free hk8 1; have z0 : w8.cell? ⟨w6.heap.size, 0, none⟩ = some (.slice none 0 0) := tl_cell (j := 0) hk8 rfl; have z1 : w8.cell? ⟨w6.heap.size, 1, none⟩ = some (.slice none 0 0) := tl_cell (j := 1) hk8 rfl; clear hk8)
             | (have HK8 : Hid (w8.heap[w6.heap.size]? = some (.cells #[.slice none 0 0, .slice none 0 0] 31)) := hid (tl_low hb8 (tl_old _ (tl_old _ (tl_at _ rfl)))); have hk8 := HK8.out; have y0 := box_free hk8 0; have y1 := box_free hk8 1; have z0 : w8.cell? ⟨w6.heap.size, 0, none⟩ = some (.slice none 0 0) := tl_cell (j := 0) hk8 rfl; have z1 : w8.cell? ⟨w6.heap.size, 1, none⟩ = some (.slice none 0 0) := tl_cell (j := 1) hk8 rfl; clear hk8)
             | skip
           clear hF8 hb8 hB8 hU8)
        | fail)
    all_goals
      first
        | (have HE := hid (DlvB.old HF8.out HU8.out HB8.out (by have := HZ6.out; omega) (by first | (have := HL6.out; have := HZ6.out; simp; omega) | (have := HZ6.out; simp; omega) | simp) HK8.out)
           go_wp2_with fail
           go_meet
           exact HE.out)
        | (have HE := hid (DlvB.new HF8.out HU8.out HB8.out)
           go_wp2_with fail
           go_meet
           exact HE.out)
  case rest =>
    obtain ⟨P, a8, n8, c8, a1, n1, d1, a2, n2, d2, z8, rfl, rfl, rfl, hP, hbc, hT, hd⟩ := hcut
    have h20 := HMS.out.spool
    have x0 := wcell_next x0 hbc
    have x1 := wcell_next x1 hbc
    have HBC := hid (show Below w.heap.size w wc from HB4.out.trans (hbc.mono HB4.out.size))
    by_cases hful : 20 ≤ s.spool.length
    · rw [HK6'.out, if_pos hful] at hd
      obtain ⟨rfl, rfl⟩ := hd
      have hl : (s.spool.length : Int) = 20 := by omega
      clear hbc hT hful h20 hP
      go_wp2
      go_ret
      exact ⟨by first | rfl | simp, HBC.out⟩
    · have hMt := doM_may HMS.out HFE.out (by rw [HK6'.out, if_neg hful])
      rw [HK6'.out, if_neg hful] at hd
      obtain ⟨rfl, rfl, vm, hY, hO, hnp⟩ := hd
      obtain ⟨e1, e1'⟩ : n1 = s.boxes.length ∧ n2 = s.spool.length + 1 := by
        obtain ⟨_, _, e⟩ := bown_slice hO.boxes
        obtain ⟨_, _, e'⟩ := bown_slice hO.spool
        simp only [Value.slice.injEq] at e e'
        exact ⟨e.2.1, by rw [e'.2.1]; simp⟩
      subst e1 e1'
      have hl : ¬ (s.spool.length : Int) = 20 := by omega
      have hl2 : ((s.spool.length : Int) == 20) = false := by simp; omega
      have l0 := wcell_next l0 hbc
      have l1 := wcell_next l1 hbc
      have HPW := hid (HPA.out wc)
      have HBW := hid hbc
      have HT := hid hT
      have HSt := hid (hO.stt (Q := fun k => k ≠ P) hMt (fun g hg e => hnp (by rw [← e]; exact hg)))
      have HY := hid hY
      have hcap : s.spool.length + 1 ≤ d2 := by
        rcases hO.spool.2 with ⟨e, _⟩ | ⟨g, cap, cur, e, _, _, h1, _⟩
        · simp only [Value.slice.injEq] at e; omega
        · simp only [Value.slice.injEq, List.length_append, List.length_cons, List.length_nil] at e h1
          omega
      have hSP : SB < W4.heap.size := (Array.getElem?_eq_some_iff.1 HX4.out).1
      clear hful hMt hY hO hnp hT hbc
      go_wp2_with fail
      refine HPW.out.mono ?_
      rintro e w10 ⟨rfl, hb10⟩
      simp only
      have HB10 := hid (show Below w.heap.size w w10 from HBC.out.trans (hb10.mono HBC.out.size))
      have HB4X := hid (show Below W4.heap.size W4 w10 from HBW.out.trans (hb10.mono HBW.out.size))
      have hT10 := tl_low hb10 HT.out
      have hSt10 := HSt.out.next hb10
      obtain ⟨gb, go, eg, hgb, m0, m1, m2, m3, m4, m5⟩ := (HY.out.next hb10).at (i := 0) (x := E) rfl
      subst eg
      simp only [Nat.zero_mul, Nat.add_zero] at m0 m1 m2 m3 m4 m5
      rw [HEE.out] at m0 m1 m2 m3 m4 m5
      obtain ⟨u0, u1, uf0, uf1⟩ := box2f hT10
      have hset := heap_setCell_same w10 P 1 #[.slice a1 s.boxes.length d1, .slice a2 (s.spool.length + 1) d2] 31 (.slice a2 s.spool.length d2) hT10
      have hset' : (w10.setCell ⟨P, 1, none⟩ (.slice a2 s.spool.length d2)).heap[P]? = some (.cells #[.slice a1 s.boxes.length d1, .slice a2 s.spool.length d2] 31) := by rw [hset]; rfl
      obtain ⟨W11, hW11⟩ : ∃ W11, W11 = w10.setCell ⟨P, 1, none⟩ (.slice a2 s.spool.length d2) := ⟨_, rfl⟩
      have HWE11 := hid hW11
      have hcell : ∀ b i v, w10.cell? ⟨b, i, none⟩ = some v → b ≠ P → W11.cell? ⟨b, i, none⟩ = some v := fun b i v h hb => (World.cell?_of_block (w := w10) (by rw [hW11]; exact set_other hb)).trans h
      rw [← hW11] at hset'
      obtain ⟨v0, v1, _, _⟩ := box2f hset'
      have hSPn : SB ≠ P := by omega
      have x0 := hcell _ _ _ (wcell_next x0 hb10) hSPn
      have x1 := hcell _ _ _ (wcell_next x1 hb10) hSPn
      have m0 : W11.cell? ⟨gb, go, none⟩ = some (.int .i64 6) := hcell _ _ _ m0 hgb
      have m1 : W11.cell? ⟨gb, go + 1, none⟩ = some (.string ⟨#[]⟩) := hcell _ _ _ m1 hgb
      have m2 : W11.cell? ⟨gb, go + 2, none⟩ = some (.int .i64 0) := hcell _ _ _ m2 hgb
      have m3 : W11.cell? ⟨gb, go + 3, none⟩ = some (.int .i64 0) := hcell _ _ _ m3 hgb
      have m4 : W11.cell? ⟨gb, go + 4, none⟩ = some (.string (S fr)) := hcell _ _ _ m4 hgb
      have m5 : W11.cell? ⟨gb, go + 5, none⟩ = some (.string (S t)) := hcell _ _ _ m5 hgb
      have hK : Keeps (fun k => k ≠ P) w10 W11 := by rw [hW11]; exact Keeps.set w10 (p := ⟨P, 1, none⟩) _ fun b hb => hb
      have hA : SttM (fun k => k ≠ P) W11 (.slice ab s.boxes.length cb) (.slice aq s.spool.length cq) s := ((HS4.out.imp (Q' := fun k => k ≠ P) (fun k h => by show k ≠ P; omega) (Keeps.refl _ _)).next HB4X.out).imp (fun _ h => h) hK
      have hU0 : SttM (fun k => k ≠ P) w10 (.slice a1 s.boxes.length d1) (.slice a2 s.spool.length d2) s := by
        obtain ⟨h1, h2, h3⟩ := hSt10
        refine ⟨h1, ?_, h3⟩
        obtain ⟨a', c', e, hm, hr⟩ := h2
        simp only [Value.slice.injEq, List.length_append, List.length_cons, List.length_nil, true_and] at e
        obtain ⟨rfl, rfl⟩ := e
        refine ⟨_, _, rfl, by unfold maxLen; omega, fun i y hy => ?_⟩
        have hi : i < s.spool.length := (List.getElem?_eq_some_iff.1 hy).1
        exact hr i y (by rw [List.getElem?_append_left hi]; exact hy)
      have HSA := hid (sameState_any s _ _ _ _ W11 _ _ hA (hU0.imp (fun _ h => h) hK))
      have HB11 := hid (show Below w.heap.size w W11 by
        rw [hW11]
        exact HB10.out.setCell (Nat.le_trans HB4.out.size hP) _)
      have k0 : (0 : Int) ≤ (s.spool.length : Int) := by omega
      have k1 : (s.spool.length : Int) < (s.spool.length : Int) + 1 := by omega
      have k2 : (s.spool.length : Int) ≤ (d2 : Int) := by omega
      have k3 : ¬ (s.spool.length : Int) + 1 = 0 := by omega
      have k4 : ((s.spool.length : Int) + 1 == 0) = false := by simp; omega
      clear hb10 hT10 hSt10 hset hset' hW11 hcell hK hA hU0 hcap hSP hSPn hP hgb
      go_upto_region 11 with fail
      rw [← HWE11.out]
      go_wp2_with fail
      refine HSA.out.mono ?_
      rintro e w12 ⟨rfl, hb12⟩
      simp only
      have HB12 := hid (show Below w.heap.size w w12 from HB11.out.trans (hb12.mono HB11.out.size))
      clear hb12
      go_wp2
      go_ret
      exact ⟨by first | rfl | simp, HB12.out⟩
end Go.Proofs.YtjfkgfomlnmngaaGreatDoor
