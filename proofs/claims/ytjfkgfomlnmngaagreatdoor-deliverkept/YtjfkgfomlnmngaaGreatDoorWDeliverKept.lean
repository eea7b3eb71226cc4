/-
  Without a script a letter comes to the inbox, and nowhere else: walked.
-/
import Derived.Test.YtjfkgfomlnmngaaGreatDoorQKeepLtr3
namespace Go.Proofs.YtjfkgfomlnmngaaGreatDoor
open Go.RowKit Go.Proofs

set_option maxHeartbeats 2000000 in
set_option maxRecDepth 100000 in
theorem deliverKept_walk (w : World) (hm : TabsM w) (al : Option Addr) (cl : Nat) (ls : List Chr) (hG : ChsM (fun _ => True) w (.slice al ls.length cl) ls) (hW : ∀ x ∈ ls, chrW x) (fl fd fg tl td tg : ByteArray) (a : Option Addr) (c : Nat) (fs : List F) (body : ByteArray) (hF : FieldsAt w a fs) (hL : fs.length ≤ maxLen) (hB : ∀ f ∈ fs, f.1.length ≤ maxLen ∧ f.2.length ≤ maxLen) (hY : body.size ≤ maxLen) (s1 : fl.size ≤ maxLen) (s2 : fd.size ≤ maxLen) (s3 : tl.size ≤ maxLen) (s4 : td.size ≤ maxLen) :
    Calls Tryz.prog 3 #[.slice al ls.length cl, .agg #[.string fl, .string fd, .string fg, .string tl, .string td, .string tg, .slice a fs.length c, .string body]] w fun e w' => e = .returned (.bool true) ∧ Below w.heap.size w w' := by
  have HM := hid hm
  have HMS := hid (stateP_may ls)
  obtain ⟨o, ho⟩ : ∃ o, o = ltrO fl fd tl td fs body := ⟨_, rfl⟩
  have HO := hid (show Opened o by rw [ho]; exact ltr_opened _ _ _ _ _ _)
  have HOL := hid (show lawful (o.fl, o.fd) by rw [ho]; exact adrOf_lawful _ _)
  obtain ⟨W0, hW0⟩ : ∃ W0, W0 = w.alloc (.cells #[.string fl, .string fd, .string fg, .string tl, .string td, .string tg, .slice a fs.length c, .string body] 27) := ⟨_, rfl⟩
  have HWE := hid hW0
  have HB0 := hid (show Below w.heap.size w W0 by rw [hW0]; exact (Below.refl _ _).alloc (Nat.le_refl _) _)
  have HP0 := hid (show W0.heap[w.heap.size]? = some (.cells #[.string fl, .string fd, .string fg, .string tl, .string td, .string tg, .slice a fs.length c, .string body] 27) by rw [hW0]; exact tl_at _ rfl)
  have HST := hid (state_any ls al cl W0 _ (hG.next HB0.out) hW)
  have HLt := hid (show ∀ u, Below w.heap.size w u → Calls Tryz.prog 8 #[.agg #[.string fl, .string fd, .string fg, .string tl, .string td, .string tg, .slice a fs.length c, .string body]] u (LtrP u o) from fun u hu => by
    rw [ho]
    exact letter_ok fl fd fg tl td tg a c fs body u (hF.below hu) hL hB hY s1 s2 s3 s4 (maxLenCell_below hm.2 hu))
  generalize stateP ls = s at *
  clear hm hF hL hB hY s1 s2 s3 s4 hW0 ho hG hW
  go_enter Tryz.func3, Tryz.ntmps3
  go_upto_region 1 with fail
  rw [← HWE.out]
  go_wp2_with fail
  refine HST.out.mono ?_
  rintro e w1 ⟨ab, nb, cb, aq, nq, cq, rfl, hS, hb1⟩
  simp only
  obtain ⟨ab', cb', e⟩ := RowM.slice hS.1
  simp only [Value.slice.injEq] at e
  obtain ⟨rfl, rfl, rfl⟩ := e
  obtain ⟨aq', cq', e⟩ := RowM.slice hS.2.1
  simp only [Value.slice.injEq] at e
  obtain ⟨rfl, rfl, rfl⟩ := e
  obtain ⟨W2, hW2⟩ : ∃ W2, W2 = w1.alloc (.cells #[.slice ab s.boxes.length cb, .slice aq s.spool.length cq] 31) := ⟨_, rfl⟩
  have HWE2 := hid hW2
  obtain ⟨SB, hSB⟩ : ∃ SB, SB = w1.heap.size := ⟨_, rfl⟩
  have HSB := hid hSB
  have hB2 : Below w1.heap.size w1 W2 := by rw [hW2]; exact (Below.refl _ _).alloc (Nat.le_refl _) _
  have HB2 := hid (show Below w.heap.size w W2 from (HB0.out.trans (hb1.mono HB0.out.size)).trans (hB2.mono (Nat.le_trans HB0.out.size hb1.size)))
  have HX2 := hid (show W2.heap[SB]? = some (.cells #[.slice ab s.boxes.length cb, .slice aq s.spool.length cq] 31) by rw [hW2, hSB]; exact tl_at _ rfl)
  have hP2 := tl_low hB2 (tl_low hb1 HP0.out)
  have p0 := tl_cell (j := 0) hP2 rfl
  have p1 := tl_cell (j := 1) hP2 rfl
  have p2 := tl_cell (j := 2) hP2 rfl
  have p3 := tl_cell (j := 3) hP2 rfl
  have p4 := tl_cell (j := 4) hP2 rfl
  have p5 := tl_cell (j := 5) hP2 rfl
  have p6 := tl_cell (j := 6) hP2 rfl
  have p7 := tl_cell (j := 7) hP2 rfl
  have HS2 := hid (hS.next hB2)
  clear hS hW2 hB2 hb1 hSB hP2
  go_upto_region 2 with fail
  rw [← HWE2.out]
  go_wp2_with fail
  refine (HLt.out W2 HB2.out).mono ?_
  rintro e w3 ⟨he, hb3⟩
  rw [show e = .returned (.tuple #[.agg #[.string (S o.fl), .string (S o.fd), .string (S o.tl), .string (S o.td), .string (S o.tx)], .bool true]) from he]
  simp only
  obtain ⟨W4, hW4⟩ : ∃ W4, W4 = w3.alloc (.cells #[.string (S o.fl), .string (S o.fd), .string (S o.tl), .string (S o.td), .string (S o.tx)] 36) := ⟨_, rfl⟩
  have HWE4 := hid hW4
  obtain ⟨LB, hLB⟩ : ∃ LB, LB = w3.heap.size := ⟨_, rfl⟩
  have HLB := hid hLB
  have hB4 : Below w3.heap.size w3 W4 := by rw [hW4]; exact (Below.refl _ _).alloc (Nat.le_refl _) _
  have hB24 : Below W2.heap.size W2 W4 := hb3.trans (hB4.mono hb3.size)
  have HB4 := hid (show Below w.heap.size w W4 from HB2.out.trans (hB24.mono HB2.out.size))
  have HX4 := hid (tl_low hB24 HX2.out)
  have HL4 := hid (show W4.heap[LB]? = some (.cells #[.string (S o.fl), .string (S o.fd), .string (S o.tl), .string (S o.td), .string (S o.tx)] 36) by rw [hW4, hLB]; exact tl_at _ rfl)
  have hX4 := HX4.out
  have x0 : W4.cell? ⟨SB, 0, none⟩ = some (.slice ab s.boxes.length cb) := tl_cell (j := 0) hX4 rfl
  have x1 : W4.cell? ⟨SB, 1, none⟩ = some (.slice aq s.spool.length cq) := tl_cell (j := 1) hX4 rfl
  have hL4 := HL4.out
  have l0 : W4.cell? ⟨LB, 0, none⟩ = some (.string (S o.fl)) := tl_cell (j := 0) hL4 rfl
  have l1 : W4.cell? ⟨LB, 1, none⟩ = some (.string (S o.fd)) := tl_cell (j := 1) hL4 rfl
  have l2 : W4.cell? ⟨LB, 2, none⟩ = some (.string (S o.tl)) := tl_cell (j := 2) hL4 rfl
  have l3 : W4.cell? ⟨LB, 3, none⟩ = some (.string (S o.td)) := tl_cell (j := 3) hL4 rfl
  have l4 : W4.cell? ⟨LB, 4, none⟩ = some (.string (S o.tx)) := tl_cell (j := 4) hL4 rfl
  have HS4 := hid ((HS2.out.next hB24).lows)
  have HTW := hid (show ∀ u, Below W4.heap.size W4 u → Tabs u from fun u hu => (HM.out.1.next HB4.out).next hu)
  have HMW := hid (show ∀ u, Below W4.heap.size W4 u → maxLenCell u from fun u hu => maxLenCell_below (maxLenCell_below HM.out.2 HB4.out) hu)
  clear he hb3 hW4 hB4 hB24 hX4 hL4 hLB HST HLt HS2 HX2 HWE HM
  go_upto_region 3 with fail
  rw [← HWE4.out, ← HLB.out, ← HSB.out]
  clear HWE4 HLB HSB HWE2 HP0 p0 p1 p2 p3 p4 p5 p6 p7
  have htx := (opened_ok HO.out).2.1
  have HFE := hid (app_formed (f := 0) (tx := o.tx) inb_name ⟨by omega, by omega⟩ htx)
  obtain ⟨E, hE⟩ : ∃ E, E = appE inbL 0 o.tx := ⟨_, rfl⟩
  have HEE := hid hE
  have HDV := hid (deliver_ok 0 [] none 0 o s _ _ W4 (HTW.out _ (Below.refl _ _)) (HMW.out _ (Below.refl _ _)) HO.out (Nat.le_refl _) (fun _ => ⟨rfl, rfl⟩) (scr_nil 0).short (rowM_nil _ _ _ _ _ _) (scr_nil 0).rule (scr_nil 0).good _ HS4.out HMS.out [E] (by rw [hE]; exact plan_nil _ _ _) (fun x hx => by rw [List.mem_singleton.1 hx, hE]; exact HFE.out))
  clear htx hE
  go_wp2_with fail
  refine HDV.out.mono ?_
  intro e w5 hD
  obtain ⟨hb5, hD⟩ := hD
  have HAP := hid (show ∀ u, Below W4.heap.size W4 u → Calls Tryz.prog 10 #[.agg #[.slice ab s.boxes.length cb, .slice aq s.spool.length cq], .agg #[.int .i64 2, .string ⟨#[73, 78, 66, 79, 88]⟩, .int .i64 0, .int .i64 0, .string ⟨#[]⟩, .string (S o.tx)]] u (AllP u (doM s E)) from fun u hu => by
    have h := apply_any s _ _ E u _ (HS4.out.next hu) HMS.out (by rw [HEE.out]; exact HFE.out)
    rw [HEE.out] at h ⊢
    exact h)
  have HDM := hid (show ∀ s', doM s E = .ok s' → May s' from fun s' h => doM_may HMS.out (by rw [HEE.out]; exact HFE.out) h)
  rw [allM_one] at hD
  cases hd : doM s E with
  | error z =>
    rw [hd] at hD HAP
    simp only at hD
    have hzn := doM_err hd
    have hz1 : ¬ z = 0 := hzn
    have hz2 : (z == 0) = false := by simp [hzn]
    rw [hD]
    simp only
    obtain ⟨W6, hW6⟩ : ∃ W6, W6 = w5.alloc (.cells #[.slice none 0 0, .slice none 0 0] 31) := ⟨_, rfl⟩
    have HWE6 := hid hW6
    have hB6 : Below W4.heap.size W4 W6 := by rw [hW6]; exact hb5.alloc hb5.size _
    have HB6 := hid (show Below w.heap.size w W6 from HB4.out.trans (hB6.mono HB4.out.size))
    have x0 := wcell_next x0 hB6
    have x1 := wcell_next x1 hB6
    have l4 := wcell_next l4 hB6
    have HA6 := hid (HAP.out W6 hB6)
    clear hD hd hzn hW6 hB6 hb5 HAP HDM
    go_upto_region 4 with fail
    rw [← HWE6.out]
    go_wp2_with fail
    refine HA6.out.mono ?_
    rintro e w7 ⟨hb7, rfl⟩
    simp only
    have HB7 := hid (show Below w.heap.size w (w7.alloc (.cells #[.slice none 0 0, .slice none 0 0] 31)) from (HB6.out.trans (hb7.mono HB6.out.size)).alloc (Nat.le_trans HB6.out.size hb7.size) _)
    clear hb7
    go_wp2
    go_ret
    exact ⟨by first | rfl | simp, HB7.out⟩
  | ok s' =>
    rw [hd] at hD HAP
    simp only at hD
    obtain ⟨a5, c5, u5, vb5, vs5, vm5, rfl, _, _, hO5⟩ := hD
    have HM' := hid (HDM.out s' hd)
    obtain ⟨a1, d1, rfl⟩ := bown_slice hO5.boxes
    obtain ⟨a2, d2, rfl⟩ := bown_slice hO5.spool
    simp only
    obtain ⟨W6, hW6⟩ : ∃ W6, W6 = w5.alloc (.cells #[.slice a1 s'.boxes.length d1, .slice a2 s'.spool.length d2] 31) := ⟨_, rfl⟩
    have HWE6 := hid hW6
    have hB56 : Below w5.heap.size w5 W6 := by rw [hW6]; exact (Below.refl _ _).alloc (Nat.le_refl _) _
    have hB6 : Below W4.heap.size W4 W6 := hb5.trans (hB56.mono hb5.size)
    have HB6 := hid (show Below w.heap.size w W6 from HB4.out.trans (hB6.mono HB4.out.size))
    have HT6 := hid (show W6.heap[w5.heap.size]? = some (.cells #[.slice a1 s'.boxes.length d1, .slice a2 s'.spool.length d2] 31) by rw [hW6]; exact tl_at _ rfl)
    have HS6 := hid ((hO5.stt (Q := fun _ => True) HM'.out fun _ _ => trivial).next hB56)
    have x0 := wcell_next x0 hB6
    have x1 := wcell_next x1 hB6
    have l4 := wcell_next l4 hB6
    have HA6 := hid (HAP.out W6 hB6)
    clear hd hW6 hB6 hb5 hO5 hB56 HAP HDM
    go_upto_region 4 with fail
    rw [← HWE6.out]
    go_wp2_with fail
    refine HA6.out.mono ?_
    rintro e w7 ⟨hb7, vb7, vs7, vm7, rfl, hO7⟩
    obtain ⟨a3, d3, rfl⟩ := bown_slice hO7.boxes
    obtain ⟨a4, d4, rfl⟩ := bown_slice hO7.spool
    simp only
    obtain ⟨W8, hW8⟩ : ∃ W8, W8 = w7.alloc (.cells #[.slice a3 s'.boxes.length d3, .slice a4 s'.spool.length d4] 31) := ⟨_, rfl⟩
    have HWE8 := hid hW8
    have hB78 : Below w7.heap.size w7 W8 := by rw [hW8]; exact (Below.refl _ _).alloc (Nat.le_refl _) _
    have hB68 : Below W6.heap.size W6 W8 := hb7.trans (hB78.mono hb7.size)
    have HB8 := hid (show Below w.heap.size w W8 from HB6.out.trans (hB68.mono HB6.out.size))
    have hT8 := tl_low hB68 HT6.out
    have hU8 : W8.heap[w7.heap.size]? = some (.cells #[.slice a3 s'.boxes.length d3, .slice a4 s'.spool.length d4] 31) := by rw [hW8]; exact tl_at _ rfl
    have t0 : W8.cell? ⟨w5.heap.size, 0, none⟩ = some (.slice a1 s'.boxes.length d1) := tl_cell (j := 0) hT8 rfl
    have t1 : W8.cell? ⟨w5.heap.size, 1, none⟩ = some (.slice a2 s'.spool.length d2) := tl_cell (j := 1) hT8 rfl
    have u0 : W8.cell? ⟨w7.heap.size, 0, none⟩ = some (.slice a3 s'.boxes.length d3) := tl_cell (j := 0) hU8 rfl
    have u1 : W8.cell? ⟨w7.heap.size, 1, none⟩ = some (.slice a4 s'.spool.length d4) := tl_cell (j := 1) hU8 rfl
    have HSS := hid (sameState_any s' _ _ _ _ W8 _ _ (HS6.out.next hB68) ((hO7.stt (Q := fun _ => True) HM'.out fun _ _ => trivial).next hB78))
    clear hW8 hB78 hB68 hb7 hO7 hT8 hU8
    go_upto_region 5 with fail
    rw [← HWE8.out]
    go_wp2_with fail
    refine HSS.out.mono ?_
    rintro e w9 ⟨rfl, hb9⟩
    simp only
    have HB9 := hid (show Below w.heap.size w w9 from HB8.out.trans (hb9.mono HB8.out.size))
    clear hb9
    go_wp2
    go_ret
    exact ⟨by first | rfl | simp, HB9.out⟩
end Go.Proofs.YtjfkgfomlnmngaaGreatDoor
