/-
  A box that there is not is the inbox: walked.
-/
import Derived.Test.YtjfkgfomlnmngaaGreatDoorQKeepLtr3
import Derived.Test.YtjfkgfomlnmngaaGreatDoorQRowGw6
namespace Go.Proofs.YtjfkgfomlnmngaaGreatDoor
open Go.RowKit Go.Proofs

set_option maxHeartbeats 2000000 in
set_option maxRecDepth 100000 in
theorem deliverNew_walk (w : World) (hm : TabsM w) (al : Option Addr) (cl : Nat) (ls : List Chr) (hG : ChsM (fun _ => True) w (.slice al ls.length cl) ls) (hW : ∀ x ∈ ls, chrW x) (fl fd fg tl td tg : ByteArray) (a : Option Addr) (c : Nat) (fs : List F) (body : ByteArray) (hF : FieldsAt w a fs) (hL : fs.length ≤ maxLen) (hB : ∀ f ∈ fs, f.1.length ≤ maxLen ∧ f.2.length ≤ maxLen) (hY : body.size ≤ maxLen) (s1 : fl.size ≤ maxLen) (s2 : fd.size ≤ maxLen) (s3 : tl.size ≤ maxLen) (s4 : td.size ≤ maxLen) (nx : ByteArray) (hN : nx.size ≤ maxLen) :
    Calls Tryz.prog 5 #[.slice al ls.length cl, .agg #[.string fl, .string fd, .string fg, .string tl, .string td, .string tg, .slice a fs.length c, .string body], .string nx] w fun e w' => e = .returned (.bool true) ∧ Below w.heap.size w w' := by
  have HM := hid hm
  have HMS := hid (stateP_may ls)
  have HIN := hid (stateP_inb ls)
  obtain ⟨o, ho⟩ : ∃ o, o = ltrO fl fd tl td fs body := ⟨_, rfl⟩
  have HO := hid (show Opened o by rw [ho]; exact ltr_opened _ _ _ _ _ _)
  have HOL := hid (show lawful (o.fl, o.fd) by rw [ho]; exact adrOf_lawful _ _)
  obtain ⟨W0, hW0⟩ : ∃ W0, W0 = w.alloc (.cells #[.string fl, .string fd, .string fg, .string tl, .string td, .string tg, .slice a fs.length c, .string body] 27) := ⟨_, rfl⟩
  have HWE := hid hW0
  have HB0 := hid (show Below w.heap.size w W0 by rw [hW0]; exact (Below.refl _ _).alloc (Nat.le_refl _) _)
  have HP0 := hid (show W0.heap[w.heap.size]? = some (.cells #[.string fl, .string fd, .string fg, .string tl, .string td, .string tg, .slice a fs.length c, .string body] 27) by rw [hW0]; exact tl_at _ rfl)
  have HST := hid (state_any ls al cl W0 _ (hG.next HB0.out) hW)
  have HLt := hid (show ∀ u, Below w.heap.size w u → Calls Tryz.prog 8 #[.agg #[.string fl, .string fd, .string fg, .string tl, .string td, .string tg, .slice a fs.length c, .string body]] u (LtrP u o) from fun u hu => by
    rw [ho]
    exact letter_ok fl fd fg tl td tg a c fs body u (hF.below hu) hL hB hY s1 s2 s3 s4 (maxLenCell_below hm.2 hu))
  generalize stateP ls = s at *
  clear hm hF hL hB hY s1 s2 s3 s4 hW0 ho hG hW
  go_enter Tryz.func5, Tryz.ntmps5
  go_upto_region 1 with fail
  rw [← HWE.out]
  go_wp2_with fail
  refine HST.out.mono ?_
  rintro e w1 ⟨ab, nb, cb, aq, nq, cq, rfl, hS, hb1⟩
  simp only
  obtain ⟨ab', cb', e⟩ := RowM.slice hS.1
  simp only [Value.slice.injEq] at e
  obtain ⟨rfl, rfl, rfl⟩ := e
  obtain ⟨aq', cq', e⟩ := RowM.slice hS.2.1
  simp only [Value.slice.injEq] at e
  obtain ⟨rfl, rfl, rfl⟩ := e
  obtain ⟨W2, hW2⟩ : ∃ W2, W2 = w1.alloc (.cells #[.slice ab s.boxes.length cb, .slice aq s.spool.length cq] 31) := ⟨_, rfl⟩
  have HWE2 := hid hW2
  obtain ⟨SB, hSB⟩ : ∃ SB, SB = w1.heap.size := ⟨_, rfl⟩
  have HSB := hid hSB
  have hB2 : Below w1.heap.size w1 W2 := by rw [hW2]; exact (Below.refl _ _).alloc (Nat.le_refl _) _
  have HB2 := hid (show Below w.heap.size w W2 from (HB0.out.trans (hb1.mono HB0.out.size)).trans (hB2.mono (Nat.le_trans HB0.out.size hb1.size)))
  have HX2 := hid (show W2.heap[SB]? = some (.cells #[.slice ab s.boxes.length cb, .slice aq s.spool.length cq] 31) by rw [hW2, hSB]; exact tl_at _ rfl)
  have hP2 := tl_low hB2 (tl_low hb1 HP0.out)
  have p0 := tl_cell (j := 0) hP2 rfl
  have p1 := tl_cell (j := 1) hP2 rfl
  have p2 := tl_cell (j := 2) hP2 rfl
  have p3 := tl_cell (j := 3) hP2 rfl
  have p4 := tl_cell (j := 4) hP2 rfl
  have p5 := tl_cell (j := 5) hP2 rfl
  have p6 := tl_cell (j := 6) hP2 rfl
  have p7 := tl_cell (j := 7) hP2 rfl
  have HS2 := hid (hS.next hB2)
  clear hS hW2 hB2 hb1 hSB hP2
  go_upto_region 2 with fail
  rw [← HWE2.out]
  go_wp2_with fail
  refine (HLt.out W2 HB2.out).mono ?_
  rintro e w3 ⟨he, hb3⟩
  rw [show e = .returned (.tuple #[.agg #[.string (S o.fl), .string (S o.fd), .string (S o.tl), .string (S o.td), .string (S o.tx)], .bool true]) from he]
  simp only
  obtain ⟨W4, hW4⟩ : ∃ W4, W4 = w3.alloc (.cells #[.string (S o.fl), .string (S o.fd), .string (S o.tl), .string (S o.td), .string (S o.tx)] 36) := ⟨_, rfl⟩
  have HWE4 := hid hW4
  obtain ⟨LB, hLB⟩ : ∃ LB, LB = w3.heap.size := ⟨_, rfl⟩
  have HLB := hid hLB
  have hB4 : Below w3.heap.size w3 W4 := by rw [hW4]; exact (Below.refl _ _).alloc (Nat.le_refl _) _
  have hB24 : Below W2.heap.size W2 W4 := hb3.trans (hB4.mono hb3.size)
  have HB4 := hid (show Below w.heap.size w W4 from HB2.out.trans (hB24.mono HB2.out.size))
  have HX4 := hid (tl_low hB24 HX2.out)
  have HL4 := hid (show W4.heap[LB]? = some (.cells #[.string (S o.fl), .string (S o.fd), .string (S o.tl), .string (S o.td), .string (S o.tx)] 36) by rw [hW4, hLB]; exact tl_at _ rfl)
  have hX4 := HX4.out
  have x0 : W4.cell? ⟨SB, 0, none⟩ = some (.slice ab s.boxes.length cb) := tl_cell (j := 0) hX4 rfl
  have x1 : W4.cell? ⟨SB, 1, none⟩ = some (.slice aq s.spool.length cq) := tl_cell (j := 1) hX4 rfl
  have hL4 := HL4.out
  have l0 : W4.cell? ⟨LB, 0, none⟩ = some (.string (S o.fl)) := tl_cell (j := 0) hL4 rfl
  have l1 : W4.cell? ⟨LB, 1, none⟩ = some (.string (S o.fd)) := tl_cell (j := 1) hL4 rfl
  have l2 : W4.cell? ⟨LB, 2, none⟩ = some (.string (S o.tl)) := tl_cell (j := 2) hL4 rfl
  have l3 : W4.cell? ⟨LB, 3, none⟩ = some (.string (S o.td)) := tl_cell (j := 3) hL4 rfl
  have l4 : W4.cell? ⟨LB, 4, none⟩ = some (.string (S o.tx)) := tl_cell (j := 4) hL4 rfl
  have HS4 := hid ((HS2.out.next hB24).lows)
  have HTW := hid (show ∀ u, Below W4.heap.size W4 u → Tabs u from fun u hu => (HM.out.1.next HB4.out).next hu)
  have HMW := hid (show ∀ u, Below W4.heap.size W4 u → maxLenCell u from fun u hu => maxLenCell_below (maxLenCell_below HM.out.2 HB4.out) hu)
  clear he hb3 hW4 hB4 hB24 hX4 hL4 hLB HST HLt HS2 HX2 HWE HM
  go_upto_region 3 with fail
  rw [← HWE4.out, ← HLB.out, ← HSB.out]
  clear HWE4 HLB HSB HWE2 HP0 p0 p1 p2 p3 p4 p5 p6 p7
  obtain ⟨nm, hnm⟩ : ∃ nm, nm = wordL nx.data.toList := ⟨_, rfl⟩
  have HWD := hid (word_any nx W4 hN)
  rw [← hnm] at HWD
  have HNM := hid (show nameP nm = 0 by rw [hnm]; exact wordy_name (word_wordy _))
  have htx := (opened_ok HO.out).2.1
  obtain ⟨E, hE⟩ : ∃ E, E = appE (boxFor s.boxes nm) 0 o.tx := ⟨_, rfl⟩
  have HEE := hid hE
  have HFE := hid (show Formed E by rw [hE]; exact app_formed (boxFor_name _ HNM.out) ⟨by omega, by omega⟩ htx)
  have HER := hid (show ∀ z, doM s E = .error z → z = 5 from fun z h => app_err HIN.out (by rw [← hE]; exact h))
  clear hE hnm htx hN
  go_wp2_with fail
  refine HWD.out.mono ?_
  rintro e w5 ⟨rfl, hb5⟩
  simp only
  have HRQ := hid (requires_f w5)
  have HB45 := hid hb5
  clear hb5
  go_wp2_with fail
  refine HRQ.out.mono ?_
  rintro e w6 ⟨v0, v1, v2, v3, v4, v5, v6, v7, v8, v9, v10, v11, rfl, hR6, hb6⟩
  simp only
  obtain ⟨W7, hW7⟩ : ∃ W7, W7 = (w6.alloc (.cells #[.string (S nm)] 9)).alloc (.cells #[v0, v1, v2, v3, v4, v5, v6, v7, v8, v9, v10, v11, .int .i64 5, .slice (some ⟨w6.heap.size, 0, none⟩) 1 1, .int .i64 0, .int .i64 0, .int .i64 0, .slice none 0 0, .slice none 0 0, .bool false, .int .i64 0, .slice none 0 0, .slice none 0 0, .slice none 0 0] 54) := ⟨_, rfl⟩
  have HWE7 := hid hW7
  have hB67 : Below w6.heap.size w6 W7 := by rw [hW7]; exact ((Below.refl _ _).alloc (Nat.le_refl _) _).alloc (by simp) _
  have hB47 : Below W4.heap.size W4 W7 := (HB45.out.trans (hb6.mono HB45.out.size)).trans (hB67.mono (Nat.le_trans HB45.out.size hb6.size))
  have HCS := hid (show CmdsM anyB 3 W7 (.slice (some ⟨w6.heap.size + 1, 0, none⟩) 2 2) [reqC, fileC nm] from row2 (by rw [hW7]; exact tl_at _ (by simp)) (by rw [hW7]; exact tl_old _ (tl_at _ rfl)) (CmdM.imp (fun _ _ => trivial) (Keeps.of_below hB67) _ _ _ hR6))
  have HOKS := hid (scr_file HNM.out)
  have HDV := hid (deliver_ok 2 [reqC, fileC nm] (some ⟨w6.heap.size + 1, 0, none⟩) 2 o s _ _ W7 (HTW.out _ hB47) (HMW.out _ hB47) HO.out (Nat.le_refl _) (fun h => by cases h) HOKS.out.short HCS.out HOKS.out.rule HOKS.out.good _ (HS4.out.next hB47) HMS.out [E] (by rw [HEE.out]; exact plan_file _ _ _) (fun x hx => by rw [List.mem_singleton.1 hx]; exact HFE.out))
  have HRC := hid (show ∀ u, Below W7.heap.size W7 u → Calls Tryz.prog 15 #[.slice (some ⟨w6.heap.size + 1, 0, none⟩) 2 2] u fun e w' => e = .returned (.int .i64 0) ∧ Below u.heap.size u w' from fun u hu => by
    have h := rcheck_any 2 [reqC, fileC nm] (some ⟨w6.heap.size + 1, 0, none⟩) 2 u ((HTW.out _ hB47).next hu) (Nat.le_refl _) (fun h => by cases h) HOKS.out.short (CmdsM.next HCS.out hu)
    rw [HOKS.out.rule] at h
    exact h)
  have HB7 := hid (show Below w.heap.size w W7 from HB4.out.trans (hB47.mono HB4.out.size))
  have HS7 := hid (HS4.out.next hB47)
  have x0 := wcell_next x0 hB47
  have x1 := wcell_next x1 hB47
  have l0 := wcell_next l0 hB47
  have l1 := wcell_next l1 hB47
  have l2 := wcell_next l2 hB47
  have l3 := wcell_next l3 hB47
  have l4 := wcell_next l4 hB47
  clear hR6 hb6 hW7 hB67 hB47 HRQ HWD
  go_upto_region 5 with fail
  rw [← HWE7.out]
  clear HWE7
  go_wp2_with fail
  refine HDV.out.mono ?_
  rintro e w8 ⟨hb8, hD⟩
  rw [allM_one] at hD
  have HF := hid (show boxFor s.boxes nm = if 0 ≤ idxZ (isName nm) s.boxes then nm else inbL from rfl)
  cases hd : doM s E with
  | error z =>
    rw [hd] at hD
    simp only at hD
    have hz5 := HER.out z hd
    subst hz5
    rw [hD]
    simp only
    obtain ⟨W9, hW9⟩ : ∃ W9, W9 = w8.alloc (.cells #[.slice none 0 0, .slice none 0 0] 31) := ⟨_, rfl⟩
    have HWE9 := hid hW9
    have hB9 : Below W7.heap.size W7 W9 := by rw [hW9]; exact hb8.alloc hb8.size _
    have HB9 := hid (show Below w.heap.size w W9 from HB7.out.trans (hB9.mono HB7.out.size))
    have x0 := wcell_next x0 hB9
    have x1 := wcell_next x1 hB9
    have HFD := hid (find_any s _ _ nm W9 _ (HS7.out.next hB9))
    generalize idxZ (isName nm) s.boxes = zi at *
    clear hD hd hb8 hW9 hB9
    go_upto_region 6 with fail
    rw [← HWE9.out]
    go_wp2_with fail
    refine HFD.out.mono ?_
    rintro e w10 ⟨rfl, hb10⟩
    simp only
    have HB10 := hid (show Below w.heap.size w w10 from HB9.out.trans (hb10.mono HB9.out.size))
    clear hb10
    by_cases hi : zi < 0
    · go_wp2
      go_ret
      exact ⟨by first | rfl | simp, HB10.out⟩
    · go_wp2
      go_ret
      exact ⟨by first | rfl | simp, HB10.out⟩
  | ok s' =>
    rw [hd] at hD
    simp only at hD
    obtain ⟨a8, c8, u8, vb8, vs8, vm8, rfl, hY8, _, hO8⟩ := hD
    obtain ⟨a1, d1, rfl⟩ := bown_slice hO8.boxes
    obtain ⟨a2, d2, rfl⟩ := bown_slice hO8.spool
    obtain ⟨gb, go, eg, _, m0, m1, _, _, _, _⟩ := hY8.at (i := 0) (x := E) rfl
    subst eg
    simp only [Nat.zero_mul, Nat.add_zero] at m0 m1
    have m0 : w8.cell? ⟨gb, go, none⟩ = some (.int .i64 2) := by rw [m0, HEE.out]; rfl
    have m1 : w8.cell? ⟨gb, go + 1, none⟩ = some (.string (S (boxFor s.boxes nm))) := by rw [m1, HEE.out]; rfl
    simp only [List.length_singleton]
    obtain ⟨W9, hW9⟩ : ∃ W9, W9 = w8.alloc (.cells #[.slice a1 s'.boxes.length d1, .slice a2 s'.spool.length d2] 31) := ⟨_, rfl⟩
    have HWE9 := hid hW9
    have hB89 : Below w8.heap.size w8 W9 := by rw [hW9]; exact (Below.refl _ _).alloc (Nat.le_refl _) _
    have hB9 : Below W7.heap.size W7 W9 := hb8.trans (hB89.mono hb8.size)
    have HB79 := hid hB9
    have HB9 := hid (show Below w.heap.size w W9 from HB7.out.trans (hB9.mono HB7.out.size))
    have x0 := wcell_next x0 hB9
    have x1 := wcell_next x1 hB9
    have m0 := wcell_next m0 hB89
    have m1 := wcell_next m1 hB89
    have HFD := hid (find_any s _ _ nm W9 _ (HS7.out.next hB9))
    generalize idxZ (isName nm) s.boxes = zi at *
    generalize boxFor s.boxes nm = bn at *
    clear hd hb8 hW9 hB9 hB89 hY8 hO8
    go_upto_region 6 with fail
    rw [← HWE9.out]
    go_wp2_with fail
    refine HFD.out.mono ?_
    rintro e w10 ⟨rfl, hb10⟩
    simp only
    have HB10 := hid (show Below w.heap.size w w10 from HB9.out.trans (hb10.mono HB9.out.size))
    have HRC10 := hid (HRC.out w10 (HB79.out.trans (hb10.mono HB79.out.size)))
    have m0 := wcell_next m0 hb10
    have m1 := wcell_next m1 hb10
    clear hb10
    by_cases hi : zi < 0
    · rw [if_neg (by omega)] at HF
      replace m1 : w10.cell? ⟨gb, go + 1, none⟩ = some (.string ⟨#[73, 78, 66, 79, 88]⟩) := by rw [m1, HF.out]; rfl
      go_wp2_with fail
      refine HRC10.out.mono ?_
      rintro e w11 ⟨rfl, hb11⟩
      simp only
      have HB11 := hid (show Below w.heap.size w w11 from HB10.out.trans (hb11.mono HB10.out.size))
      clear hb11
      go_wp2
      go_ret
      exact ⟨by first | rfl | simp, HB11.out⟩
    · rw [if_pos (by omega)] at HF
      replace m1 : w10.cell? ⟨gb, go + 1, none⟩ = some (.string (S nm)) := by rw [m1, HF.out]
      go_wp2_with fail
      refine HRC10.out.mono ?_
      rintro e w11 ⟨rfl, hb11⟩
      simp only
      have HB11 := hid (show Below w.heap.size w w11 from HB10.out.trans (hb11.mono HB10.out.size))
      clear hb11
      go_wp2
      go_ret
      exact ⟨by first | rfl | simp, HB11.out⟩
end Go.Proofs.YtjfkgfomlnmngaaGreatDoor
