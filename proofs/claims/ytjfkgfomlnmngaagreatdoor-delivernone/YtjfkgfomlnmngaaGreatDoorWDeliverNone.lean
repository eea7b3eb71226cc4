/-
  What is discarded changes nothing; what is sent on stays out of the boxes: walked.
-/
import Derived.Test.YtjfkgfomlnmngaaGreatDoorQKeepLtr3
namespace Go.Proofs.YtjfkgfomlnmngaaGreatDoor
open Go.RowKit Go.Proofs

set_option maxHeartbeats 2000000 in
set_option maxRecDepth 100000 in
theorem deliverNone_walk (w : World) (hm : TabsM w) (al : Option Addr) (cl : Nat) (ls : List Chr) (hG : ChsM (fun _ => True) w (.slice al ls.length cl) ls) (hW : ∀ x ∈ ls, chrW x) (fl fd fg tl td tg : ByteArray) (a : Option Addr) (c : Nat) (fs : List F) (body : ByteArray) (hF : FieldsAt w a fs) (hL : fs.length ≤ maxLen) (hB : ∀ f ∈ fs, f.1.length ≤ maxLen ∧ f.2.length ≤ maxLen) (hY : body.size ≤ maxLen) (s1 : fl.size ≤ maxLen) (s2 : fd.size ≤ maxLen) (s3 : tl.size ≤ maxLen) (s4 : td.size ≤ maxLen) :
    Calls Tryz.prog 4 #[.slice al ls.length cl, .agg #[.string fl, .string fd, .string fg, .string tl, .string td, .string tg, .slice a fs.length c, .string body]] w fun e w' => e = .returned (.bool true) ∧ Below w.heap.size w w' := by
  have HM := hid hm
  have HMS := hid (stateP_may ls)
  obtain ⟨o, ho⟩ : ∃ o, o = ltrO fl fd tl td fs body := ⟨_, rfl⟩
  have HO := hid (show Opened o by rw [ho]; exact ltr_opened _ _ _ _ _ _)
  have HOL := hid (show lawful (o.fl, o.fd) by rw [ho]; exact adrOf_lawful _ _)
  obtain ⟨W0, hW0⟩ : ∃ W0, W0 = w.alloc (.cells #[.string fl, .string fd, .string fg, .string tl, .string td, .string tg, .slice a fs.length c, .string body] 27) := ⟨_, rfl⟩
  have HWE := hid hW0
  have HB0 := hid (show Below w.heap.size w W0 by rw [hW0]; exact (Below.refl _ _).alloc (Nat.le_refl _) _)
  have HP0 := hid (show W0.heap[w.heap.size]? = some (.cells #[.string fl, .string fd, .string fg, .string tl, .string td, .string tg, .slice a fs.length c, .string body] 27) by rw [hW0]; exact tl_at _ rfl)
  have HST := hid (state_any ls al cl W0 _ (hG.next HB0.out) hW)
  have HLt := hid (show ∀ u, Below w.heap.size w u → Calls Tryz.prog 8 #[.agg #[.string fl, .string fd, .string fg, .string tl, .string td, .string tg, .slice a fs.length c, .string body]] u (LtrP u o) from fun u hu => by
    rw [ho]
    exact letter_ok fl fd fg tl td tg a c fs body u (hF.below hu) hL hB hY s1 s2 s3 s4 (maxLenCell_below hm.2 hu))
  generalize stateP ls = s at *
  clear hm hF hL hB hY s1 s2 s3 s4 hW0 ho hG hW
  go_enter Tryz.func4, Tryz.ntmps4
  go_upto_region 1 with fail
  rw [← HWE.out]
  go_wp2_with fail
  refine HST.out.mono ?_
  rintro e w1 ⟨ab, nb, cb, aq, nq, cq, rfl, hS, hb1⟩
  simp only
  obtain ⟨ab', cb', e⟩ := RowM.slice hS.1
  simp only [Value.slice.injEq] at e
  obtain ⟨rfl, rfl, rfl⟩ := e
  obtain ⟨aq', cq', e⟩ := RowM.slice hS.2.1
  simp only [Value.slice.injEq] at e
  obtain ⟨rfl, rfl, rfl⟩ := e
  obtain ⟨W2, hW2⟩ : ∃ W2, W2 = w1.alloc (.cells #[.slice ab s.boxes.length cb, .slice aq s.spool.length cq] 31) := ⟨_, rfl⟩
  have HWE2 := hid hW2
  obtain ⟨SB, hSB⟩ : ∃ SB, SB = w1.heap.size := ⟨_, rfl⟩
  have HSB := hid hSB
  have hB2 : Below w1.heap.size w1 W2 := by rw [hW2]; exact (Below.refl _ _).alloc (Nat.le_refl _) _
  have HB2 := hid (show Below w.heap.size w W2 from (HB0.out.trans (hb1.mono HB0.out.size)).trans (hB2.mono (Nat.le_trans HB0.out.size hb1.size)))
  have HX2 := hid (show W2.heap[SB]? = some (.cells #[.slice ab s.boxes.length cb, .slice aq s.spool.length cq] 31) by rw [hW2, hSB]; exact tl_at _ rfl)
  have hP2 := tl_low hB2 (tl_low hb1 HP0.out)
  have p0 := tl_cell (j := 0) hP2 rfl
  have p1 := tl_cell (j := 1) hP2 rfl
  have p2 := tl_cell (j := 2) hP2 rfl
  have p3 := tl_cell (j := 3) hP2 rfl
  have p4 := tl_cell (j := 4) hP2 rfl
  have p5 := tl_cell (j := 5) hP2 rfl
  have p6 := tl_cell (j := 6) hP2 rfl
  have p7 := tl_cell (j := 7) hP2 rfl
  have HS2 := hid (hS.next hB2)
  clear hS hW2 hB2 hb1 hSB hP2
  go_upto_region 2 with fail
  rw [← HWE2.out]
  go_wp2_with fail
  refine (HLt.out W2 HB2.out).mono ?_
  rintro e w3 ⟨he, hb3⟩
  rw [show e = .returned (.tuple #[.agg #[.string (S o.fl), .string (S o.fd), .string (S o.tl), .string (S o.td), .string (S o.tx)], .bool true]) from he]
  simp only
  obtain ⟨W4, hW4⟩ : ∃ W4, W4 = w3.alloc (.cells #[.string (S o.fl), .string (S o.fd), .string (S o.tl), .string (S o.td), .string (S o.tx)] 36) := ⟨_, rfl⟩
  have HWE4 := hid hW4
  obtain ⟨LB, hLB⟩ : ∃ LB, LB = w3.heap.size := ⟨_, rfl⟩
  have HLB := hid hLB
  have hB4 : Below w3.heap.size w3 W4 := by rw [hW4]; exact (Below.refl _ _).alloc (Nat.le_refl _) _
  have hB24 : Below W2.heap.size W2 W4 := hb3.trans (hB4.mono hb3.size)
  have HB4 := hid (show Below w.heap.size w W4 from HB2.out.trans (hB24.mono HB2.out.size))
  have HX4 := hid (tl_low hB24 HX2.out)
  have HL4 := hid (show W4.heap[LB]? = some (.cells #[.string (S o.fl), .string (S o.fd), .string (S o.tl), .string (S o.td), .string (S o.tx)] 36) by rw [hW4, hLB]; exact tl_at _ rfl)
  have hX4 := HX4.out
  have x0 : W4.cell? ⟨SB, 0, none⟩ = some (.slice ab s.boxes.length cb) := tl_cell (j := 0) hX4 rfl
  have x1 : W4.cell? ⟨SB, 1, none⟩ = some (.slice aq s.spool.length cq) := tl_cell (j := 1) hX4 rfl
  have hL4 := HL4.out
  have l0 : W4.cell? ⟨LB, 0, none⟩ = some (.string (S o.fl)) := tl_cell (j := 0) hL4 rfl
  have l1 : W4.cell? ⟨LB, 1, none⟩ = some (.string (S o.fd)) := tl_cell (j := 1) hL4 rfl
  have l2 : W4.cell? ⟨LB, 2, none⟩ = some (.string (S o.tl)) := tl_cell (j := 2) hL4 rfl
  have l3 : W4.cell? ⟨LB, 3, none⟩ = some (.string (S o.td)) := tl_cell (j := 3) hL4 rfl
  have l4 : W4.cell? ⟨LB, 4, none⟩ = some (.string (S o.tx)) := tl_cell (j := 4) hL4 rfl
  have HS4 := hid ((HS2.out.next hB24).lows)
  have HTW := hid (show ∀ u, Below W4.heap.size W4 u → Tabs u from fun u hu => (HM.out.1.next HB4.out).next hu)
  have HMW := hid (show ∀ u, Below W4.heap.size W4 u → maxLenCell u from fun u hu => maxLenCell_below (maxLenCell_below HM.out.2 HB4.out) hu)
  clear he hb3 hW4 hB4 hB24 hX4 hL4 hLB HST HLt HS2 HX2 HWE HM
  go_upto_region 3 with fail
  rw [← HWE4.out, ← HLB.out, ← HSB.out]
  clear HWE4 HLB HSB HWE2 HP0 p0 p1 p2 p3 p4 p5 p6 p7
  have htx := (opened_ok HO.out).2.1
  have HFE := hid (out_formed (tt := abc) (tx := o.tx) abc_goal htx)
  obtain ⟨E, hE⟩ : ∃ E, E = outE abc o.tx := ⟨_, rfl⟩
  have HEE := hid hE
  obtain ⟨W5, hW5⟩ : ∃ W5, W5 = W4.alloc (.cells #[.int .i64 4, .slice none 0 0, .int .i64 0, .int .i64 0, .int .i64 0, .slice none 0 0, .slice none 0 0, .bool false, .int .i64 0, .slice none 0 0, .slice none 0 0, .slice none 0 0] 54) := ⟨_, rfl⟩
  have HWE5 := hid hW5
  have hB45 : Below W4.heap.size W4 W5 := by rw [hW5]; exact (Below.refl _ _).alloc (Nat.le_refl _) _
  have HDV := hid (deliver_ok 2 [discC] (some ⟨W4.heap.size, 0, none⟩) 1 o s _ _ W5 (HTW.out _ hB45) (HMW.out _ hB45) HO.out (Nat.le_refl _) (fun h => by cases h) scr_disc.short (row0 (by rw [hW5]; exact tl_at _ rfl)) scr_disc.rule scr_disc.good _ (HS4.out.next hB45) HMS.out [] (plan_disc _ _) (fun x hx => by cases hx))
  clear htx hE hW5
  go_wp2_with fail
  rw [← HWE5.out]
  refine HDV.out.mono ?_
  rintro e w6 ⟨hb6, hD⟩
  obtain ⟨a6, c6, u6, vb6, vs6, vm6, rfl, _, _, hO6⟩ := (show ∃ a c u vb vs vm, e = .returned (.tuple #[.slice a ([] : List Ent).length c, .agg #[vb, vs], .int .i64 0]) ∧ EntsM (fun k => W5.heap.size ≤ k ∧ k < u) w6 (.slice a ([] : List Ent).length c) [] ∧ W5.heap.size ≤ u ∧ OwnS u w6 vb vs vm s from hD)
  obtain ⟨a1, d1, rfl⟩ := bown_slice hO6.boxes
  obtain ⟨a2, d2, rfl⟩ := bown_slice hO6.spool
  simp only [List.length_nil]
  obtain ⟨W7, hW7⟩ : ∃ W7, W7 = w6.alloc (.cells #[.slice a1 s.boxes.length d1, .slice a2 s.spool.length d2] 31) := ⟨_, rfl⟩
  have HWE7 := hid hW7
  obtain ⟨TB, hTB⟩ : ∃ TB, TB = w6.heap.size := ⟨_, rfl⟩
  have HTB := hid hTB
  have hB67 : Below w6.heap.size w6 W7 := by rw [hW7]; exact (Below.refl _ _).alloc (Nat.le_refl _) _
  have hB47 : Below W4.heap.size W4 W7 := (hB45.trans (hb6.mono hB45.size)).trans (hB67.mono (Nat.le_trans hB45.size hb6.size))
  have HB47 := hid hB47
  have HT7 := hid (show W7.heap[TB]? = some (.cells #[.slice a1 s.boxes.length d1, .slice a2 s.spool.length d2] 31) by rw [hW7, hTB]; exact tl_at _ rfl)
  have HS7 := hid (((hO6.stt (Q := fun _ => True) HMS.out fun _ _ => trivial).next hB67).lows)
  have x0 := wcell_next x0 hB47
  have x1 := wcell_next x1 hB47
  have l0 := wcell_next l0 hB47
  have l1 := wcell_next l1 hB47
  have l2 := wcell_next l2 hB47
  have l3 := wcell_next l3 hB47
  have l4 := wcell_next l4 hB47
  obtain ⟨W8, hW8⟩ : ∃ W8, W8 = (W7.alloc (.cells #[.string ⟨#[65, 110, 110, 32, 60, 97, 64, 98, 46, 99, 62]⟩] 9)).alloc (.cells #[.int .i64 6, .slice (some ⟨W7.heap.size, 0, none⟩) 1 1, .int .i64 0, .int .i64 0, .int .i64 0, .slice none 0 0, .slice none 0 0, .bool false, .int .i64 0, .slice none 0 0, .slice none 0 0, .slice none 0 0] 54) := ⟨_, rfl⟩
  have HWE8 := hid hW8
  have hB78 : Below W7.heap.size W7 W8 := by rw [hW8]; exact ((Below.refl _ _).alloc (Nat.le_refl _) _).alloc (by simp) _
  have hB48 : Below W4.heap.size W4 W8 := hB47.trans (hB78.mono hB47.size)
  have HDW := hid (deliver_ok 2 [redC] (some ⟨W7.heap.size + 1, 0, none⟩) 1 o s _ _ W8 (HTW.out _ hB48) (HMW.out _ hB48) HO.out (Nat.le_refl _) (fun h => by cases h) scr_red.short (row1 (by rw [hW8]; exact tl_at _ (by simp)) (by rw [hW8]; exact tl_old _ (tl_at _ rfl))) scr_red.rule scr_red.good _ (HS4.out.next hB48) HMS.out [E] (by rw [HEE.out]; exact plan_red _ _) (fun x hx => by rw [List.mem_singleton.1 hx, HEE.out]; exact HFE.out))
  have HB48 := hid hB48
  have HB78 := hid hB78
  have HDM := hid (show ∀ s', doM s E = .ok s' → May s' from fun s' h => doM_may HMS.out (by rw [HEE.out]; exact HFE.out) h)
  have HK6 := hid (show doM s E = if 20 ≤ s.spool.length then .error 5 else .ok ⟨s.boxes, s.spool ++ [E]⟩ from doM_k6 (by rw [HEE.out]; rfl))
  have h20 := HMS.out.spool
  clear hD hb6 hO6 hW7 hTB hB67 hB47 hB45 hW8 hB78 hB48
  go_upto_region 4 with fail
  rw [← HWE7.out, ← HTB.out]
  clear HWE7 HTB
  go_wp2_with fail
  rw [← HWE8.out]
  refine HDW.out.mono ?_
  rintro e w9 ⟨hb9, hD⟩
  rw [allM_one, HK6.out] at hD
  obtain ⟨UB, hUB⟩ : ∃ UB, UB = w9.heap.size := ⟨_, rfl⟩
  have HUB := hid hUB
  have HB79 := hid (show Below W7.heap.size W7 w9 from HB78.out.trans (hb9.mono HB78.out.size))
  by_cases hful : 20 ≤ s.spool.length
  · rw [if_pos hful] at hD
    simp only at hD
    rw [hD]
    simp only
    have hl : (s.spool.length : Int) = 20 := by omega
    have hB9 : Below W7.heap.size W7 (w9.alloc (.cells #[.slice none 0 0, .slice none 0 0] 31)) := HB79.out.alloc HB79.out.size _
    obtain ⟨W10, hW10⟩ : ∃ W10, W10 = w9.alloc (.cells #[.slice none 0 0, .slice none 0 0] 31) := ⟨_, rfl⟩
    have HWE10 := hid hW10
    rw [← hW10] at hB9
    have x1 := wcell_next x1 hB9
    have HBE := hid (show Below w.heap.size w W10 from (HB4.out.trans (HB47.out.mono HB4.out.size)).trans (hB9.mono (Nat.le_trans HB4.out.size HB47.out.size)))
    clear hD hb9 hW10 hB9 hful h20 hUB
    go_upto_region 5 with fail
    rw [← HWE10.out]
    go_wp2
    go_ret
    exact ⟨by first | rfl | simp, HBE.out⟩
  · rw [if_neg hful] at hD
    obtain ⟨a9, c9, u9, vb9, vs9, vm9, rfl, hY9, hu9, hO9⟩ := hD
    have hMt := HDM.out ⟨s.boxes, s.spool ++ [E]⟩ (by rw [HK6.out, if_neg hful])
    obtain ⟨a3, d3, rfl⟩ := bown_slice hO9.boxes
    obtain ⟨a4, d4, e4⟩ := bown_slice hO9.spool
    rw [show (s.spool ++ [E]).length = s.spool.length + 1 by simp] at e4
    subst e4
    have hSt := hO9.stt (Q := fun k => k < w9.heap.size) hMt (fun g hg => (hO9.lt hg).2)
    have hcap : s.spool.length + 1 ≤ d4 := by
      rcases hO9.spool.2 with ⟨e, _⟩ | ⟨g, cap, cur, e, _, _, h1, _⟩
      · simp only [Value.slice.injEq] at e; omega
      · simp only [Value.slice.injEq, List.length_append, List.length_cons, List.length_nil] at e h1
        omega
    obtain ⟨gb, go, eg, _, m0, m1, m2, m3, m4, m5⟩ := hY9.at (i := 0) (x := E) rfl
    subst eg
    simp only [Nat.zero_mul, Nat.add_zero] at m0 m1 m2 m3 m4 m5
    rw [HEE.out] at m0 m1 m2 m3 m4 m5
    simp only [List.length_singleton]
    obtain ⟨W10, hW10⟩ : ∃ W10, W10 = w9.alloc (.cells #[.slice a3 s.boxes.length d3, .slice a4 (s.spool.length + 1) d4] 31) := ⟨_, rfl⟩
    have HWE10 := hid hW10
    have hB910 : Below w9.heap.size w9 W10 := by rw [hW10]; exact (Below.refl _ _).alloc (Nat.le_refl _) _
    have hB710 : Below W7.heap.size W7 W10 := HB79.out.trans (hB910.mono HB79.out.size)
    have hU10 : W10.heap[UB]? = some (.cells #[.slice a3 s.boxes.length d3, .slice a4 (s.spool.length + 1) d4] 31) := by rw [hW10, hUB]; exact tl_at _ rfl
    obtain ⟨u0, u1, uf0, uf1⟩ := box2f hU10
    have hset := heap_setCell_same W10 UB 1 #[.slice a3 s.boxes.length d3, .slice a4 (s.spool.length + 1) d4] 31 (.slice a4 s.spool.length d4) hU10
    have hset' : (W10.setCell ⟨UB, 1, none⟩ (.slice a4 s.spool.length d4)).heap[UB]? = some (.cells #[.slice a3 s.boxes.length d3, .slice a4 s.spool.length d4] 31) := by rw [hset]; rfl
    obtain ⟨W11, hW11⟩ : ∃ W11, W11 = W10.setCell ⟨UB, 1, none⟩ (.slice a4 s.spool.length d4) := ⟨_, rfl⟩
    have HWE11 := hid hW11
    have hne : ∀ k, k < w9.heap.size → W11.heap[k]? = W10.heap[k]? := fun k hk => by rw [hW11]; exact set_other (by omega)
    have hcell : ∀ b i v, W10.cell? ⟨b, i, none⟩ = some v → b < w9.heap.size → W11.cell? ⟨b, i, none⟩ = some v := fun b i v h hb => (World.cell?_of_block (w := W10) (hne b hb)).trans h
    rw [← hW11] at hset'
    obtain ⟨v0, v1, _, _⟩ := box2f hset'
    have hz7 : W7.heap.size ≤ w9.heap.size := HB79.out.size
    have hlt : ∀ (b i : Nat) v, W7.cell? ⟨b, i, none⟩ = some v → W11.cell? ⟨b, i, none⟩ = some v := fun b i v h => hcell b i v (wcell_next h hB710) (Nat.lt_of_lt_of_le (World.block_lt_of_cell? _ _ h) hz7)
    have hlt9 : ∀ (b i : Nat) v, w9.cell? ⟨b, i, none⟩ = some v → W11.cell? ⟨b, i, none⟩ = some v := fun b i v h => hcell b i v (wcell_next h hB910) (World.block_lt_of_cell? _ _ h)
    have hT7 := HT7.out
    have t0 : W7.cell? ⟨TB, 0, none⟩ = some (.slice a1 s.boxes.length d1) := tl_cell (j := 0) hT7 rfl
    have t1 : W7.cell? ⟨TB, 1, none⟩ = some (.slice a2 s.spool.length d2) := tl_cell (j := 1) hT7 rfl
    have x1a := wcell_next x1 hB710
    have x0 := hlt _ _ _ x0
    have x1 := hlt _ _ _ x1
    have t0 := hlt _ _ _ t0
    have t1 := hlt _ _ _ t1
    have l4 := hlt _ _ _ l4
    have m0 : W11.cell? ⟨gb, go, none⟩ = some (.int .i64 6) := hlt9 _ _ _ m0
    have m1 : W11.cell? ⟨gb, go + 1, none⟩ = some (.string ⟨#[]⟩) := hlt9 _ _ _ m1
    have m2 : W11.cell? ⟨gb, go + 2, none⟩ = some (.int .i64 0) := hlt9 _ _ _ m2
    have m3 : W11.cell? ⟨gb, go + 3, none⟩ = some (.int .i64 0) := hlt9 _ _ _ m3
    have m4 : W11.cell? ⟨gb, go + 4, none⟩ = some (.string ⟨#[97, 64, 98, 46, 99]⟩) := hlt9 _ _ _ m4
    have m5 : W11.cell? ⟨gb, go + 5, none⟩ = some (.string (S o.tx)) := hlt9 _ _ _ m5
    have hK : Keeps (fun k => k < w9.heap.size) W10 W11 := by rw [hW11]; exact Keeps.set W10 (p := ⟨UB, 1, none⟩) _ fun b hb => by show b ≠ UB; omega
    have hA : SttM (fun k => k < w9.heap.size) W11 (.slice ab s.boxes.length cb) (.slice aq s.spool.length cq) s := ((((HS4.out.imp (Q' := fun k => k < w9.heap.size) (fun k h => Nat.lt_of_lt_of_le h (Nat.le_trans HB47.out.size hz7)) (Keeps.refl _ _)).next HB47.out).next hB710).imp (fun _ h => h) hK)
    have hT : SttM (fun k => k < w9.heap.size) W11 (.slice a1 s.boxes.length d1) (.slice a2 s.spool.length d2) s := ((HS7.out.imp (Q' := fun k => k < w9.heap.size) (fun k h => Nat.lt_of_lt_of_le h hz7) (Keeps.refl _ _)).next hB710).imp (fun _ h => h) hK
    have hU0 : SttM (fun k => k < w9.heap.size) W10 (.slice a3 s.boxes.length d3) (.slice a4 s.spool.length d4) s := by
      obtain ⟨h1, h2, h3⟩ := hSt.next hB910
      refine ⟨h1, ?_, h3⟩
      obtain ⟨a', c', e, hm, hr⟩ := h2
      simp only [Value.slice.injEq, List.length_append, List.length_cons, List.length_nil, true_and] at e
      obtain ⟨rfl, rfl⟩ := e
      refine ⟨_, _, rfl, by unfold maxLen; omega, fun i y hy => ?_⟩
      have hi : i < s.spool.length := (List.getElem?_eq_some_iff.1 hy).1
      exact hr i y (by rw [List.getElem?_append_left hi]; exact hy)
    have hU : SttM (fun k => k < w9.heap.size) W11 (.slice a3 s.boxes.length d3) (.slice a4 s.spool.length d4) s := hU0.imp (fun _ h => h) hK
    have HSA := hid (fun u (hu : Below W11.heap.size W11 u) => sameState_any s _ _ _ _ u _ _ (hA.next hu) (hT.next hu))
    have HSU := hid (fun u (hu : Below W11.heap.size W11 u) => sameState_any s _ _ _ _ u _ _ (hA.next hu) (hU.next hu))
    have HB11 := hid (show Below w.heap.size w W11 by
      have h : Below w.heap.size w W10 := (HB4.out.trans (HB47.out.mono HB4.out.size)).trans (hB710.mono (Nat.le_trans HB4.out.size HB47.out.size))
      rw [hW11]
      exact h.setCell (by rw [hUB]; exact Nat.le_trans (Nat.le_trans HB4.out.size HB47.out.size) hz7) _)
    have hl : ¬ (s.spool.length : Int) = 20 := by omega
    have hl2 : ((s.spool.length : Int) == 20) = false := by simp; omega
    have k0 : (0 : Int) ≤ (s.spool.length : Int) := by omega
    have k1 : (s.spool.length : Int) < (s.spool.length : Int) + 1 := by omega
    have k2 : (s.spool.length : Int) ≤ (d4 : Int) := by omega
    clear hY9 hu9 hO9 hMt hSt hcap hW10 hB910 hB710 hU10 hset hset' hW11 hne hcell hlt hlt9 hT7 hK hA hT hU0 hU hz7 hUB hb9 hful HK6 HDM
    go_upto_region 5 with fail
    rw [← HWE10.out, ← HUB.out]
    clear HWE10 HUB
    go_upto_region 8 with fail
    rw [← HWE11.out]
    have HKS := hid (show ∀ u, Below W11.heap.size W11 u → (u.cell? ⟨SB, 0, none⟩ = some (.slice ab s.boxes.length cb) ∧ u.cell? ⟨SB, 1, none⟩ = some (.slice aq s.spool.length cq) ∧ u.cell? ⟨TB, 0, none⟩ = some (.slice a1 s.boxes.length d1) ∧ u.cell? ⟨TB, 1, none⟩ = some (.slice a2 s.spool.length d2) ∧ u.cell? ⟨UB, 0, none⟩ = some (.slice a3 s.boxes.length d3) ∧ u.cell? ⟨UB, 1, none⟩ = some (.slice a4 s.spool.length d4) ∧ u.cell? ⟨LB, 4, none⟩ = some (.string (S o.tx)) ∧ u.cell? ⟨gb, go, none⟩ = some (.int .i64 6) ∧ u.cell? ⟨gb, go + 1, none⟩ = some (.string ⟨#[]⟩) ∧ u.cell? ⟨gb, go + 2, none⟩ = some (.int .i64 0) ∧ u.cell? ⟨gb, go + 3, none⟩ = some (.int .i64 0) ∧ u.cell? ⟨gb, go + 4, none⟩ = some (.string ⟨#[97, 64, 98, 46, 99]⟩) ∧ u.cell? ⟨gb, go + 5, none⟩ = some (.string (S o.tx))) from fun u hu => ⟨wcell_next x0 hu, wcell_next x1 hu, wcell_next t0 hu, wcell_next t1 hu, wcell_next v0 hu, wcell_next v1 hu, wcell_next l4 hu, wcell_next m0 hu, wcell_next m1 hu, wcell_next m2 hu, wcell_next m3 hu, wcell_next m4 hu, wcell_next m5 hu⟩)
    have HS0 := hid (HSA.out W11.drew ((Below.refl _ _).drew))
    go_wp2
    go_region_held3 (fun w' => w'.cell? ⟨SB, 0, none⟩ = some (.slice ab s.boxes.length cb) ∧ w'.cell? ⟨SB, 1, none⟩ = some (.slice aq s.spool.length cq) ∧ w'.cell? ⟨TB, 0, none⟩ = some (.slice a1 s.boxes.length d1) ∧ w'.cell? ⟨TB, 1, none⟩ = some (.slice a2 s.spool.length d2) ∧ w'.cell? ⟨UB, 0, none⟩ = some (.slice a3 s.boxes.length d3) ∧ w'.cell? ⟨UB, 1, none⟩ = some (.slice a4 s.spool.length d4) ∧ w'.cell? ⟨LB, 4, none⟩ = some (.string (S o.tx)) ∧ w'.cell? ⟨gb, go, none⟩ = some (.int .i64 6) ∧ w'.cell? ⟨gb, go + 1, none⟩ = some (.string ⟨#[]⟩) ∧ w'.cell? ⟨gb, go + 2, none⟩ = some (.int .i64 0) ∧ w'.cell? ⟨gb, go + 3, none⟩ = some (.int .i64 0) ∧ w'.cell? ⟨gb, go + 4, none⟩ = some (.string ⟨#[97, 64, 98, 46, 99]⟩) ∧ w'.cell? ⟨gb, go + 5, none⟩ = some (.string (S o.tx))) (first | exact HKS.out _ ((Below.refl _ _).drew) | exact HKS.out _ HB12.out | exact HKS.out _ HB13.out | fail)
      (first
        | (go_at_call 11
           with_reducible refine HS1.out.mono ?_
           rintro e w13 ⟨rfl, hb13⟩
           have HB13 := hid (show Below W11.heap.size W11 w13 from HB12.out.trans (hb13.mono HB12.out.size))
           clear hb13)
        | (go_at_call 11
           with_reducible refine HS0.out.mono ?_
           rintro e w12 ⟨rfl, hb12⟩
           have HB12 := hid (show Below W11.heap.size W11 w12 from ((Below.refl W11.heap.size W11).drew).trans hb12)
           have HS1 := hid (HSU.out w12 HB12.out)
           clear hb12)
        | fail)
    all_goals
      go_wp2
      go_ret
      exact ⟨by first | rfl | simp, HB11.out.trans (HB13.out.mono HB11.out.size)⟩
end Go.Proofs.YtjfkgfomlnmngaaGreatDoor
