/-
  Copies of tapes and how the laws compare them; what Sync and Crash answer is what the document says: the walks of the laws.
-/
import Derived.Test.YthdodjmkfodbgaaRefTp
namespace Go.Proofs.Ythdodjmkfodbgaa
open Go.RowKit Go.Proofs

/-- A tape that was copied. -/
def CpT (w : World) (l : List UInt8) (s : Int) (e : Ending) (w' : World) : Prop := ∃ a c, e = .returned (.agg #[.slice a l.length c, .int .i64 s]) ∧ w'.ownsRow w.heap.size 5 1 (.slice a l.length c) l.length (byC l) ∧ Below w.heap.size w w'
set_option maxHeartbeats 1000000 in
set_option maxRecDepth 100000 in
theorem tapes_any (a : Option Addr) (c : Nat) (l : List UInt8) (s : Int) (Q : Nat → Prop) (w : World) (h : BysM Q w (.slice a l.length c) l) (hl : l.length ≤ 140737488355328) :
    Calls Try.prog 5 #[.agg #[.slice a l.length c, .int .i64 s]] w (CpT w l s) := by
  obtain ⟨W1, hW1⟩ : ∃ W1, W1 = (w.alloc (.cells #[.slice a l.length c, .int .i64 s] 24)).alloc (.cells #[.slice none 0 0, .int .i64 0] 24) := ⟨_, rfl⟩
  have HWE := bhid hW1
  have HB1 := bhid (show Below w.heap.size w W1 by rw [hW1]; exact tp_low2 _ _ _)
  have hp0 : W1.heap[w.heap.size]? = some (.cells #[.slice a l.length c, .int .i64 s] 24) := by rw [hW1]; exact (tp_new2 w _ _).1
  have hr0 : W1.heap[w.heap.size + 1]? = some (.cells #[.slice none 0 0, .int .i64 0] 24) := by rw [hW1]; exact (tp_new2 w _ _).2
  have HP := bhid hp0
  have HR := bhid hr0
  obtain ⟨x0, x1, _, _⟩ := bk_box2 hp0
  have HH := bhid (h.next HB1.out)
  have hm : l.length ≤ maxLen := h.slice.elim fun _ h => h.elim fun _ h => h.2.2
  clear h hp0 hr0 hW1
  go_enter Try.func5, Try.ntmps5
  go_upto_region 1 with fail
  rw [← HWE.out]
  first
    | go_region_law (first
        | (refine step_app_by rfl _ _ rfl rfl (World.ownsRow_nil _ W1.heap.size _ _) rfl (HH.out.next (Below.refl _ _).drew) ?qc1 ?qc2 ?qc3 ?_
           case qc1 => omega
           case qc2 => omega
           case qc3 => exact Nat.le_refl _
           intro a' c' w1 hown hgrow hat
           have hB : Below W1.heap.size W1 w1 := ((Below.refl _ W1).drew).grown hgrow (Nat.le_refl _) (by intro k hk; cases hk)
           have HO := bhid hown
           have HB := bhid hB
           obtain ⟨z0, z1, _, _⟩ := bk_box2 (bk_low hB HP.out)
           obtain ⟨r0, r1, f0, f1⟩ := bk_box2 (bk_low hB HR.out)
           obtain ⟨q0, q1, _, _⟩ := bk_box2 (bk_put (u0 := .slice a' (0 + l.length) c') (u1 := .int .i64 s) (bk_low hB HR.out))
           clear hown hgrow hat hB)
        | fail)
    | fail
  all_goals
    have HE := bhid (show CpT w l s (.returned (.agg #[.slice a' (0 + l.length) c', .int .i64 s])) ((w1.setCell ⟨w.heap.size + 1, 0, none⟩ (.slice a' (0 + l.length) c')).setCell ⟨w.heap.size + 1, 1, none⟩ (.int .i64 s)) by
      have h1 := HO.out
      simp only [Nat.zero_add, List.nil_append] at h1 ⊢
      refine ⟨a', c', rfl, ?_, ((HB1.out.trans (HB.out.mono HB1.out.size)).setCell (Nat.le_succ _) _).setCell (Nat.le_succ _) _⟩
      refine bk_base (B := W1.heap.size) (bk_keep h1 fun g hg => ?_) HB1.out.size
      have := (World.ownsRow.lt h1 g hg).1
      have := (Array.getElem?_eq_some_iff.1 HR.out).1
      exact (bk_other (by omega)).trans (bk_other (by omega)))
    go_wp2
    refine bodyPost_ret (v := .agg #[.slice a' (0 + l.length) c', .int .i64 s]) (by simp [results, Try.results5, go_sem, *]) rfl ?_
    simpa only [Nat.zero_add] using HE.out
set_option maxHeartbeats 1000000 in
set_option maxRecDepth 100000 in
theorem sameTape_same (a1 a2 : Option Addr) (c1 c2 : Nat) (l : List UInt8) (s : Int) (Q1 Q2 : Nat → Prop) (w : World) (h1 : BysM Q1 w (.slice a1 l.length c1) l) (h2 : BysM Q2 w (.slice a2 l.length c2) l) :
    Calls Try.prog 8 #[.agg #[.slice a1 l.length c1, .int .i64 s], .agg #[.slice a2 l.length c2, .int .i64 s]] w fun e w' => e = .returned (.bool true) ∧ Below w.heap.size w w' := by
  have HB := bhid (tp_low2 w (.cells #[.slice a1 l.length c1, .int .i64 s] 24) (.cells #[.slice a2 l.length c2, .int .i64 s] 24))
  have t1 := by_text (h1.next HB.out)
  have t2 := by_text (h2.next HB.out)
  clear h1 h2
  go_enter Try.func8, Try.ntmps8
  go_wp2
  go_ret
  exact ⟨rfl, HB.out⟩
theorem bk_box1 (w : World) (o : Obj) : Below w.heap.size w (w.alloc o) := (Below.refl _ _).alloc (Nat.le_refl _) _
theorem own_up {w w' : World} {B n k : Nat} {e : TypeId} {v : Value} {xs : List Value} (h : w.ownsRow B e k v n xs) (hb : Below w.heap.size w w') : w'.ownsRow B e k v n xs := bk_keep h fun g hg => hb.block g (World.ownsRow.lt h g hg).2
theorem TpP.len {w : World} {l : List UInt8} {s er : Int} {e : Ending} {w' : World} (h : TpP w l s er e w') : ∃ a c, e = .returned (.tuple #[.agg #[.slice a l.length c, .int .i64 s], .int .i64 er]) ∧ (l.length ≤ maxLen → BysM (fun _ => True) w' (.slice a l.length c) l) ∧ Below w.heap.size w w' := by
  obtain ⟨a, c, h1, h2, h3⟩ := h
  exact ⟨a, c, h1, fun hm => own_by h2 rfl hm fun _ _ => trivial, h3⟩
set_option maxHeartbeats 2000000 in
set_option maxRecDepth 100000 in
theorem bookSyncs_walk (a : Option Addr) (c : Nat) (l : List UInt8) (s : Int) (w : World) (h : BysM (fun _ => True) w (.slice a l.length c) l) (hl : l.length ≤ 140737488355328) :
    Calls Try.prog 3 #[.agg #[.slice a l.length c, .int .i64 s]] w fun e w' => e = .returned (.bool true) ∧ Below w.heap.size w w' := by
  obtain ⟨y, er, ys, hy, hsy⟩ : ∃ (y : List UInt8) (er ys : Int), y.length ≤ l.length ∧ ∀ u : World, (if mayN l.length s then TpP u l l.length 0 else TpP u [] 0 11) = TpP u y ys er := by
    cases mayN l.length s with
    | true => exact ⟨l, 0, l.length, Nat.le_refl _, fun _ => rfl⟩
    | false => exact ⟨[], 11, 0, Nat.zero_le _, fun _ => rfl⟩
  have hm : l.length ≤ maxLen := h.slice.elim fun _ h => h.elim fun _ h => h.2.2
  have hmy : y.length ≤ maxLen := by omega
  obtain ⟨W1, hW1⟩ : ∃ W1, W1 = w.alloc (.cells #[.slice a l.length c, .int .i64 s] 24) := ⟨_, rfl⟩
  have HWE := bhid hW1
  have HB1 := bhid (show Below w.heap.size w W1 by rw [hW1]; exact bk_box1 _ _)
  have hp0 : W1.heap[w.heap.size]? = some (.cells #[.slice a l.length c, .int .i64 s] 24) := by rw [hW1]; exact heap_alloc_new w _
  have HP := bhid hp0
  obtain ⟨x0, x1, _, _⟩ := bk_box2 hp0
  have HH := bhid (h.next HB1.out)
  have HTP := bhid (tapes_any a c l s _ W1 HH.out hl)
  have HSY := bhid hsy
  clear h hp0 hW1 hsy
  go_enter Try.func3, Try.ntmps3
  go_wp2_with fail
  rw [← HWE.out]
  refine HTP.out.mono ?_
  rintro e w2 ⟨a2, c2, rfl, hO2, hb2⟩
  obtain ⟨W3, hW3⟩ : ∃ W3, W3 = w2.alloc (.cells #[.slice a2 l.length c2, .int .i64 s] 24) := ⟨_, rfl⟩
  have HWE3 := bhid hW3
  have hB23 : Below w2.heap.size w2 W3 := by rw [hW3]; exact bk_box1 _ _
  have HB3 := bhid (show Below W1.heap.size W1 W3 from hb2.trans (hB23.mono hb2.size))
  have hp3 : W3.heap[w2.heap.size]? = some (.cells #[.slice a2 l.length c2, .int .i64 s] 24) := by rw [hW3]; exact heap_alloc_new w2 _
  have HP3 := bhid hp3
  obtain ⟨y0, y1, _, _⟩ := bk_box2 hp3
  have HC3 := bhid (show BysM (fun _ => True) W3 (.slice a2 l.length c2) l from own_by (own_up hO2 hB23) rfl hm fun _ _ => trivial)
  have HSC := bhid (sync_any a2 c2 l s _ W3 HC3.out)
  rw [HSY.out] at HSC
  clear hO2 hb2 hB23 hp3 hW3 HTP
  go_upto_region 2 with fail
  rw [← HWE3.out]
  go_wp2_with fail
  refine HSC.out.mono ?_
  intro e w4 h4
  obtain ⟨a4, c4, rfl, hO4, hb4⟩ := h4.len
  obtain ⟨W5, hW5⟩ : ∃ W5, W5 = w4.alloc (.cells #[.slice a4 y.length c4, .int .i64 ys] 24) := ⟨_, rfl⟩
  have HWE5 := bhid hW5
  have hB45 : Below w4.heap.size w4 W5 := by rw [hW5]; exact bk_box1 _ _
  have HB35 := bhid (show Below W3.heap.size W3 W5 from hb4.trans (hB45.mono hb4.size))
  have HB5 := bhid (show Below W1.heap.size W1 W5 from HB3.out.trans (HB35.out.mono HB3.out.size))
  have hp5 : W5.heap[w4.heap.size]? = some (.cells #[.slice a4 y.length c4, .int .i64 ys] 24) := by rw [hW5]; exact heap_alloc_new w4 _
  have HP5 := bhid hp5
  obtain ⟨v0, v1, _, _⟩ := bk_box2 (bk_low HB5.out HP.out)
  have HC5 := bhid ((hO4 hmy).next hB45)
  have HSR := bhid (synced_any a c l s _ W5 (HH.out.next HB5.out))
  rw [HSY.out] at HSR
  clear hO4 hb4 hB45 hp5 hW5 h4 HSC
  go_upto_region 3 with fail
  rw [← HWE5.out]
  go_wp2_with fail
  refine HSR.out.mono ?_
  intro e w6 h6
  obtain ⟨a6, c6, rfl, hO6, hb6⟩ := h6.len
  obtain ⟨W7, hW7⟩ : ∃ W7, W7 = w6.alloc (.cells #[.slice a6 y.length c6, .int .i64 ys] 24) := ⟨_, rfl⟩
  have HWE7 := bhid hW7
  have hB67 : Below w6.heap.size w6 W7 := by rw [hW7]; exact bk_box1 _ _
  have HB57 := bhid (show Below W5.heap.size W5 W7 from hb6.trans (hB67.mono hb6.size))
  have HB7 := bhid (show Below W1.heap.size W1 W7 from HB5.out.trans (HB57.out.mono HB5.out.size))
  have hp7 : W7.heap[w6.heap.size]? = some (.cells #[.slice a6 y.length c6, .int .i64 ys] 24) := by rw [hW7]; exact heap_alloc_new w6 _
  have HP7 := bhid hp7
  obtain ⟨t0, t1, _, _⟩ := bk_box2 hp7
  obtain ⟨u0, u1, _, _⟩ := bk_box2 (bk_low HB57.out HP5.out)
  have HC7 := bhid ((hO6 hmy).next hB67)
  have HS1 := bhid (sameTape_same a4 a6 c4 c6 y ys _ _ W7 (HC5.out.next HB57.out) HC7.out)
  clear hO6 hb6 hB67 hp7 hW7 h6 HSR
  go_upto_region 4 with fail
  rw [← HWE7.out]
  go_wp2_with fail
  refine HS1.out.mono ?_
  rintro e w8 ⟨rfl, hb8⟩
  have HB37 := bhid (show Below W3.heap.size W3 w8 from (HB35.out.trans (HB57.out.mono HB35.out.size)).trans (hb8.mono (Nat.le_trans HB35.out.size HB57.out.size)))
  have HB8 := bhid (show Below W1.heap.size W1 w8 from HB7.out.trans (hb8.mono HB7.out.size))
  obtain ⟨s0, s1, _, _⟩ := bk_box2 (bk_low HB37.out HP3.out)
  obtain ⟨r0, r1, _, _⟩ := bk_box2 (bk_low HB8.out HP.out)
  have HS2 := bhid (sameTape_same a2 a c2 c l s _ _ w8 (HC3.out.next HB37.out) (HH.out.next HB8.out))
  clear hb8 HS1
  go_wp2_with fail
  refine HS2.out.mono ?_
  rintro e w9 ⟨rfl, hb9⟩
  have HE := bhid (show Below w.heap.size w w9 from (HB1.out.trans (HB8.out.mono HB1.out.size)).trans (hb9.mono (Nat.le_trans HB1.out.size HB8.out.size)))
  clear hb9
  go_wp2
  go_ret
  exact ⟨rfl, HE.out⟩
set_option maxHeartbeats 2000000 in
set_option maxRecDepth 100000 in
theorem bookCrashes_walk (a : Option Addr) (c : Nat) (l : List UInt8) (s : Int) (keep : Int) (_hk : (Lit.int .i64 keep).wf = true) (w : World) (h : BysM (fun _ => True) w (.slice a l.length c) l) (hl : l.length ≤ 140737488355328) :
    Calls Try.prog 4 #[.agg #[.slice a l.length c, .int .i64 s], .int .i64 keep] w fun e w' => e = .returned (.bool true) ∧ Below w.heap.size w w' := by
  obtain ⟨y, er, ys, hy, hsy⟩ : ∃ (y : List UInt8) (er ys : Int), y.length ≤ l.length ∧ ∀ u : World, crashP u l s keep = TpP u y ys er := by
    unfold crashP
    cases mayN l.length s with
    | true =>
      by_cases hk : keep < 0
      · exact ⟨[], 6, 0, Nat.zero_le _, fun _ => by rw [if_pos rfl, if_pos hk]⟩
      · exact ⟨l.take (leftN l.length s keep), 0, leftN l.length s keep, by rw [List.length_take]; omega, fun _ => by rw [if_pos rfl, if_neg hk]⟩
    | false => exact ⟨[], 11, 0, Nat.zero_le _, fun _ => rfl⟩
  have hm : l.length ≤ maxLen := h.slice.elim fun _ h => h.elim fun _ h => h.2.2
  have hmy : y.length ≤ maxLen := by omega
  obtain ⟨W1, hW1⟩ : ∃ W1, W1 = w.alloc (.cells #[.slice a l.length c, .int .i64 s] 24) := ⟨_, rfl⟩
  have HWE := bhid hW1
  have HB1 := bhid (show Below w.heap.size w W1 by rw [hW1]; exact bk_box1 _ _)
  have hp0 : W1.heap[w.heap.size]? = some (.cells #[.slice a l.length c, .int .i64 s] 24) := by rw [hW1]; exact heap_alloc_new w _
  have HP := bhid hp0
  obtain ⟨x0, x1, _, _⟩ := bk_box2 hp0
  have HH := bhid (h.next HB1.out)
  have HTP := bhid (tapes_any a c l s _ W1 HH.out hl)
  have HSY := bhid hsy
  clear h hp0 hW1 hsy
  go_enter Try.func4, Try.ntmps4
  go_wp2_with fail
  rw [← HWE.out]
  refine HTP.out.mono ?_
  rintro e w2 ⟨a2, c2, rfl, hO2, hb2⟩
  obtain ⟨W3, hW3⟩ : ∃ W3, W3 = w2.alloc (.cells #[.slice a2 l.length c2, .int .i64 s] 24) := ⟨_, rfl⟩
  have HWE3 := bhid hW3
  have hB23 : Below w2.heap.size w2 W3 := by rw [hW3]; exact bk_box1 _ _
  have HB3 := bhid (show Below W1.heap.size W1 W3 from hb2.trans (hB23.mono hb2.size))
  have hp3 : W3.heap[w2.heap.size]? = some (.cells #[.slice a2 l.length c2, .int .i64 s] 24) := by rw [hW3]; exact heap_alloc_new w2 _
  have HP3 := bhid hp3
  obtain ⟨y0, y1, _, _⟩ := bk_box2 hp3
  have HC3 := bhid (show BysM (fun _ => True) W3 (.slice a2 l.length c2) l from own_by (own_up hO2 hB23) rfl hm fun _ _ => trivial)
  have HSC := bhid (crash_any a2 c2 l s keep _ W3 HC3.out)
  rw [HSY.out] at HSC
  clear hO2 hb2 hB23 hp3 hW3 HTP
  go_upto_region 2 with fail
  rw [← HWE3.out]
  go_wp2_with fail
  refine HSC.out.mono ?_
  intro e w4 h4
  obtain ⟨a4, c4, rfl, hO4, hb4⟩ := h4.len
  obtain ⟨W5, hW5⟩ : ∃ W5, W5 = w4.alloc (.cells #[.slice a4 y.length c4, .int .i64 ys] 24) := ⟨_, rfl⟩
  have HWE5 := bhid hW5
  have hB45 : Below w4.heap.size w4 W5 := by rw [hW5]; exact bk_box1 _ _
  have HB35 := bhid (show Below W3.heap.size W3 W5 from hb4.trans (hB45.mono hb4.size))
  have HB5 := bhid (show Below W1.heap.size W1 W5 from HB3.out.trans (HB35.out.mono HB3.out.size))
  have hp5 : W5.heap[w4.heap.size]? = some (.cells #[.slice a4 y.length c4, .int .i64 ys] 24) := by rw [hW5]; exact heap_alloc_new w4 _
  have HP5 := bhid hp5
  obtain ⟨v0, v1, _, _⟩ := bk_box2 (bk_low HB5.out HP.out)
  have HC5 := bhid ((hO4 hmy).next hB45)
  have HSR := bhid (crashed_any a c l s keep _ W5 (HH.out.next HB5.out))
  rw [HSY.out] at HSR
  clear hO4 hb4 hB45 hp5 hW5 h4 HSC
  go_upto_region 3 with fail
  rw [← HWE5.out]
  go_wp2_with fail
  refine HSR.out.mono ?_
  intro e w6 h6
  obtain ⟨a6, c6, rfl, hO6, hb6⟩ := h6.len
  obtain ⟨W7, hW7⟩ : ∃ W7, W7 = w6.alloc (.cells #[.slice a6 y.length c6, .int .i64 ys] 24) := ⟨_, rfl⟩
  have HWE7 := bhid hW7
  have hB67 : Below w6.heap.size w6 W7 := by rw [hW7]; exact bk_box1 _ _
  have HB57 := bhid (show Below W5.heap.size W5 W7 from hb6.trans (hB67.mono hb6.size))
  have HB7 := bhid (show Below W1.heap.size W1 W7 from HB5.out.trans (HB57.out.mono HB5.out.size))
  have hp7 : W7.heap[w6.heap.size]? = some (.cells #[.slice a6 y.length c6, .int .i64 ys] 24) := by rw [hW7]; exact heap_alloc_new w6 _
  have HP7 := bhid hp7
  obtain ⟨t0, t1, _, _⟩ := bk_box2 hp7
  obtain ⟨u0, u1, _, _⟩ := bk_box2 (bk_low HB57.out HP5.out)
  have HC7 := bhid ((hO6 hmy).next hB67)
  have HS1 := bhid (sameTape_same a4 a6 c4 c6 y ys _ _ W7 (HC5.out.next HB57.out) HC7.out)
  clear hO6 hb6 hB67 hp7 hW7 h6 HSR
  go_upto_region 4 with fail
  rw [← HWE7.out]
  go_wp2_with fail
  refine HS1.out.mono ?_
  rintro e w8 ⟨rfl, hb8⟩
  have HB37 := bhid (show Below W3.heap.size W3 w8 from (HB35.out.trans (HB57.out.mono HB35.out.size)).trans (hb8.mono (Nat.le_trans HB35.out.size HB57.out.size)))
  have HB8 := bhid (show Below W1.heap.size W1 w8 from HB7.out.trans (hb8.mono HB7.out.size))
  obtain ⟨s0, s1, _, _⟩ := bk_box2 (bk_low HB37.out HP3.out)
  obtain ⟨r0, r1, _, _⟩ := bk_box2 (bk_low HB8.out HP.out)
  have HS2 := bhid (sameTape_same a2 a c2 c l s _ _ w8 (HC3.out.next HB37.out) (HH.out.next HB8.out))
  clear hb8 HS1
  go_wp2_with fail
  refine HS2.out.mono ?_
  rintro e w9 ⟨rfl, hb9⟩
  have HE := bhid (show Below w.heap.size w w9 from (HB1.out.trans (HB8.out.mono HB1.out.size)).trans (hb9.mono (Nat.le_trans HB1.out.size HB8.out.size)))
  clear hb9
  go_wp2
  go_ret
  exact ⟨rfl, HE.out⟩
end Go.Proofs.Ythdodjmkfodbgaa
