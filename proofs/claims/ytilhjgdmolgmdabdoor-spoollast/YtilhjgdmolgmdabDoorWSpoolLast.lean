/-
  What goes out stands last, as long as there is room; boxes stay: walked.
-/
import Derived.Test.YtilhjgdmolgmdabDoorBoxSm
import Derived.Test.YtilhjgdmolgmdabDoorBoxLw
namespace Go.Proofs.YtilhjgdmolgmdabDoor
open Go.RowKit Go.Proofs

set_option maxHeartbeats 2000000 in
set_option maxRecDepth 100000 in
theorem spoolLast_walk (w : World) (_hm : maxLenCell w) (a : Option Addr) (c : Nat) (ls : List Chr) (hF : ChsM (fun _ => True) w (.slice a ls.length c) ls) (hB : ∀ x ∈ ls, chrW x) (tx : ByteArray) (hT : tx.size ≤ maxLen) :
    Calls Tryd.prog 4 #[.slice a ls.length c, .string tx] w fun e w' => e = .returned (.bool true) ∧ Below w.heap.size w w' := by
  have HM := hid (stateP_may ls)
  have HSA := hid (fun u (hu : Below w.heap.size w u) => state_any ls a c u _ (hF.next hu) hB)
  generalize stateP ls = s at *
  have HST := hid (HSA.out w (Below.refl _ _))
  have HB0 := hid (Below.refl w.heap.size w)
  have HYW := hid (show chrW ⟨5, 0, 0, 0, 0, tx⟩ from ⟨five_wf, zero_wf, zero_wf, zero_wf, zero_wf, hT⟩)
  obtain ⟨E, hE⟩ : ∃ E, E = entP ⟨5, 0, 0, 0, 0, tx⟩ := ⟨_, rfl⟩
  have HKE := hid (show E.kind = 6 by rw [hE, entP_kind]; rfl)
  have HFM := hid (show Formed E by rw [hE]; exact entP_formed _)
  have HEN := hid (fun u => entry_any ⟨5, 0, 0, 0, 0, tx⟩ u HYW.out)
  rw [← hE] at HEN
  clear hF hB hT HSA hE
  go_enter Tryd.func4, Tryd.ntmps4
  go_wp2_with fail
  refine HST.out.mono ?_
  rintro e w1 ⟨ab, nb, cb, aq, nq, cq, rfl, hS, hb1⟩
  simp only
  obtain ⟨ab', cb', e⟩ := RowM.slice hS.1
  simp only [Value.slice.injEq] at e
  obtain ⟨rfl, rfl, rfl⟩ := e
  obtain ⟨aq', cq', e⟩ := RowM.slice hS.2.1
  simp only [Value.slice.injEq] at e
  obtain ⟨rfl, rfl, rfl⟩ := e
  obtain ⟨W2, hW2⟩ : ∃ W2, W2 = w1.alloc (.cells #[.slice ab s.boxes.length cb, .slice aq s.spool.length cq] 26) := ⟨_, rfl⟩
  have HWE2 := hid hW2
  have hB2 : Below w1.heap.size w1 W2 := by rw [hW2]; exact (Below.refl _ _).alloc (Nat.le_refl _) _
  have HB2 := hid (show Below w.heap.size w W2 from (HB0.out.trans (hb1.mono HB0.out.size)).trans (hB2.mono (Nat.le_trans HB0.out.size hb1.size)))
  have s0 : W2.cell? ⟨w1.heap.size, 0, none⟩ = some (.slice ab s.boxes.length cb) := by rw [hW2]; simp
  have s1 : W2.cell? ⟨w1.heap.size, 1, none⟩ = some (.slice aq s.spool.length cq) := by rw [hW2]; simp
  have HS := hid (hS.next hB2)
  clear hS hW2 hB2 hb1
  go_upto_region 2 with fail
  rw [← HWE2.out]
  go_wp2_with fail
  refine (HEN.out W2).mono ?_
  rintro e w3 ⟨rfl, hb3⟩
  simp only
  obtain ⟨W4, hW4⟩ : ∃ W4, W4 = w3.alloc (.cells #[.int .i64 E.kind, .string (S E.box), .int .i64 E.uid, .int .i64 E.flags, .string (S E.goal), .string (S E.text)] 34) := ⟨_, rfl⟩
  have HWE4 := hid hW4
  have hB4 : Below w3.heap.size w3 W4 := by rw [hW4]; exact (Below.refl _ _).alloc (Nat.le_refl _) _
  have hX4 : W4.heap[w3.heap.size]? = some (.cells #[.int .i64 E.kind, .string (S E.box), .int .i64 E.uid, .int .i64 E.flags, .string (S E.goal), .string (S E.text)] 34) := by rw [hW4]; exact heap_alloc_new w3 _
  obtain ⟨x0, x1, x2, x3, x4, x5⟩ := box6' hX4
  have hB24 : Below W2.heap.size W2 W4 := hb3.trans (hB4.mono hb3.size)
  have s0 := wcell_next s0 hB24
  have s1 := wcell_next s1 hB24
  have HS4 := hid (HS.out.next hB24)
  have HS4L := hid HS4.out.lows
  have HW14 := hid (World.block_lt_of_cell? _ _ s0)
  have HB4 := hid (show Below w.heap.size w W4 from HB2.out.trans (hB24.mono HB2.out.size))
  have HAP := hid (apply_any s _ _ E W4 _ HS4.out HM.out HFM.out)
  have HX4 := hid hX4
  clear hb3 hB24 hB4 hW4 hX4
  go_upto_region 3 with fail
  rw [← HWE4.out]
  go_wp2_with fail
  refine HAP.out.mono ?_
  intro e w5 hA
  have hb5 := hA.1
  obtain ⟨a1, n1, d1, a2, n2, d2, z, rfl, hR⟩ := hA.form
  simp only
  obtain ⟨W6, hW6⟩ : ∃ W6, W6 = w5.alloc (.cells #[.slice a1 n1 d1, .slice a2 n2 d2] 26) := ⟨_, rfl⟩
  have HWE6 := hid hW6
  have hB6 : Below w5.heap.size w5 W6 := by rw [hW6]; exact (Below.refl _ _).alloc (Nat.le_refl _) _
  have hT6 : W6.heap[w5.heap.size]? = some (.cells #[.slice a1 n1 d1, .slice a2 n2 d2] 26) := by rw [hW6]; exact heap_alloc_new w5 _
  have HT6 := hid hT6
  obtain ⟨t0, t1, tf0, tf1⟩ := box2f hT6
  have hB46 : Below W4.heap.size W4 W6 := hb5.trans (hB6.mono hb5.size)
  have HZ5 := hid (show W4.heap.size ≤ w5.heap.size from hb5.size)
  have s0 := wcell_next s0 hB46
  have s1 := wcell_next s1 hB46
  have HX6 := hid (low_obj hB46 HX4.out)
  obtain ⟨x0, x1, x2, x3, x4, x5⟩ := box6' HX6.out
  have HS6 := hid (HS4.out.next hB46)
  have HB46 := hid hB46
  have HB6 := hid (show Below w.heap.size w W6 from HB4.out.trans (hB46.mono HB4.out.size))
  have HOK := hid (fun s' (h : doM s E = .ok s') => show z = 0 ∧ ∃ vm, OwnS W4.heap.size W6 (.slice a1 n1 d1) (.slice a2 n2 d2) vm s' ∧ ¬ inS (.slice a1 n1 d1) (.slice a2 n2 d2) vm w5.heap.size by
    have hR' := hR
    rw [h] at hR'
    obtain ⟨h0, vm, hO⟩ := hR'
    exact ⟨h0, vm, hO.next hB6, fun hg => by have := (hO.lt hg).2; omega⟩)
  have HER := hid (fun q (h : doM s E = .error q) => show z = q ∧ n1 = 0 by
    have hR' := hR
    rw [h] at hR'
    refine ⟨hR'.1, ?_⟩
    have := hR'.2.1
    simp only [Value.slice.injEq] at this
    exact this.2.1)
  clear hA hb5 hR hW6 hB6 hB46 hT6
  go_upto_region 4 with fail
  rw [← HWE6.out]
  cases hd : doM s E with
  | error q =>
    obtain ⟨hz, _⟩ := HER.out q hd
    rw [doM_k6 HKE.out] at hd
    by_cases h20 : 20 ≤ s.spool.length
    · rw [if_pos h20] at hd
      cases hd
      subst hz
      have h20' := HM.out.spool
      have hl : (s.spool.length : Int) = 20 := by omega
      clear h20 HOK HER
      go_wp2
      go_ret
      exact ⟨rfl, HB6.out⟩
    · rw [if_neg h20] at hd
      cases hd
  | ok s' =>
    obtain ⟨hz, vm, hO, hnp⟩ := HOK.out s' hd
    have hMt := doM_may HM.out HFM.out hd
    rw [doM_k6 HKE.out] at hd
    by_cases h20 : 20 ≤ s.spool.length
    · rw [if_pos h20] at hd
      cases hd
    · rw [if_neg h20] at hd
      cases hd
      subst hz
      have hl : ¬ (s.spool.length : Int) = 20 := by omega
      have hl2 : ((s.spool.length : Int) == 20) = false := by simp; omega
      have hSt := hO.stt (Q := fun k => k ≠ w5.heap.size) hMt (fun g hg e => hnp (by rw [← e]; exact hg))
      obtain ⟨cs2, e2⟩ : ∃ c, (Value.slice a2 n2 d2) = .slice a2 (s.spool.length + 1) c := by
        obtain ⟨a', c', e⟩ := own_slice hO.spool
        simp only [Value.slice.injEq, List.length_append, List.length_cons, List.length_nil] at e
        exact ⟨d2, by rw [e.2.1]⟩
      simp only [Value.slice.injEq, true_and] at e2
      obtain ⟨rfl, rfl⟩ := e2
      obtain ⟨cb2, e3⟩ : ∃ c, (Value.slice a1 n1 d1) = .slice a1 s.boxes.length c := by
        obtain ⟨a', c', e⟩ := own_slice hO.boxes
        simp only [Value.slice.injEq] at e
        exact ⟨d1, by rw [e.2.1]⟩
      simp only [Value.slice.injEq, true_and] at e3
      obtain ⟨rfl, rfl⟩ := e3
      have hcap : s.spool.length + 1 ≤ d2 := by
        rcases hO.spool.2 with ⟨e, _⟩ | ⟨g, cap, cur, e, _, _, h1, _⟩
        · simp only [Value.slice.injEq] at e; omega
        · simp only [Value.slice.injEq, List.length_append, List.length_cons, List.length_nil] at e h1
          omega
      obtain ⟨g, o, eg, _, m0, m1, m2, m3, m4, m5⟩ := hSt.2.1.at (i := s.spool.length) (x := E) (by simp)
      subst eg
      have k0 : (0 : Int) ≤ (s.spool.length : Int) := by omega
      have k1 : (s.spool.length : Int) < (s.spool.length : Int) + 1 := by omega
      have k2 : (s.spool.length : Int) ≤ (d2 : Int) := by omega
      have h20' := HM.out.spool
      have HSt := hid hSt
      have HCP := hid hcap
      clear hSt hO hnp hMt hcap h20 HOK HER
      go_wp2
      go_quiet (fail)
      have HBQ := hid (wdrew HB6.out nq)
      obtain ⟨W7, hW7⟩ : ∃ W, W = W6.drewN nq := ⟨_, rfl⟩
      have hB7 : Below W6.heap.size W6 W7 := by rw [hW7]; exact wdrew (Below.refl _ _) nq
      rw [← hW7] at HBQ ⊢
      clear hW7
      have s0 := wcell_next s0 hB7
      have s1 := wcell_next s1 hB7
      have tf1 := low_frozen tf1 t1 hB7
      have t0 := wcell_next t0 hB7
      have t1 := wcell_next t1 hB7
      have hne : w1.heap.size ≠ w5.heap.size := by
        have h1 : w1.heap.size < W4.heap.size := HW14.out
        have := HZ5.out
        omega
      have hT7 := low_obj hB7 HT6.out
      have hset := heap_setCell_same W7 w5.heap.size 1 #[.slice a1 s.boxes.length d1, .slice (some ⟨g, o, none⟩) (s.spool.length + 1) d2] 26 (.slice (some ⟨g, o, none⟩) s.spool.length d2) hT7
      have hset' : (W7.setCell ⟨w5.heap.size, 1, none⟩ (.slice (some ⟨g, o, none⟩) s.spool.length d2)).heap[w5.heap.size]? = some (.cells #[.slice a1 s.boxes.length d1, .slice (some ⟨g, o, none⟩) s.spool.length d2] 26) := by rw [hset]; rfl
      obtain ⟨v0, v1, _, _⟩ := box2f hset'
      have s0' : (W7.setCell ⟨w5.heap.size, 1, none⟩ (.slice (some ⟨g, o, none⟩) s.spool.length d2)).cell? ⟨w1.heap.size, 0, none⟩ = some (.slice ab s.boxes.length cb) := (World.cell?_of_block (w := W7) (set_other hne)).trans s0
      have s1' : (W7.setCell ⟨w5.heap.size, 1, none⟩ (.slice (some ⟨g, o, none⟩) s.spool.length d2)).cell? ⟨w1.heap.size, 1, none⟩ = some (.slice aq s.spool.length cq) := (World.cell?_of_block (w := W7) (set_other hne)).trans s1
      have hS4' : SttM (fun k => k < W4.heap.size) W7 (.slice ab s.boxes.length cb) (.slice aq s.spool.length cq) s := (HS4L.out.next HB46.out).next hB7
      have hA : SttM (fun k => k < W4.heap.size) (W7.setCell ⟨w5.heap.size, 1, none⟩ (.slice (some ⟨g, o, none⟩) s.spool.length d2)) (.slice ab s.boxes.length cb) (.slice aq s.spool.length cq) s := hS4'.imp (fun _ h => h) (Keeps.set W7 (p := ⟨w5.heap.size, 1, none⟩) _ fun b hb => by have := HZ5.out; show b ≠ w5.heap.size; omega)
      have hT0 : SttM (fun k => k ≠ w5.heap.size) W7 (.slice a1 s.boxes.length d1) (.slice (some ⟨g, o, none⟩) s.spool.length d2) s := by
        obtain ⟨h1, h2, h3⟩ := HSt.out.next hB7
        refine ⟨h1, ?_, h3⟩
        obtain ⟨a', c', e, hm, hr⟩ := h2
        simp only [Value.slice.injEq, List.length_append, List.length_cons, List.length_nil, true_and] at e
        obtain ⟨rfl, rfl⟩ := e
        refine ⟨_, _, rfl, by unfold maxLen; omega, fun i y hy => ?_⟩
        have hi : i < s.spool.length := (List.getElem?_eq_some_iff.1 hy).1
        exact hr i y (by rw [List.getElem?_append_left hi]; exact hy)
      have hC : SttM (fun k => k ≠ w5.heap.size) (W7.setCell ⟨w5.heap.size, 1, none⟩ (.slice (some ⟨g, o, none⟩) s.spool.length d2)) (.slice a1 s.boxes.length d1) (.slice (some ⟨g, o, none⟩) s.spool.length d2) s := hT0.imp (fun _ h => h) (Keeps.set W7 (p := ⟨w5.heap.size, 1, none⟩) _ fun b hb => hb)
      have HSA := hid (sameState_any s _ _ _ _ _ _ _ hA hC)
      have HBS := hid (show Below w.heap.size w (W7.setCell ⟨w5.heap.size, 1, none⟩ (.slice (some ⟨g, o, none⟩) s.spool.length d2)) from HBQ.out.setCell (show w.heap.size ≤ w5.heap.size from Nat.le_trans HB4.out.size HZ5.out) _)
      obtain ⟨W8, hW8⟩ : ∃ W8, W8 = W7.setCell ⟨w5.heap.size, 1, none⟩ (.slice (some ⟨g, o, none⟩) s.spool.length d2) := ⟨_, rfl⟩
      rw [← hW8] at HSA HBS v0 v1 s0' s1'
      have HWE8 := hid hW8
      clear hA hC hT0 hS4' hset hset' hT7 hB7 hW8
      go_upto_region 10 with fail
      rw [← HWE8.out]
      go_wp2_with fail
      refine HSA.out.mono ?_
      rintro e w9 ⟨rfl, hb9⟩
      have HB9 := hid (HBS.out.trans (hb9.mono HBS.out.size))
      clear hb9
      simp only
      go_wp2
      go_ret
      exact ⟨rfl, HB9.out⟩
end Go.Proofs.YtilhjgdmolgmdabDoor
