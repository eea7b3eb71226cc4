/-
  Flags change one mail's flags, and nothing else; to give them back undoes it: walked.
-/
import Derived.Test.YtilhjgdmolgmdaaDoorBoxSm
import Derived.Test.YtilhjgdmolgmdaaDoorBoxLw
import Derived.Test.YtilhjgdmolgmdaaDoorBoxFd
import Derived.Test.YtilhjgdmolgmdaaDoorBoxZs
import Derived.Test.YtilhjgdmolgmdaaDoorBoxFl
namespace Go.Proofs.YtilhjgdmolgmdaaDoor
open Go.RowKit Go.Proofs

set_option maxHeartbeats 2000000 in
set_option maxRecDepth 100000 in
theorem flagOnly_walk (w : World) (_hm : maxLenCell w) (a : Option Addr) (c : Nat) (ls : List Chr) (hF : ChsM (fun _ => True) w (.slice a ls.length c) ls) (hB : ∀ x ∈ ls, chrW x) (x : Chr) (hX : chrW x) :
    Calls Tryd.prog 5 #[.slice a ls.length c, .agg #[.int .i64 x.kind, .int .i64 x.box, .int .i64 x.uid, .int .i64 x.flags, .int .i64 x.goal, .string x.text]] w fun e w' => e = .returned (.bool true) ∧ Below w.heap.size w w' := by
  have HM := hid (stateP_may ls)
  have HSA := hid (fun u (hu : Below w.heap.size w u) => state_any ls a c u _ (hF.next hu) hB)
  generalize stateP ls = s at *
  obtain ⟨W0, hW0⟩ : ∃ W0, W0 = w.alloc (.cells #[.int .i64 x.kind, .int .i64 x.box, .int .i64 x.uid, .int .i64 x.flags, .int .i64 x.goal, .string x.text] 39) := ⟨_, rfl⟩
  have HWE := hid hW0
  have hB0 : Below w.heap.size w W0 := by rw [hW0]; exact (Below.refl _ _).alloc (Nat.le_refl _) _
  have HB0 := hid hB0
  have hC0 : W0.heap[w.heap.size]? = some (.cells #[.int .i64 x.kind, .int .i64 x.box, .int .i64 x.uid, .int .i64 x.flags, .int .i64 x.goal, .string x.text] 39) := by rw [hW0]; exact heap_alloc_new w _
  have HC0 := hid hC0
  have HST := hid (HSA.out W0 hB0)
  have HYW := hid (show chrW ⟨2, x.box, x.uid, x.flags, 0, ByteArray.empty⟩ from ⟨two_wf, hX.2.1, hX.2.2.1, hX.2.2.2.1, zero_wf, empty_le⟩)
  obtain ⟨E, hE⟩ : ∃ E, E = entP ⟨2, x.box, x.uid, x.flags, 0, ByteArray.empty⟩ := ⟨_, rfl⟩
  have HKE := hid (show E.kind = 3 by rw [hE, entP_kind]; rfl)
  have HFM := hid (show Formed E by rw [hE]; exact entP_formed _)
  have HEN := hid (fun u => entry_any ⟨2, x.box, x.uid, x.flags, 0, ByteArray.empty⟩ u HYW.out)
  rw [← hE] at HEN
  clear hF hB hX hW0 hB0 hC0 HSA hE
  go_enter Tryd.func5, Tryd.ntmps5
  go_wp2_with fail
  rw [← HWE.out]
  refine HST.out.mono ?_
  rintro e w1 ⟨ab, nb, cb, aq, nq, cq, rfl, hS, hb1⟩
  simp only
  obtain ⟨ab', cb', e⟩ := RowM.slice hS.1
  simp only [Value.slice.injEq] at e
  obtain ⟨rfl, rfl, rfl⟩ := e
  obtain ⟨aq', cq', e⟩ := RowM.slice hS.2.1
  simp only [Value.slice.injEq] at e
  obtain ⟨rfl, rfl, rfl⟩ := e
  obtain ⟨W2, hW2⟩ : ∃ W2, W2 = w1.alloc (.cells #[.slice ab s.boxes.length cb, .slice aq s.spool.length cq] 26) := ⟨_, rfl⟩
  have HWE2 := hid hW2
  have hB2 : Below w1.heap.size w1 W2 := by rw [hW2]; exact (Below.refl _ _).alloc (Nat.le_refl _) _
  have HB2 := hid (show Below w.heap.size w W2 from (HB0.out.trans (hb1.mono HB0.out.size)).trans (hB2.mono (Nat.le_trans HB0.out.size hb1.size)))
  have s0 : W2.cell? ⟨w1.heap.size, 0, none⟩ = some (.slice ab s.boxes.length cb) := by rw [hW2]; simp
  have s1 : W2.cell? ⟨w1.heap.size, 1, none⟩ = some (.slice aq s.spool.length cq) := by rw [hW2]; simp
  obtain ⟨_, c1, c2, c3, c4, c5⟩ := box6' (low_obj hB2 (low_obj hb1 HC0.out))
  have HS := hid (hS.next hB2)
  clear hS hW2 hB2 hb1
  go_upto_region 2 with fail
  rw [← HWE2.out]
  go_wp2_with fail
  refine (HEN.out W2).mono ?_
  rintro e w3 ⟨rfl, hb3⟩
  simp only
  obtain ⟨W4, hW4⟩ : ∃ W4, W4 = w3.alloc (.cells #[.int .i64 E.kind, .string (S E.box), .int .i64 E.uid, .int .i64 E.flags, .string (S E.goal), .string (S E.text)] 41) := ⟨_, rfl⟩
  have HWE4 := hid hW4
  have hB4 : Below w3.heap.size w3 W4 := by rw [hW4]; exact (Below.refl _ _).alloc (Nat.le_refl _) _
  have hX4 : W4.heap[w3.heap.size]? = some (.cells #[.int .i64 E.kind, .string (S E.box), .int .i64 E.uid, .int .i64 E.flags, .string (S E.goal), .string (S E.text)] 41) := by rw [hW4]; exact heap_alloc_new w3 _
  obtain ⟨x0, x1, x2, x3, x4, x5⟩ := box6' hX4
  have hB24 : Below W2.heap.size W2 W4 := hb3.trans (hB4.mono hb3.size)
  have s0 := wcell_next s0 hB24
  have s1 := wcell_next s1 hB24
  have HS4 := hid (HS.out.next hB24)
  have HS4L := hid HS4.out.lows
  have HW14 := hid (World.block_lt_of_cell? _ _ s0)
  have HB4 := hid (show Below w.heap.size w W4 from HB2.out.trans (hB24.mono HB2.out.size))
  have HAP := hid (apply_any s _ _ E W4 _ HS4.out HM.out HFM.out)
  have HX4 := hid hX4
  clear hb3 hB24 hB4 hW4 hX4
  go_upto_region 3 with fail
  rw [← HWE4.out]
  go_wp2_with fail
  refine HAP.out.mono ?_
  intro e w5 hA
  have hb5 := hA.1
  obtain ⟨a1, n1, d1, a2, n2, d2, z, rfl, hR⟩ := hA.form
  simp only
  obtain ⟨W6, hW6⟩ : ∃ W6, W6 = w5.alloc (.cells #[.slice a1 n1 d1, .slice a2 n2 d2] 26) := ⟨_, rfl⟩
  have HWE6 := hid hW6
  have hB6 : Below w5.heap.size w5 W6 := by rw [hW6]; exact (Below.refl _ _).alloc (Nat.le_refl _) _
  have hT6 : W6.heap[w5.heap.size]? = some (.cells #[.slice a1 n1 d1, .slice a2 n2 d2] 26) := by rw [hW6]; exact heap_alloc_new w5 _
  have HT6 := hid hT6
  obtain ⟨t0, t1, tf0, tf1⟩ := box2f hT6
  have hB46 : Below W4.heap.size W4 W6 := hb5.trans (hB6.mono hb5.size)
  have HZ5 := hid (show W4.heap.size ≤ w5.heap.size from hb5.size)
  have s0 := wcell_next s0 hB46
  have s1 := wcell_next s1 hB46
  have HX6 := hid (low_obj hB46 HX4.out)
  obtain ⟨x0, x1, x2, x3, x4, x5⟩ := box6' HX6.out
  have HS6 := hid (HS4.out.next hB46)
  have HB46 := hid hB46
  have HB6 := hid (show Below w.heap.size w W6 from HB4.out.trans (hB46.mono HB4.out.size))
  have HOK := hid (fun s' (h : doM s E = .ok s') => show z = 0 ∧ ∃ vm, OwnS W4.heap.size W6 (.slice a1 n1 d1) (.slice a2 n2 d2) vm s' ∧ ¬ inS (.slice a1 n1 d1) (.slice a2 n2 d2) vm w5.heap.size by
    have hR' := hR
    rw [h] at hR'
    obtain ⟨h0, vm, hO⟩ := hR'
    exact ⟨h0, vm, hO.next hB6, fun hg => by have := (hO.lt hg).2; omega⟩)
  have HER := hid (fun q (h : doM s E = .error q) => show z = q ∧ n1 = 0 by
    have hR' := hR
    rw [h] at hR'
    refine ⟨hR'.1, ?_⟩
    have := hR'.2.1
    simp only [Value.slice.injEq] at this
    exact this.2.1)
  clear hA hb5 hR hW6 hB6 hB46 hT6
  go_upto_region 4 with fail
  rw [← HWE6.out]
  have HFI := hid (find_any s _ _ E.box W6 _ HS6.out)
  go_wp2_with fail
  refine HFI.out.mono ?_
  rintro e w7 ⟨rfl, hb7⟩
  simp only
  have s0 := wcell_next s0 hb7
  have s1 := wcell_next s1 hb7
  have t0 := wcell_next t0 hb7
  have t1 := wcell_next t1 hb7
  have HX7 := hid (low_obj hb7 HX6.out)
  obtain ⟨x0, x1, x2, x3, x4, x5⟩ := box6' HX7.out
  have HB7 := hid (show Below w.heap.size w w7 from HB6.out.trans (hb7.mono HB6.out.size))
  have HS7 := hid (HS6.out.next hb7)
  have HB67 := hid hb7
  have h5 := HM.out.boxes
  cases hf : s.boxes.findIdx? (isName E.box) with
  | none =>
    obtain ⟨hz, _⟩ := HER.out 7 (doM_none (by rw [HKE.out]; decide) (by rw [HKE.out]; decide) hf)
    subst hz
    rw [idxZ_none hf]
    clear hf hb7 HOK HER
    go_wp2
    go_loopw [10, 11] (fun q v wr => q = .int .i64 (-1) ∧ v = .int .i64 0 ∧ wr = w7) (fun _ _ _ => 0)
    case atStart => exact ⟨rfl, rfl, rfl⟩
    case round =>
      obtain ⟨rfl, rfl, hwr⟩ := hrel
      have hwr' := hwr.symm
      subst hwr'
      clear hwr
      go_wp2
      go_ret
      exact ⟨rfl, HB7.out⟩
  | some i =>
    rw [idxZ_some hf]
    obtain ⟨b, hb, _⟩ := find_at hf
    have hi : i < s.boxes.length := (List.getElem?_eq_some_iff.1 hb).1
    have i1 : (i : Int) < (s.boxes.length : Int) := by omega
    have i0 : (0 : Int) ≤ (i : Int) := by omega
    have hbX := HM.out.each b (List.mem_of_getElem? hb)
    have h30 := hbX.many
    obtain ⟨g, o, v, rfl, _, m0, m1, m2, hmm⟩ := HS7.out.1.at hb
    obtain ⟨am, cm, rfl⟩ := RowM.slice hmm
    have HMM := hid hmm
    have HBX := hid hb
    have HFF := hid hf
    have HRS := hid hbX.mails
    clear hf hb7 hb hmm hbX
    go_wp2
    go_loopw [10, 11] (fun q v wr => ∃ k : Nat, k ≤ b.mails.length ∧ v = .int .i64 k ∧ q = .int .i64 ((b.mails.take k).foldl (lastF E.uid) (-1)) ∧ Hid (Below w7.heap.size w7 wr)) (fun _ v _ => b.mails.length - (intOf v).toNat)
    case atStart => exact ⟨0, Nat.zero_le _, rfl, rfl, Below.refl _ _⟩
    case round =>
      obtain ⟨k, hk, rfl, rfl, HB⟩ := hrel
      have s0 := wcell_next s0 HB.out
      have m2 := wcell_next m2 HB.out
      have x2 := wcell_next x2 HB.out
      by_cases hlt : k < b.mails.length
      · have k1 : (k : Int) < (b.mails.length : Int) := by omega
        have k0 : (0 : Int) ≤ (k : Int) := by omega
        obtain ⟨m, hm⟩ : ∃ m, b.mails[k]? = some m := ⟨_, List.getElem?_eq_getElem hlt⟩
        obtain ⟨p, q, rfl, _, e0, e1, e2⟩ := (HMM.out.next HB.out).at hm
        have HFS := hid (fold_step (lastF E.uid) hm (-1))
        generalize (b.mails.take k).foldl (lastF E.uid) (-1) = r at *
        by_cases hu : m.uid = E.uid
        · have hq : (m.uid == E.uid) = true := by simp [hu]
          have HQ := hid (show (b.mails.take (k + 1)).foldl (lastF E.uid) (-1) = m.flags by rw [HFS.out]; unfold lastF; rw [if_pos hu])
          clear hm hu
          go_wp2
          go_quiet (fail)
          obtain ⟨wq, hwq⟩ : ∃ W, W = wr.drewN nq := ⟨_, rfl⟩
          have hBQ : Below wr.heap.size wr wq := by rw [hwq]; exact wdrew (Below.refl _ _) nq
          have s0 := wcell_next s0 hBQ
          have m2 := wcell_next m2 hBQ
          have e1 := wcell_next e1 hBQ
          have HB2 := hid (HB.out.trans (hBQ.mono HB.out.size))
          rw [← hwq]
          clear hwq hBQ
          go_wp2
          go_roundw
          case rel => first | exact ⟨k + 1, by omega, by go_num, by rw [HQ.out], HB2⟩ | ((repeat apply Exists.intro); exact ⟨⟨k + 1, by omega, by go_num, by rw [HQ.out], HB2⟩, rfl⟩)
          case measure => simp [intOf]; omega
        · have hq : (m.uid == E.uid) = false := by simp [hu]
          have HQ := hid (show (b.mails.take (k + 1)).foldl (lastF E.uid) (-1) = r by rw [HFS.out]; unfold lastF; rw [if_neg hu])
          clear hm hu
          go_wp2
          go_quiet (fail)
          have HB2 := hid (wdrew HB.out nq)
          go_wp2
          go_roundw
          case rel => first | exact ⟨k + 1, by omega, by go_num, by rw [HQ.out], HB2⟩ | ((repeat apply Exists.intro); exact ⟨⟨k + 1, by omega, by go_num, by rw [HQ.out], HB2⟩, rfl⟩)
          case measure => simp [intOf]; omega
      · have k1 : ¬ (k : Int) < (b.mails.length : Int) := by omega
        have htk : b.mails.take k = b.mails := List.take_of_length_le (by omega)
        rw [htk]
        clear htk
        have HBW := hid (show Below w.heap.size w wr from HB7.out.trans (HB.out.mono HB7.out.size))
        cases hj : b.mails.findIdx? (isUid E.uid) with
        | none =>
          obtain ⟨hz, _⟩ := HER.out 7 (doM_gone (.inl HKE.out) HFF.out HBX.out hj)
          subst hz
          rw [fold_none E.uid b.mails (-1) (fun m hm => find_none hj m hm)]
          clear hj HOK HER
          go_wp2
          go_ret
          exact ⟨rfl, HBW.out⟩
        | some j =>
          obtain ⟨m, hm, _⟩ := find_at hj
          have hdo := doM_k3 HKE.out HFF.out HBX.out hj hm
          obtain ⟨hz, vm, hO, _⟩ := HOK.out _ hdo
          subst hz
          have hMt := doM_may HM.out HFM.out hdo
          rw [fold_some b.mails 0 j m (-1) HRS.out hj hm]
          have hmr := risen_mem HRS.out (List.mem_of_getElem? hm)
          have hfl0 : ¬ m.flags < 0 := by omega
          have hback := flag_back HKE.out HFF.out HBX.out hj hm
          have hsz := flag_size (f := E.flags) HBX.out hm
          have hFE : Formed ⟨E.kind, E.box, E.uid, m.flags, E.goal, E.text⟩ := by
            have h := HFM.out
            have hk3 := HKE.out
            exact ⟨h.kind, ⟨fun h' => by simp only at h'; omega, fun h' => by simp only at h'; omega, fun h' => h.bare.2.2.1 h', fun h' => by simp only at h'; omega, fun h' => by simp only at h'; omega⟩, ⟨hmr.2.2.1, hmr.2.2.2.1⟩, h.uid, h.text, h.goal, h.name, h.to⟩
          have hb6r : Below W6.heap.size W6 wr := HB67.out.trans (HB.out.mono HB67.out.size)
          have hSt := (hO.next hb6r).stt (Q := fun _ => True) hMt (fun _ _ => trivial)
          obtain ⟨cb1, e1⟩ : ∃ c, (Value.slice a1 n1 d1) = .slice a1 s.boxes.length c := by
            obtain ⟨a', c', e⟩ := own_slice hO.boxes
            simp only [Value.slice.injEq, List.length_set] at e
            exact ⟨d1, by rw [e.2.1]⟩
          simp only [Value.slice.injEq, true_and] at e1
          obtain ⟨rfl, rfl⟩ := e1
          obtain ⟨W8, hW8⟩ : ∃ W8, W8 = wr.alloc (.cells #[.int .i64 E.kind, .string (S E.box), .int .i64 E.uid, .int .i64 m.flags, .string (S E.goal), .string (S E.text)] 41) := ⟨_, rfl⟩
          have HWE8 := hid hW8
          have hB8 : Below wr.heap.size wr W8 := by rw [hW8]; exact (Below.refl _ _).alloc (Nat.le_refl _) _
          have hX8 : W8.heap[wr.heap.size]? = some (.cells #[.int .i64 E.kind, .string (S E.box), .int .i64 E.uid, .int .i64 m.flags, .string (S E.goal), .string (S E.text)] 41) := by rw [hW8]; exact heap_alloc_new wr _
          obtain ⟨x0, x1, x2, x3, x4, x5⟩ := box6' (low_obj HB.out HX7.out)
          obtain ⟨z0, z1, z2, z3, z4, z5⟩ := box6' hX8
          have s1 := wcell_next (wcell_next s1 HB.out) hB8
          have s0 := wcell_next s0 hB8
          have t0 := wcell_next (wcell_next t0 HB.out) hB8
          have t1 := wcell_next (wcell_next t1 HB.out) hB8
          have HS8 := hid (hSt.next hB8)
          have HSS8 := hid ((HS7.out.next HB.out).next hB8)
          have HMT := hid hMt
          have HAP2 := hid (apply_any _ _ _ ⟨E.kind, E.box, E.uid, m.flags, E.goal, E.text⟩ W8 _ HS8.out hMt hFE)
          rw [hback] at HAP2
          have HB8 := hid (show Below w.heap.size w W8 from HBW.out.trans (hB8.mono HBW.out.size))
          have HSIZE := hid hsz
          clear hj hm hdo hO hMt hback hFE hSt hW8 hX8 hB8 HOK HER hsz hb6r
          go_upto_region 15 with fail
          rw [← HWE8.out]
          go_wp2_with fail
          refine HAP2.out.mono ?_
          intro e w9 hA
          obtain ⟨hb9, vb9, vs9, vm9, rfl, hO9⟩ := hA
          obtain ⟨a3, c3, rfl⟩ := own_slice hO9.boxes
          obtain ⟨a4, c4, rfl⟩ := own_slice hO9.spool
          simp only
          have hS9 := hO9.stt (Q := fun _ => True) HM.out (fun _ _ => trivial)
          obtain ⟨W10, hW10⟩ : ∃ W10, W10 = w9.alloc (.cells #[.slice a3 s.boxes.length c3, .slice a4 s.spool.length c4] 26) := ⟨_, rfl⟩
          have HWE10 := hid hW10
          have hB10 : Below w9.heap.size w9 W10 := by rw [hW10]; exact (Below.refl _ _).alloc (Nat.le_refl _) _
          have hBR : Below W8.heap.size W8 W10 := hb9.trans (hB10.mono hb9.size)
          have u0 : W10.cell? ⟨w9.heap.size, 0, none⟩ = some (.slice a3 s.boxes.length c3) := by rw [hW10]; simp
          have u1 : W10.cell? ⟨w9.heap.size, 1, none⟩ = some (.slice a4 s.spool.length c4) := by rw [hW10]; simp
          have t0 := wcell_next t0 hBR
          have t1 := wcell_next t1 hBR
          have s0 := wcell_next s0 hBR
          have s1 := wcell_next s1 hBR
          have HU10 := hid (hS9.next hB10)
          have HT10 := hid (HS8.out.next hBR)
          have HS10 := hid (HSS8.out.next hBR)
          have HSZ1 := hid (size_ok _ _ _ W10 _ HT10.out HMT.out)
          simp only at HSZ1
          rw [HSIZE.out] at HSZ1
          have HB10 := hid (show Below w.heap.size w W10 from HB8.out.trans (hBR.mono HB8.out.size))
          clear hb9 hO9 hS9 hW10 hB10 hBR
          go_upto_region 16 with fail
          rw [← HWE10.out]
          go_wp2_with fail
          refine HSZ1.out.mono ?_
          rintro e w11 ⟨rfl, hb11⟩
          simp only
          have HSZ2 := hid (size_ok s _ _ w11 _ (HS10.out.next hb11) HM.out)
          have u0 := wcell_next u0 hb11
          have u1 := wcell_next u1 hb11
          have s0 := wcell_next s0 hb11
          have s1 := wcell_next s1 hb11
          have HU11 := hid (HU10.out.next hb11)
          have HS11 := hid (HS10.out.next hb11)
          have HB11 := hid (show Below w.heap.size w w11 from HB10.out.trans (hb11.mono HB10.out.size))
          generalize ((sizeB s.boxes : Nat) : Int) = zs at *
          clear hb11
          go_wp2_with fail
          refine HSZ2.out.mono ?_
          rintro e w12 ⟨rfl, hb12⟩
          simp only
          have HSA := hid (sameState_any s _ _ _ _ w12 _ _ (HU11.out.next hb12) (HS11.out.next hb12))
          have u0 := wcell_next u0 hb12
          have u1 := wcell_next u1 hb12
          have s0 := wcell_next s0 hb12
          have s1 := wcell_next s1 hb12
          have HB12 := hid (show Below w.heap.size w w12 from HB11.out.trans (hb12.mono HB11.out.size))
          clear hb12
          go_wp2_with fail
          refine HSA.out.mono ?_
          rintro e w13 ⟨rfl, hb13⟩
          have HB13 := hid (show Below w.heap.size w w13 from HB12.out.trans (hb13.mono HB12.out.size))
          clear hb13
          simp only
          go_wp2
          go_ret
          exact ⟨ret_bool (by first | rfl | simp), HB13.out⟩
end Go.Proofs.YtilhjgdmolgmdaaDoor
