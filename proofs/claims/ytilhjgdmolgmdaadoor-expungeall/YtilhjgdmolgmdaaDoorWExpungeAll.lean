/-
  What is deleted goes, what is not stays; Uids are never given again: walked.
-/
import Derived.Test.YtilhjgdmolgmdaaDoorBoxSm
import Derived.Test.YtilhjgdmolgmdaaDoorBoxLw
import Derived.Test.YtilhjgdmolgmdaaDoorBoxFd
import Derived.Test.YtilhjgdmolgmdaaDoorBoxZs
namespace Go.Proofs.YtilhjgdmolgmdaaDoor
open Go.RowKit Go.Proofs

theorem expunge_twice {s : Stt} {E : Ent} {i : Nat} {b : Bx} (hk : E.kind = 4) (hf : s.boxes.findIdx? (isName E.box) = some i) (hb : s.boxes[i]? = some b) : doM ⟨s.boxes.set i ⟨b.name, b.next, b.mails.filter fun m => !isDel m⟩, s.spool⟩ E = .ok ⟨s.boxes.set i ⟨b.name, b.next, b.mails.filter fun m => !isDel m⟩, s.spool⟩ := by
  have hi : i < s.boxes.length := (List.getElem?_eq_some_iff.1 hb).1
  have hf2 : (s.boxes.set i ⟨b.name, b.next, b.mails.filter fun m => !isDel m⟩).findIdx? (isName E.box) = some i := by
    obtain ⟨h1, h2, h3⟩ := List.findIdx?_eq_some_iff_getElem.1 hf
    refine List.findIdx?_eq_some_iff_getElem.2 ⟨by simpa using hi, ?_, ?_⟩
    · simp only [List.getElem_set_self]
      have e : s.boxes[i] = b := (List.getElem?_eq_some_iff.1 hb).2
      rw [e] at h2
      exact h2
    · intro j hj
      rw [List.getElem_set_ne (by omega)]
      exact h3 j hj
  rw [doM_k4 hk hf2 (b := ⟨b.name, b.next, b.mails.filter fun m => !isDel m⟩) (List.getElem?_set_self hi)]
  simp only [List.set_set, List.filter_filter, Bool.and_self]
theorem filter_step {l : List Mail} {k : Nat} {m : Mail} (h : l[k]? = some m) : (l.take (k + 1)).filter (fun m => !isDel m) = (l.take k).filter (fun m => !isDel m) ++ (if isDel m then [] else [m]) := by
  rw [take_step h, List.filter_append]
  cases hd : isDel m <;> simp [hd]
set_option maxHeartbeats 2000000 in
set_option maxRecDepth 100000 in
theorem expungeAll_walk (w : World) (_hm : maxLenCell w) (a : Option Addr) (c : Nat) (ls : List Chr) (hF : ChsM (fun _ => True) w (.slice a ls.length c) ls) (hB : ∀ x ∈ ls, chrW x) (x : Chr) (hX : chrW x) :
    Calls Tryd.prog 6 #[.slice a ls.length c, .agg #[.int .i64 x.kind, .int .i64 x.box, .int .i64 x.uid, .int .i64 x.flags, .int .i64 x.goal, .string x.text]] w fun e w' => e = .returned (.bool true) ∧ Below w.heap.size w w' := by
  have HM := hid (stateP_may ls)
  have HSA := hid (fun u (hu : Below w.heap.size w u) => state_any ls a c u _ (hF.next hu) hB)
  generalize stateP ls = s at *
  obtain ⟨W0, hW0⟩ : ∃ W0, W0 = w.alloc (.cells #[.int .i64 x.kind, .int .i64 x.box, .int .i64 x.uid, .int .i64 x.flags, .int .i64 x.goal, .string x.text] 39) := ⟨_, rfl⟩
  have HWE := hid hW0
  have hB0 : Below w.heap.size w W0 := by rw [hW0]; exact (Below.refl _ _).alloc (Nat.le_refl _) _
  have HB0 := hid hB0
  have hC0 : W0.heap[w.heap.size]? = some (.cells #[.int .i64 x.kind, .int .i64 x.box, .int .i64 x.uid, .int .i64 x.flags, .int .i64 x.goal, .string x.text] 39) := by rw [hW0]; exact heap_alloc_new w _
  have HC0 := hid hC0
  have HST := hid (HSA.out W0 hB0)
  have HYW := hid (show chrW ⟨3, x.box, 0, 0, 0, ByteArray.empty⟩ from ⟨three_wf, hX.2.1, zero_wf, zero_wf, zero_wf, empty_le⟩)
  obtain ⟨E, hE⟩ : ∃ E, E = entP ⟨3, x.box, 0, 0, 0, ByteArray.empty⟩ := ⟨_, rfl⟩
  have HKE := hid (show E.kind = 4 by rw [hE, entP_kind]; rfl)
  have HFM := hid (show Formed E by rw [hE]; exact entP_formed _)
  have HEN := hid (fun u => entry_any ⟨3, x.box, 0, 0, 0, ByteArray.empty⟩ u HYW.out)
  rw [← hE] at HEN
  clear hF hB hX hW0 hB0 hC0 HSA hE
  go_enter Tryd.func6, Tryd.ntmps6
  go_wp2_with fail
  rw [← HWE.out]
  refine HST.out.mono ?_
  rintro e w1 ⟨ab, nb, cb, aq, nq, cq, rfl, hS, hb1⟩
  simp only
  obtain ⟨ab', cb', e⟩ := RowM.slice hS.1
  simp only [Value.slice.injEq] at e
  obtain ⟨rfl, rfl, rfl⟩ := e
  obtain ⟨aq', cq', e⟩ := RowM.slice hS.2.1
  simp only [Value.slice.injEq] at e
  obtain ⟨rfl, rfl, rfl⟩ := e
  obtain ⟨W2, hW2⟩ : ∃ W2, W2 = w1.alloc (.cells #[.slice ab s.boxes.length cb, .slice aq s.spool.length cq] 26) := ⟨_, rfl⟩
  have HWE2 := hid hW2
  have hB2 : Below w1.heap.size w1 W2 := by rw [hW2]; exact (Below.refl _ _).alloc (Nat.le_refl _) _
  have HB2 := hid (show Below w.heap.size w W2 from (HB0.out.trans (hb1.mono HB0.out.size)).trans (hB2.mono (Nat.le_trans HB0.out.size hb1.size)))
  have s0 : W2.cell? ⟨w1.heap.size, 0, none⟩ = some (.slice ab s.boxes.length cb) := by rw [hW2]; simp
  have s1 : W2.cell? ⟨w1.heap.size, 1, none⟩ = some (.slice aq s.spool.length cq) := by rw [hW2]; simp
  obtain ⟨_, c1, c2, c3, c4, c5⟩ := box6' (low_obj hB2 (low_obj hb1 HC0.out))
  have HS := hid (hS.next hB2)
  clear hS hW2 hB2 hb1
  go_upto_region 2 with fail
  rw [← HWE2.out]
  go_wp2_with fail
  refine (HEN.out W2).mono ?_
  rintro e w3 ⟨rfl, hb3⟩
  simp only
  obtain ⟨W4, hW4⟩ : ∃ W4, W4 = w3.alloc (.cells #[.int .i64 E.kind, .string (S E.box), .int .i64 E.uid, .int .i64 E.flags, .string (S E.goal), .string (S E.text)] 41) := ⟨_, rfl⟩
  have HWE4 := hid hW4
  have hB4 : Below w3.heap.size w3 W4 := by rw [hW4]; exact (Below.refl _ _).alloc (Nat.le_refl _) _
  have hX4 : W4.heap[w3.heap.size]? = some (.cells #[.int .i64 E.kind, .string (S E.box), .int .i64 E.uid, .int .i64 E.flags, .string (S E.goal), .string (S E.text)] 41) := by rw [hW4]; exact heap_alloc_new w3 _
  obtain ⟨x0, x1, x2, x3, x4, x5⟩ := box6' hX4
  have hB24 : Below W2.heap.size W2 W4 := hb3.trans (hB4.mono hb3.size)
  have s0 := wcell_next s0 hB24
  have s1 := wcell_next s1 hB24
  have HS4 := hid (HS.out.next hB24)
  have HS4L := hid HS4.out.lows
  have HW14 := hid (World.block_lt_of_cell? _ _ s0)
  have HB4 := hid (show Below w.heap.size w W4 from HB2.out.trans (hB24.mono HB2.out.size))
  have HAP := hid (apply_any s _ _ E W4 _ HS4.out HM.out HFM.out)
  have HX4 := hid hX4
  clear hb3 hB24 hB4 hW4 hX4
  go_upto_region 3 with fail
  rw [← HWE4.out]
  go_wp2_with fail
  refine HAP.out.mono ?_
  intro e w5 hA
  have hb5 := hA.1
  obtain ⟨a1, n1, d1, a2, n2, d2, z, rfl, hR⟩ := hA.form
  simp only
  obtain ⟨W6, hW6⟩ : ∃ W6, W6 = w5.alloc (.cells #[.slice a1 n1 d1, .slice a2 n2 d2] 26) := ⟨_, rfl⟩
  have HWE6 := hid hW6
  have hB6 : Below w5.heap.size w5 W6 := by rw [hW6]; exact (Below.refl _ _).alloc (Nat.le_refl _) _
  have hT6 : W6.heap[w5.heap.size]? = some (.cells #[.slice a1 n1 d1, .slice a2 n2 d2] 26) := by rw [hW6]; exact heap_alloc_new w5 _
  have HT6 := hid hT6
  obtain ⟨t0, t1, tf0, tf1⟩ := box2f hT6
  have hB46 : Below W4.heap.size W4 W6 := hb5.trans (hB6.mono hb5.size)
  have HZ5 := hid (show W4.heap.size ≤ w5.heap.size from hb5.size)
  have s0 := wcell_next s0 hB46
  have s1 := wcell_next s1 hB46
  have HX6 := hid (low_obj hB46 HX4.out)
  obtain ⟨x0, x1, x2, x3, x4, x5⟩ := box6' HX6.out
  have HS6 := hid (HS4.out.next hB46)
  have HB46 := hid hB46
  have HB6 := hid (show Below w.heap.size w W6 from HB4.out.trans (hB46.mono HB4.out.size))
  have HOK := hid (fun s' (h : doM s E = .ok s') => show z = 0 ∧ ∃ vm, OwnS W4.heap.size W6 (.slice a1 n1 d1) (.slice a2 n2 d2) vm s' ∧ ¬ inS (.slice a1 n1 d1) (.slice a2 n2 d2) vm w5.heap.size by
    have hR' := hR
    rw [h] at hR'
    obtain ⟨h0, vm, hO⟩ := hR'
    exact ⟨h0, vm, hO.next hB6, fun hg => by have := (hO.lt hg).2; omega⟩)
  have HER := hid (fun q (h : doM s E = .error q) => show z = q ∧ n1 = 0 by
    have hR' := hR
    rw [h] at hR'
    refine ⟨hR'.1, ?_⟩
    have := hR'.2.1
    simp only [Value.slice.injEq] at this
    exact this.2.1)
  clear hA hb5 hR hW6 hB6 hB46 hT6
  go_upto_region 4 with fail
  rw [← HWE6.out]
  have HFI := hid (find_any s _ _ E.box W6 _ HS6.out)
  go_wp2_with fail
  refine HFI.out.mono ?_
  rintro e w7 ⟨rfl, hb7⟩
  simp only
  have s0 := wcell_next s0 hb7
  have t0 := wcell_next t0 hb7
  have t1 := wcell_next t1 hb7
  have HX7 := hid (low_obj hb7 HX6.out)
  obtain ⟨x0, x1, x2, x3, x4, x5⟩ := box6' HX7.out
  have HB7 := hid (show Below w.heap.size w w7 from HB6.out.trans (hb7.mono HB6.out.size))
  have HS7 := hid (HS6.out.next hb7)
  have h5 := HM.out.boxes
  cases hf : s.boxes.findIdx? (isName E.box) with
  | none =>
    obtain ⟨hz, _⟩ := HER.out 7 (doM_none (by rw [HKE.out]; decide) (by rw [HKE.out]; decide) hf)
    subst hz
    rw [idxZ_none hf]
    clear hf hb7
    go_wp2
    go_ret
    exact ⟨rfl, HB7.out⟩
  | some i =>
    rw [idxZ_some hf]
    obtain ⟨b, hb, _⟩ := find_at hf
    have hdo := doM_k4 HKE.out hf hb
    obtain ⟨hz, vm, hO, _⟩ := HOK.out _ hdo
    subst hz
    have hMt := doM_may HM.out HFM.out hdo
    have hi : i < s.boxes.length := (List.getElem?_eq_some_iff.1 hb).1
    have i1 : (i : Int) < (s.boxes.length : Int) := by omega
    have i0 : (0 : Int) ≤ (i : Int) := by omega
    have hSt := (hO.next hb7).stt (Q := fun _ => True) hMt (fun _ _ => trivial)
    obtain ⟨cb1, e1⟩ : ∃ c, (Value.slice a1 n1 d1) = .slice a1 s.boxes.length c := by
      obtain ⟨a', c', e⟩ := own_slice hO.boxes
      simp only [Value.slice.injEq, List.length_set] at e
      exact ⟨d1, by rw [e.2.1]⟩
    simp only [Value.slice.injEq, true_and] at e1
    obtain ⟨rfl, rfl⟩ := e1
    have hbX := HM.out.each b (List.mem_of_getElem? hb)
    have h30 := hbX.many
    have HTW := hid (expunge_twice HKE.out hf hb)
    have HBX := hid hb
    have HFG := hid (fun m (hm : m ∈ b.mails) => (risen_mem hbX.mails hm))
    obtain ⟨g, o, v, rfl, _, m0, m1, m2, hmm⟩ := HS7.out.1.at hb
    obtain ⟨am, cm, rfl⟩ := RowM.slice hmm
    have hb' : (s.boxes.set i ⟨b.name, b.next, b.mails.filter fun m => !isDel m⟩)[i]? = some ⟨b.name, b.next, b.mails.filter fun m => !isDel m⟩ := List.getElem?_set_self hi
    obtain ⟨g', o', v', rfl, _, l0, l1, l2, hll⟩ := hSt.1.at hb'
    obtain ⟨al, cl, rfl⟩ := RowM.slice hll
    have HMM := hid hmm
    have HLL := hid hll
    have HST2 := hid hSt
    have HMT := hid hMt
    have hfl : (b.mails.filter fun m => !isDel m).length ≤ b.mails.length := List.length_filter_le _ _
    obtain ⟨i9, hi9, hz0, hz1, hz2⟩ := info_parts infoMl
    clear hf hb7 hdo hO hMt hSt hbX hb hmm hll hb' HOK HER
    go_wp2
    go_loopw [10, 11] (fun q v wr => ∃ (k : Nat) (a9 : Option Addr) (c9 : Nat), k ≤ b.mails.length ∧ v = .int .i64 k ∧ q = .slice a9 ((b.mails.take k).filter fun m => !isDel m).length c9 ∧ Hid (wr.ownsRow w7.heap.size 35 3 (.slice a9 ((b.mails.take k).filter fun m => !isDel m).length c9) ((b.mails.take k).filter fun m => !isDel m).length (((b.mails.take k).filter fun m => !isDel m).map mailC).flatten) ∧ Hid (Below w7.heap.size w7 wr)) (fun _ v _ => b.mails.length - (intOf v).toNat)
    case atStart => exact ⟨0, none, 0, Nat.zero_le _, rfl, rfl, World.ownsRow_nil _ _ _ _, Below.refl _ _⟩
    case round =>
      obtain ⟨k, a9, c9, hk, rfl, rfl, HO, HB⟩ := hrel
      have s0 := wcell_next s0 HB.out
      have m2 := wcell_next m2 HB.out
      by_cases hlt : k < b.mails.length
      · have k1 : (k : Int) < (b.mails.length : Int) := by omega
        have k0 : (0 : Int) ≤ (k : Int) := by omega
        obtain ⟨m, hm⟩ : ∃ m, b.mails[k]? = some m := ⟨_, List.getElem?_eq_getElem hlt⟩
        obtain ⟨p, q, rfl, _, e0, e1, e2⟩ := (HMM.out.next HB.out).at hm
        have hfm := HFG.out m (List.mem_of_getElem? hm)
        have HBT := hid (del_bits m.flags hfm.2.2.1 hfm.2.2.2.1)
        have HFS := hid (filter_step hm)
        have hlk : ((b.mails.take k).filter fun m => !isDel m).length ≤ 30 := Nat.le_trans (List.length_filter_le _ _) (by rw [List.length_take]; omega)
        cases hd : isDel m with
        | true =>
          have hbt : (bits .and .i64 m.flags 8 == 0) = false := by
            have h1 : (bits .and .i64 m.flags 8 != 0) = true := HBT.out.trans hd
            simpa [bne] using h1
          have hbt2 : ¬ bits .and .i64 m.flags 8 = 0 := by simpa using hbt
          rw [hd] at HFS
          simp only [if_true, List.append_nil] at HFS
          clear hm hd HBT hfm
          go_wp2
          go_roundw
          case rel => first | exact ⟨k + 1, a9, c9, by omega, by go_num, by rw [HFS.out], by rw [HFS.out]; exact HO, HB⟩ | ((repeat apply Exists.intro); exact ⟨⟨k + 1, a9, c9, by omega, by go_num, by rw [HFS.out], by rw [HFS.out]; exact HO, HB⟩, rfl⟩)
          case measure => simp [intOf]; omega
        | false =>
          have hbt : (bits .and .i64 m.flags 8 == 0) = true := by
            have h1 : (bits .and .i64 m.flags 8 != 0) = false := HBT.out.trans hd
            simpa [bne] using h1
          have hbt2 : bits .and .i64 m.flags 8 = 0 := by simpa using hbt
          rw [hd] at HFS
          simp only [Bool.false_eq_true, if_false] at HFS
          have hwz := HB.out.size
          clear hm hd HBT hfm hbt
          go_wp2_with (first
            | (at_builtin; refine wpList_append_lies _ rfl _ _ 31 rfl w7.heap.size 35 i9 _ 3 32 Tryd.underlying31 hi9 hz0 hz1 hz2 rfl (by omega) (.slice a9 ((b.mails.take k).filter fun m => !isDel m).length c9) ((b.mails.take k).filter fun m => !isDel m).length ((((b.mails.take k).filter fun m => !isDel m).map mailC).flatten) rfl (World.ownsRow.alloc HO.out _) ⟨wr.heap.size, 0, none⟩ 1 1 [.int .i64 m.uid, .int .i64 m.flags, .string (S m.text)] rfl rfl (tri_new wr _ _ _ _) ?c1 (by omega) ?c2 ?c3 ?c4 _ rfl ?_)
            | fail)
          case c1 => simp [Value.oneCell']
          case c2 => unfold maxLen; omega
          case c3 => omega
          case c4 => simp; omega
          intro gm cap w8 hown8 hgrow hat hlt8
          have HB8 := hid (show Below w7.heap.size w7 w8 from (HB.out.alloc hwz _).grown hgrow (by simp; omega) (fun j hj => (World.ownsRow.lt HO.out j hj).1))
          have hlen : ((b.mails.take (k + 1)).filter fun m => !isDel m).length = ((b.mails.take k).filter fun m => !isDel m).length + 1 := by rw [HFS.out]; simp
          have HO8 := hid (show w8.ownsRow w7.heap.size 35 3 (.slice (some ⟨gm, 0, none⟩) ((b.mails.take (k + 1)).filter fun m => !isDel m).length cap) ((b.mails.take (k + 1)).filter fun m => !isDel m).length (((b.mails.take (k + 1)).filter fun m => !isDel m).map mailC).flatten by
            rw [hlen, HFS.out, own_app]; exact hown8)
          have HLN := hid hlen
          clear hown8 hgrow hat hlen
          go_wp2
          rw [← HLN.out]
          go_roundw
          case rel => first | exact ⟨k + 1, _, cap, by omega, by go_num, rfl, HO8, HB8⟩ | ((repeat apply Exists.intro); exact ⟨⟨k + 1, _, cap, by omega, by go_num, rfl, HO8, HB8⟩, rfl⟩)
          case measure => simp [intOf]; omega
      · have k1 : ¬ (k : Int) < (b.mails.length : Int) := by omega
        have htk : b.mails.take k = b.mails := List.take_of_length_le (by omega)
        rw [htk] at HO ⊢
        have HWM := hid (show MailsM (fun _ => True) wr (.slice a9 (b.mails.filter fun m => !isDel m).length c9) (b.mails.filter fun m => !isDel m) from own_row HO.out rfl (by unfold maxLen; omega) (by simp) (map_flat_len (k := 3) mailC (fun _ => rfl) _) (fun q y cs hy hc => by rw [List.getElem?_map, hy] at hc; cases hc; rfl) (fun _ _ => trivial))
        have t0 := wcell_next t0 HB.out
        have l1 := wcell_next l1 HB.out
        have l2 := wcell_next l2 HB.out
        have m1 := wcell_next m1 HB.out
        obtain ⟨wo, rfl⟩ : ∃ W, W = wr := ⟨_, rfl⟩
        obtain ⟨fl, hflm⟩ : ∃ fl, fl = b.mails.filter fun m => !isDel m := ⟨_, rfl⟩
        rw [← hflm] at HWM l2 hfl HLL ⊢
        have HFLM := hid hflm
        clear hflm htk HO
        go_wp2
        go_quiet (fail)
        obtain ⟨wq, hwq⟩ : ∃ W, W = wo.drewN nq := ⟨_, rfl⟩
        have HBQ := hid (show Below wo.heap.size wo wq by rw [hwq]; exact wdrew (Below.refl _ _) nq)
        rw [← hwq]
        clear hwq
        go_wp2
        go_loopw [12] (fun v wr => ∃ k : Nat, k ≤ fl.length ∧ v = .int .i64 k ∧ Hid (Below wo.heap.size wo wr)) (fun v _ => fl.length - (intOf v).toNat)
        case atStart => exact ⟨0, Nat.zero_le _, rfl, HBQ⟩
        case round =>
          obtain ⟨k', hk', rfl, HC⟩ := hrel
          have t0 := wcell_next t0 HC.out
          have l2 := wcell_next l2 HC.out
          by_cases hlt' : k' < fl.length
          · have k1' : (k' : Int) < (fl.length : Int) := by omega
            have k0' : (0 : Int) ≤ (k' : Int) := by omega
            obtain ⟨m, hm⟩ : ∃ m, fl[k']? = some m := ⟨_, List.getElem?_eq_getElem hlt'⟩
            obtain ⟨p, q, rfl, _, e0, e1, e2⟩ := (HWM.out.next HC.out).at hm
            obtain ⟨p', q', rfl, _, f0, f1, f2⟩ := ((HLL.out.next HB.out).next HC.out).at hm
            clear hm
            go_wp2
            go_quiet (fail)
            have HC2 := hid (wdrew HC.out nq)
            go_wp2
            go_roundw
            case rel => first | exact ⟨k' + 1, by omega, by go_num, HC2⟩ | ((repeat apply Exists.intro); exact ⟨⟨k' + 1, by omega, by go_num, HC2⟩, rfl⟩)
            case measure => simp [intOf]; omega
          · have k1' : ¬ (k' : Int) < (fl.length : Int) := by omega
            have hBW : Below w7.heap.size w7 wr := HB.out.trans (HC.out.mono HB.out.size)
            have t1 := wcell_next t1 hBW
            obtain ⟨x0, x1, x2, x3, x4, x5⟩ := box6' (low_obj hBW HX7.out)
            have HS8 := hid (HST2.out.next hBW)
            have HAP2 := hid (apply_any _ _ _ E wr _ HS8.out HMT.out HFM.out)
            rw [HTW.out] at HAP2
            have HB8 := hid (show Below w.heap.size w wr from HB7.out.trans (hBW.mono HB7.out.size))
            clear hBW
            go_wp2_with fail
            refine HAP2.out.mono ?_
            intro e w9 hA
            obtain ⟨hb9, vb9, vs9, vm9, rfl, hO9⟩ := hA
            obtain ⟨a3, c3, rfl⟩ := own_slice hO9.boxes
            obtain ⟨a4, c4, rfl⟩ := own_slice hO9.spool
            simp only
            have hS9 := hO9.stt (Q := fun _ => True) HMT.out (fun _ _ => trivial)
            change SttM _ _ (.slice a3 (s.boxes.set i ⟨b.name, b.next, b.mails.filter fun m => !isDel m⟩).length c3) (.slice a4 s.spool.length c4) _ at hS9
            rw [List.length_set] at hS9
            obtain ⟨W10, hW10⟩ : ∃ W10, W10 = w9.alloc (.cells #[.slice a3 s.boxes.length c3, .slice a4 s.spool.length c4] 26) := ⟨_, rfl⟩
            have HWE10 := hid hW10
            have hB10 : Below w9.heap.size w9 W10 := by rw [hW10]; exact (Below.refl _ _).alloc (Nat.le_refl _) _
            have hBR : Below wr.heap.size wr W10 := hb9.trans (hB10.mono hb9.size)
            have u0 : W10.cell? ⟨w9.heap.size, 0, none⟩ = some (.slice a3 s.boxes.length c3) := by rw [hW10]; simp
            have u1 : W10.cell? ⟨w9.heap.size, 1, none⟩ = some (.slice a4 s.spool.length c4) := by rw [hW10]; simp
            have t0 := wcell_next t0 hBR
            have t1 := wcell_next t1 hBR
            have HSA := hid (sameState_any _ _ _ _ _ W10 _ _ (HS8.out.next hBR) (hS9.next hB10))
            have HB10 := hid (show Below w.heap.size w W10 from HB8.out.trans (hBR.mono HB8.out.size))
            clear hb9 hO9 hS9 hW10 hB10 hBR
            go_upto_region 21 with fail
            rw [← HWE10.out]
            go_wp2_with fail
            refine HSA.out.mono ?_
            rintro e w11 ⟨rfl, hb11⟩
            have HB11 := hid (show Below w.heap.size w w11 from HB10.out.trans (hb11.mono HB10.out.size))
            clear hb11
            simp only
            go_wp2
            go_ret
            exact ⟨rfl, HB11.out⟩
end Go.Proofs.YtilhjgdmolgmdaaDoor
