/-
  A box is made once; a new one is empty, and stands last: walked.
-/
import Derived.Test.YtilhjgdmolgmdaaDoorBoxSm
import Derived.Test.YtilhjgdmolgmdaaDoorBoxFd
import Derived.Test.YtilhjgdmolgmdaaDoorBoxLw
namespace Go.Proofs.YtilhjgdmolgmdaaDoor
open Go.RowKit Go.Proofs

set_option maxHeartbeats 2000000 in
set_option maxRecDepth 100000 in
theorem createOnce_walk (w : World) (_hm : maxLenCell w) (a : Option Addr) (c : Nat) (ls : List Chr) (hF : ChsM (fun _ => True) w (.slice a ls.length c) ls) (hB : ∀ x ∈ ls, chrW x) (x : Chr) (hX : chrW x) :
    Calls Tryd.prog 8 #[.slice a ls.length c, .agg #[.int .i64 x.kind, .int .i64 x.box, .int .i64 x.uid, .int .i64 x.flags, .int .i64 x.goal, .string x.text]] w fun e w' => e = .returned (.bool true) ∧ Below w.heap.size w w' := by
  have HM := hid (stateP_may ls)
  have HSA := hid (fun u (hu : Below w.heap.size w u) => state_any ls a c u _ (hF.next hu) hB)
  generalize stateP ls = s at *
  obtain ⟨W0, hW0⟩ : ∃ W0, W0 = w.alloc (.cells #[.int .i64 x.kind, .int .i64 x.box, .int .i64 x.uid, .int .i64 x.flags, .int .i64 x.goal, .string x.text] 39) := ⟨_, rfl⟩
  have HWE := hid hW0
  have hB0 : Below w.heap.size w W0 := by rw [hW0]; exact (Below.refl _ _).alloc (Nat.le_refl _) _
  have HB0 := hid hB0
  have b1 : W0.cell? ⟨w.heap.size, 1, none⟩ = some (.int .i64 x.box) := by rw [hW0]; simp
  have HST := hid (HSA.out W0 hB0)
  have hy0 : pickN 0 6 = 0 := by decide
  have HYW := hid (show chrW ⟨0, x.box, 0, 0, 0, ByteArray.empty⟩ from ⟨zero_wf, hX.2.1, zero_wf, zero_wf, zero_wf, empty_le⟩)
  have HYE := hid (entP_k0 ⟨0, x.box, 0, 0, 0, ByteArray.empty⟩ hy0)
  have HFM := hid (show Formed ⟨1, boxN x.box, 0, 0, [], []⟩ by rw [← HYE.out]; exact entP_formed _)
  have HEN := hid (fun u => entry_any ⟨0, x.box, 0, 0, 0, ByteArray.empty⟩ u HYW.out)
  rw [HYE.out] at HEN
  clear hF hB hX hW0 hB0 HSA
  go_enter Tryd.func8, Tryd.ntmps8
  go_wp2_with fail
  rw [← HWE.out]
  refine HST.out.mono ?_
  rintro e w1 ⟨ab, nb, cb, aq, nq, cq, rfl, hS, hb1⟩
  simp only
  obtain ⟨ab', cb', e⟩ := RowM.slice hS.1
  simp only [Value.slice.injEq] at e
  obtain ⟨rfl, rfl, rfl⟩ := e
  obtain ⟨W2, hW2⟩ : ∃ W2, W2 = w1.alloc (.cells #[.slice ab s.boxes.length cb, .slice aq nq cq] 26) := ⟨_, rfl⟩
  have HWE2 := hid hW2
  have hB2 : Below w1.heap.size w1 W2 := by rw [hW2]; exact (Below.refl _ _).alloc (Nat.le_refl _) _
  have HB2 := hid (show Below w.heap.size w W2 from (HB0.out.trans (hb1.mono HB0.out.size)).trans (hB2.mono (Nat.le_trans HB0.out.size hb1.size)))
  have s0 : W2.cell? ⟨w1.heap.size, 0, none⟩ = some (.slice ab s.boxes.length cb) := by rw [hW2]; simp
  have s1 : W2.cell? ⟨w1.heap.size, 1, none⟩ = some (.slice aq nq cq) := by rw [hW2]; simp
  have c1 := wcell_next (wcell_next b1 hb1) hB2
  have HS := hid (hS.next hB2)
  clear hS hW2 hB2 hb1
  go_upto_region 2 with fail
  rw [← HWE2.out]
  go_wp2_with fail
  refine (HEN.out W2).mono ?_
  rintro e w3 ⟨rfl, hb3⟩
  simp only
  obtain ⟨W4, hW4⟩ : ∃ W4, W4 = w3.alloc (.cells #[.int .i64 1, .string (S (boxN x.box)), .int .i64 0, .int .i64 0, .string (S []), .string (S [])] 41) := ⟨_, rfl⟩
  have HWE4 := hid hW4
  have hB4 : Below w3.heap.size w3 W4 := by rw [hW4]; exact (Below.refl _ _).alloc (Nat.le_refl _) _
  have hX4 : W4.heap[w3.heap.size]? = some (.cells #[.int .i64 1, .string (S (boxN x.box)), .int .i64 0, .int .i64 0, .string (S []), .string (S [])] 41) := by rw [hW4]; exact heap_alloc_new w3 _
  obtain ⟨x0, x1, x2, x3, x4, x5⟩ := box6' hX4
  have hB24 : Below W2.heap.size W2 W4 := hb3.trans (hB4.mono hb3.size)
  have s0 := wcell_next s0 hB24
  have s1 := wcell_next s1 hB24
  have HS4 := hid (HS.out.next hB24)
  have HB4 := hid (show Below w.heap.size w W4 from HB2.out.trans (hB24.mono HB2.out.size))
  have HAP := hid (apply_any s _ _ ⟨1, boxN x.box, 0, 0, [], []⟩ W4 _ HS4.out HM.out HFM.out)
  have HX4 := hid hX4
  clear hb3 hB24 hB4 hW4 hX4
  go_upto_region 3 with fail
  rw [← HWE4.out]
  go_wp2_with fail
  refine HAP.out.mono ?_
  intro e w5 hA
  have hb5 := hA.1
  obtain ⟨a1, n1, d1, a2, n2, d2, z, rfl, hR⟩ := hA.form
  simp only
  obtain ⟨W6, hW6⟩ : ∃ W6, W6 = w5.alloc (.cells #[.slice a1 n1 d1, .slice a2 n2 d2] 26) := ⟨_, rfl⟩
  have HWE6 := hid hW6
  have hB6 : Below w5.heap.size w5 W6 := by rw [hW6]; exact (Below.refl _ _).alloc (Nat.le_refl _) _
  have t0 : W6.cell? ⟨w5.heap.size, 0, none⟩ = some (.slice a1 n1 d1) := by rw [hW6]; simp
  have t1 : W6.cell? ⟨w5.heap.size, 1, none⟩ = some (.slice a2 n2 d2) := by rw [hW6]; simp
  have hB46 : Below W4.heap.size W4 W6 := hb5.trans (hB6.mono hb5.size)
  have s0 := wcell_next s0 hB46
  have s1 := wcell_next s1 hB46
  obtain ⟨x0, x1, x2, x3, x4, x5⟩ := box6' (low_obj hB46 HX4.out)
  have HX6 := hid (low_obj hB46 HX4.out)
  have HB6 := hid (show Below w.heap.size w W6 from HB4.out.trans (hB46.mono HB4.out.size))
  have HFI := hid (find_any s _ _ (boxN x.box) W6 _ (HS4.out.next hB46))
  have hge := idx_ge (q := isName (boxN x.box)) (l := s.boxes)
  have HD := hid (doM_k1 (s := s) (x := ⟨1, boxN x.box, 0, 0, [], []⟩) rfl)
  have HR := hid hR
  have HO6 := hid (fun s' (h : doM s ⟨1, boxN x.box, 0, 0, [], []⟩ = .ok s') => show z = 0 ∧ ∃ vm, OwnS W4.heap.size W6 (.slice a1 n1 d1) (.slice a2 n2 d2) vm s' by
    have hR' := hR
    rw [h] at hR'
    obtain ⟨h0, vm, hO⟩ := hR'
    exact ⟨h0, vm, hO.next hB6⟩)
  have HRE := hid (fun q (h : doM s ⟨1, boxN x.box, 0, 0, [], []⟩ = .error q) => show z = q by
    have hR' := hR
    rw [h] at hR'
    exact hR'.1)
  clear hA hb5 hR hW6 hB6 hB46
  go_upto_region 4 with fail
  rw [← HWE6.out]
  go_wp2_with fail
  refine HFI.out.mono ?_
  rintro e w7 ⟨rfl, hb7⟩
  simp only
  have s0 := wcell_next s0 hb7
  have t0 := wcell_next t0 hb7
  have t1 := wcell_next t1 hb7
  obtain ⟨x0, x1, x2, x3, x4, x5⟩ := box6' (low_obj hb7 HX6.out)
  have HX7 := hid (low_obj hb7 HX6.out)
  have HB7 := hid (show Below w.heap.size w w7 from HB6.out.trans (hb7.mono HB6.out.size))
  generalize idxZ (isName (boxN x.box)) s.boxes = zz at *
  cases hf : (s.boxes.findIdx? (isName (boxN x.box))).isSome with
  | true =>
    have hzz : 0 ≤ zz := of_decide_eq_true (hge.trans hf)
    have hz : z = 10 := HRE.out 10 (by rw [HD.out, if_pos hf])
    subst hz
    clear hf hge hb7
    go_wp2
    go_ret
    exact ⟨rfl, HB7.out⟩
  | false =>
    have hzz : ¬ 0 ≤ zz := of_decide_eq_false (hge.trans hf)
    have h5 := HM.out.boxes
    by_cases hlen : 5 ≤ s.boxes.length
    · have hl5 : s.boxes.length = 5 := by omega
      have hl5' : (s.boxes.length : Int) = 5 := by omega
      have hz : z = 5 := HRE.out 5 (by rw [HD.out, hf]; simp only [Bool.false_eq_true, if_false]; rw [if_pos hlen])
      subst hz
      clear hf hge hb7
      go_wp2
      go_ret
      exact ⟨rfl, HB7.out⟩
    · have hl5' : ((s.boxes.length : Int) == 5) = false := by simp; omega
      have hl6' : ¬ (s.boxes.length : Int) = 5 := by omega
      have hdo : doM s ⟨1, boxN x.box, 0, 0, [], []⟩ = .ok ⟨s.boxes ++ [⟨boxN x.box, 1, []⟩], s.spool⟩ := by rw [HD.out, hf]; simp only [Bool.false_eq_true, if_false]; rw [if_neg hlen]
      have hMt := doM_may HM.out HFM.out hdo
      obtain ⟨hz, vm, hO⟩ := HO6.out _ hdo
      subst hz
      have hO7 := hO.next hb7
      have hSt := hO7.stt (Q := fun _ => True) hMt (fun _ _ => trivial)
      have hD2 : doM ⟨s.boxes ++ [⟨boxN x.box, 1, []⟩], s.spool⟩ ⟨1, boxN x.box, 0, 0, [], []⟩ = .error 10 := by
        rw [doM_k1 rfl]
        simp only
        rw [if_pos]
        cases hq : (s.boxes ++ [(⟨boxN x.box, 1, []⟩ : Bx)]).findIdx? (isName (boxN x.box)) with
        | some i => rfl
        | none =>
          have := find_none hq ⟨boxN x.box, 1, []⟩ (by simp)
          simp [isName] at this
      have HAP2 := hid (apply_any _ _ _ ⟨1, boxN x.box, 0, 0, [], []⟩ w7 _ hSt hMt HFM.out)
      rw [hD2] at HAP2
      have hlt : s.boxes.length < (s.boxes ++ [(⟨boxN x.box, 1, []⟩ : Bx)]).length := by simp
      obtain ⟨n1', e1⟩ : ∃ c, (Value.slice a1 n1 d1) = .slice a1 (s.boxes.length + 1) c := by
        obtain ⟨a', c', e⟩ := own_slice hO7.boxes
        simp only [Value.slice.injEq, List.length_append, List.length_cons, List.length_nil] at e
        exact ⟨d1, by rw [e.2.1]⟩
      simp only [Value.slice.injEq, true_and] at e1
      obtain ⟨rfl, rfl⟩ := e1
      obtain ⟨g, o, v, eg, _, m0, m1, m2, hmm⟩ := hSt.1.at (i := s.boxes.length) (x := ⟨boxN x.box, 1, []⟩) (by simp)
      obtain ⟨am, cm, rfl⟩ := RowM.slice hmm
      subst eg
      have HSt := hid hSt
      have HM0 := hid m0
      have HM1 := hid m1
      have HM2 := hid m2
      clear hf hge hb7 hO hO7 hSt hD2 hdo hMt m0 m1 m2 hmm
      go_wp2_with fail
      refine HAP2.out.mono ?_
      intro e w8 hA8
      obtain ⟨hb8, rfl⟩ := hA8
      simp only
      obtain ⟨W9, hW9⟩ : ∃ W9, W9 = w8.alloc (.cells #[.slice none 0 0, .slice none 0 0] 26) := ⟨_, rfl⟩
      have HWE9 := hid hW9
      have hB9 : Below w7.heap.size w7 W9 := by rw [hW9]; exact hb8.alloc hb8.size _
      have s0 := wcell_next s0 hB9
      have t0 := wcell_next t0 hB9
      have x1 := wcell_next x1 hB9
      have m0 := wcell_next HM0.out hB9
      have m1 := wcell_next HM1.out hB9
      have m2 := wcell_next HM2.out hB9
      have HB9 := hid (show Below w.heap.size w W9 from HB7.out.trans (hB9.mono HB7.out.size))
      have k0 : (0 : Int) ≤ (s.boxes.length : Int) := by omega
      have k1 : (s.boxes.length : Int) < (s.boxes.length : Int) + 1 := by omega
      have hsame : ((S (boxN x.box)).toList == (S (boxN x.box)).toList) = true := by simp
      clear hb8 hW9 hB9
      go_upto_region 9 with fail
      rw [← HWE9.out]
      go_wp2
      go_quiet (fail)
      have HB10 := hid (wdrew HB9.out nq)
      go_wp2
      go_ret
      exact ⟨ret_bool (by first | rfl | simp), HB10.out⟩
end Go.Proofs.YtilhjgdmolgmdaaDoor
