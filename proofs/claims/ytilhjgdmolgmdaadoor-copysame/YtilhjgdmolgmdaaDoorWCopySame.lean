/-
  A copy has the same text and flags; the first one stays: walked.
-/
import Derived.Test.YtilhjgdmolgmdaaDoorBoxSm
import Derived.Test.YtilhjgdmolgmdaaDoorBoxLw
import Derived.Test.YtilhjgdmolgmdaaDoorBoxFd
import Derived.Test.YtilhjgdmolgmdaaDoorBoxZs
import Derived.Test.YtilhjgdmolgmdaaDoorBoxFl
namespace Go.Proofs.YtilhjgdmolgmdaaDoor
open Go.RowKit Go.Proofs

theorem risen_lt {next : Int} : ∀ (l : List Mail) (last : Int) (j k : Nat) (y m : Mail), risen last next l → j < k → l[j]? = some y → l[k]? = some m → y.uid < m.uid := by
  intro l
  induction l with
  | nil => intro last j k y m _ _ h; simp at h
  | cons c l ih =>
    intro last j k y m hr hjk hy hm
    cases k with
    | zero => omega
    | succ k =>
      simp only [List.getElem?_cons_succ] at hm
      cases j with
      | zero => simp at hy; subst hy; exact risen_above l _ hr.2.2.2.2.2 m (List.mem_of_getElem? hm)
      | succ j => simp only [List.getElem?_cons_succ] at hy; exact ih _ j k y m hr.2.2.2.2.2 (by omega) hy hm
theorem idx_take_hit {next last u : Int} {l : List Mail} {k : Nat} {m : Mail} (hr : risen last next l) (hm : l[k]? = some m) (hu : m.uid = u) : idxZ (isUid u) (l.take (k + 1)) = k := by
  have hk : k < l.length := (List.getElem?_eq_some_iff.1 hm).1
  refine idxZ_hit (x := m) (fun j y hj hy => ?_) ?_ ?_
  · rw [List.getElem?_take_of_lt (by omega)] at hy
    have := risen_lt l last j k y m hr hj hy hm
    unfold isUid
    simp
    omega
  · rw [List.getElem?_take_of_lt (by omega)]; exact hm
  · unfold isUid; simp [hu]
theorem idx_take_miss {u : Int} {l : List Mail} {k : Nat} {m : Mail} (hm : l[k]? = some m) (hu : ¬ m.uid = u) : idxZ (isUid u) (l.take (k + 1)) = idxZ (isUid u) (l.take k) := by
  rw [take_step hm]
  have hp : isUid u m = false := by unfold isUid; simp [hu]
  have : (l.take k ++ [m]).findIdx? (isUid u) = (l.take k).findIdx? (isUid u) := by
    rw [List.findIdx?_append]
    have h1 : [m].findIdx? (isUid u) = none := by simp [List.findIdx?_cons, hp]
    rw [h1]
    simp
  unfold idxZ
  rw [this]
theorem copy_add {s : Stt} {E : Ent} {i j k : Nat} {b : Bx} {m : Mail} (hk : E.kind = 5) (hf : s.boxes.findIdx? (isName E.box) = some i) (hb : s.boxes[i]? = some b) (hj : b.mails.findIdx? (isUid E.uid) = some j) (hm : b.mails[j]? = some m) (ht : s.boxes.findIdx? (isName E.goal) = some k) :
    doM s E = addM s k m.flags m.text ∧ doM s ⟨2, E.goal, 0, m.flags, [], m.text⟩ = addM s k m.flags m.text := by
  refine ⟨?_, doM_k2 (x := ⟨2, E.goal, 0, m.flags, [], m.text⟩) rfl ht⟩
  rw [doM_k5 hk hf hb hj hm]
  unfold copyM
  rw [ht]
theorem copy_none {s : Stt} {E : Ent} {i j : Nat} {b : Bx} {m : Mail} (hk : E.kind = 5) (hf : s.boxes.findIdx? (isName E.box) = some i) (hb : s.boxes[i]? = some b) (hj : b.mails.findIdx? (isUid E.uid) = some j) (hm : b.mails[j]? = some m) (ht : s.boxes.findIdx? (isName E.goal) = none) : doM s E = .error 7 := by
  rw [doM_k5 hk hf hb hj hm]
  unfold copyM
  rw [ht]
theorem addM_five {s : Stt} {i : Nat} {b : Bx} {f : Int} {t : List UInt8} {q : Int} (hb : s.boxes[i]? = some b) (h : addM s i f t = .error q) : q = 5 := by
  unfold addM at h
  rw [hb] at h
  simp only at h
  split at h
  · cases h; rfl
  · cases h
def noS : Stt := ⟨[], []⟩
theorem no_mem (w : World) : SttM (fun _ => True) w (.slice none 0 0) (.slice none 0 0) noS := ⟨rowM_nil _ _ _ _ _ _, rowM_nil _ _ _ _ _ _, fun a n c e => by cases e; exact Nat.le_refl _⟩
def resS : Except Int Stt → Stt
  | .ok s' => s'
  | .error _ => noS
def resZ : Except Int Stt → Int
  | .ok _ => 0
  | .error q => q
/-- What two ways hand back is the same: both are refused alike, or both are that state. -/
theorem same_mem {w w' : World} {r : Except Int Stt} {vb vs : Value} {z : Int} (h : AllR w r vb vs z w') (hM : ∀ s', r = .ok s' → May s') : SttM (fun _ => True) w' vb vs (resS r) ∧ z = resZ r := by
  cases r with
  | error q =>
    obtain ⟨h0, rfl, rfl⟩ := h
    exact ⟨no_mem w', h0⟩
  | ok s' =>
    obtain ⟨h0, vm, hO⟩ := h
    exact ⟨hO.stt (hM s' rfl) (fun _ _ => trivial), h0⟩
set_option maxHeartbeats 2000000 in
set_option maxRecDepth 100000 in
theorem copySame_walk (w : World) (_hm : maxLenCell w) (a : Option Addr) (c : Nat) (ls : List Chr) (hF : ChsM (fun _ => True) w (.slice a ls.length c) ls) (hB : ∀ x ∈ ls, chrW x) (x : Chr) (hX : chrW x) :
    Calls Tryd.prog 7 #[.slice a ls.length c, .agg #[.int .i64 x.kind, .int .i64 x.box, .int .i64 x.uid, .int .i64 x.flags, .int .i64 x.goal, .string x.text]] w fun e w' => e = .returned (.bool true) ∧ Below w.heap.size w w' := by
  have HM := hid (stateP_may ls)
  have HSA := hid (fun u (hu : Below w.heap.size w u) => state_any ls a c u _ (hF.next hu) hB)
  generalize stateP ls = s at *
  obtain ⟨W0, hW0⟩ : ∃ W0, W0 = w.alloc (.cells #[.int .i64 x.kind, .int .i64 x.box, .int .i64 x.uid, .int .i64 x.flags, .int .i64 x.goal, .string x.text] 39) := ⟨_, rfl⟩
  have HWE := hid hW0
  have hB0 : Below w.heap.size w W0 := by rw [hW0]; exact (Below.refl _ _).alloc (Nat.le_refl _) _
  have HB0 := hid hB0
  have hC0 : W0.heap[w.heap.size]? = some (.cells #[.int .i64 x.kind, .int .i64 x.box, .int .i64 x.uid, .int .i64 x.flags, .int .i64 x.goal, .string x.text] 39) := by rw [hW0]; exact heap_alloc_new w _
  have HC0 := hid hC0
  have HST := hid (HSA.out W0 hB0)
  have HYW := hid (show chrW ⟨4, x.box, x.uid, 0, x.goal, ByteArray.empty⟩ from ⟨four_wf, hX.2.1, hX.2.2.1, zero_wf, hX.2.2.2.2.1, empty_le⟩)
  obtain ⟨E, hE⟩ : ∃ E, E = entP ⟨4, x.box, x.uid, 0, x.goal, ByteArray.empty⟩ := ⟨_, rfl⟩
  have HKE := hid (show E.kind = 5 by rw [hE, entP_kind]; rfl)
  have HFM := hid (show Formed E by rw [hE]; exact entP_formed _)
  have HEN := hid (fun u => entry_any ⟨4, x.box, x.uid, 0, x.goal, ByteArray.empty⟩ u HYW.out)
  rw [← hE] at HEN
  clear hF hB hX hW0 hB0 hC0 HSA hE
  go_enter Tryd.func7, Tryd.ntmps7
  go_wp2_with fail
  rw [← HWE.out]
  refine HST.out.mono ?_
  rintro e w1 ⟨ab, nb, cb, aq, nq, cq, rfl, hS, hb1⟩
  simp only
  obtain ⟨ab', cb', e⟩ := RowM.slice hS.1
  simp only [Value.slice.injEq] at e
  obtain ⟨rfl, rfl, rfl⟩ := e
  obtain ⟨aq', cq', e⟩ := RowM.slice hS.2.1
  simp only [Value.slice.injEq] at e
  obtain ⟨rfl, rfl, rfl⟩ := e
  obtain ⟨W2, hW2⟩ : ∃ W2, W2 = w1.alloc (.cells #[.slice ab s.boxes.length cb, .slice aq s.spool.length cq] 26) := ⟨_, rfl⟩
  have HWE2 := hid hW2
  have hB2 : Below w1.heap.size w1 W2 := by rw [hW2]; exact (Below.refl _ _).alloc (Nat.le_refl _) _
  have HB2 := hid (show Below w.heap.size w W2 from (HB0.out.trans (hb1.mono HB0.out.size)).trans (hB2.mono (Nat.le_trans HB0.out.size hb1.size)))
  have s0 : W2.cell? ⟨w1.heap.size, 0, none⟩ = some (.slice ab s.boxes.length cb) := by rw [hW2]; simp
  have s1 : W2.cell? ⟨w1.heap.size, 1, none⟩ = some (.slice aq s.spool.length cq) := by rw [hW2]; simp
  obtain ⟨_, c1, c2, c3, c4, c5⟩ := box6' (low_obj hB2 (low_obj hb1 HC0.out))
  have HS := hid (hS.next hB2)
  clear hS hW2 hB2 hb1
  go_upto_region 2 with fail
  rw [← HWE2.out]
  go_wp2_with fail
  refine (HEN.out W2).mono ?_
  rintro e w3 ⟨rfl, hb3⟩
  simp only
  obtain ⟨W4, hW4⟩ : ∃ W4, W4 = w3.alloc (.cells #[.int .i64 E.kind, .string (S E.box), .int .i64 E.uid, .int .i64 E.flags, .string (S E.goal), .string (S E.text)] 41) := ⟨_, rfl⟩
  have HWE4 := hid hW4
  have hB4 : Below w3.heap.size w3 W4 := by rw [hW4]; exact (Below.refl _ _).alloc (Nat.le_refl _) _
  have hX4 : W4.heap[w3.heap.size]? = some (.cells #[.int .i64 E.kind, .string (S E.box), .int .i64 E.uid, .int .i64 E.flags, .string (S E.goal), .string (S E.text)] 41) := by rw [hW4]; exact heap_alloc_new w3 _
  obtain ⟨x0, x1, x2, x3, x4, x5⟩ := box6' hX4
  have hB24 : Below W2.heap.size W2 W4 := hb3.trans (hB4.mono hb3.size)
  have s0 := wcell_next s0 hB24
  have s1 := wcell_next s1 hB24
  have HS4 := hid (HS.out.next hB24)
  have HS4L := hid HS4.out.lows
  have HW14 := hid (World.block_lt_of_cell? _ _ s0)
  have HB4 := hid (show Below w.heap.size w W4 from HB2.out.trans (hB24.mono HB2.out.size))
  have HAP := hid (apply_any s _ _ E W4 _ HS4.out HM.out HFM.out)
  have HX4 := hid hX4
  clear hb3 hB24 hB4 hW4 hX4
  go_upto_region 3 with fail
  rw [← HWE4.out]
  go_wp2_with fail
  refine HAP.out.mono ?_
  intro e w5 hA
  have hb5 := hA.1
  obtain ⟨a1, n1, d1, a2, n2, d2, z, rfl, hR⟩ := hA.form
  simp only
  obtain ⟨W6, hW6⟩ : ∃ W6, W6 = w5.alloc (.cells #[.slice a1 n1 d1, .slice a2 n2 d2] 26) := ⟨_, rfl⟩
  have HWE6 := hid hW6
  have hB6 : Below w5.heap.size w5 W6 := by rw [hW6]; exact (Below.refl _ _).alloc (Nat.le_refl _) _
  have hT6 : W6.heap[w5.heap.size]? = some (.cells #[.slice a1 n1 d1, .slice a2 n2 d2] 26) := by rw [hW6]; exact heap_alloc_new w5 _
  have HT6 := hid hT6
  obtain ⟨t0, t1, tf0, tf1⟩ := box2f hT6
  have hB46 : Below W4.heap.size W4 W6 := hb5.trans (hB6.mono hb5.size)
  have HZ5 := hid (show W4.heap.size ≤ w5.heap.size from hb5.size)
  have s0 := wcell_next s0 hB46
  have s1 := wcell_next s1 hB46
  have HX6 := hid (low_obj hB46 HX4.out)
  obtain ⟨x0, x1, x2, x3, x4, x5⟩ := box6' HX6.out
  have HS6 := hid (HS4.out.next hB46)
  have HB46 := hid hB46
  have HB6 := hid (show Below w.heap.size w W6 from HB4.out.trans (hB46.mono HB4.out.size))
  have HOK := hid (fun s' (h : doM s E = .ok s') => show z = 0 ∧ ∃ vm, OwnS W4.heap.size W6 (.slice a1 n1 d1) (.slice a2 n2 d2) vm s' ∧ ¬ inS (.slice a1 n1 d1) (.slice a2 n2 d2) vm w5.heap.size by
    have hR' := hR
    rw [h] at hR'
    obtain ⟨h0, vm, hO⟩ := hR'
    exact ⟨h0, vm, hO.next hB6, fun hg => by have := (hO.lt hg).2; omega⟩)
  have HER := hid (fun q (h : doM s E = .error q) => show z = q ∧ n1 = 0 by
    have hR' := hR
    rw [h] at hR'
    refine ⟨hR'.1, ?_⟩
    have := hR'.2.1
    simp only [Value.slice.injEq] at this
    exact this.2.1)
  have HRR := hid (show AllR W4 (doM s E) (.slice a1 n1 d1) (.slice a2 n2 d2) z W6 by
    cases hq : doM s E with
    | error q => rw [hq] at hR; exact hR
    | ok s2 => rw [hq] at hR; obtain ⟨h0, vm, hO⟩ := hR; exact ⟨h0, vm, hO.next hB6⟩)
  clear hA hb5 hR hW6 hB6 hB46 hT6
  go_upto_region 4 with fail
  rw [← HWE6.out]
  have HFI := hid (find_any s _ _ E.box W6 _ HS6.out)
  go_wp2_with fail
  refine HFI.out.mono ?_
  rintro e w7' ⟨rfl, hb7'⟩
  simp only
  have s0 := wcell_next s0 hb7'
  have s1 := wcell_next s1 hb7'
  have t0 := wcell_next t0 hb7'
  have t1 := wcell_next t1 hb7'
  have HX7' := hid (low_obj hb7' HX6.out)
  obtain ⟨x0, x1, x2, x3, x4, x5⟩ := box6' HX7'.out
  have HB7' := hid hb7'
  have HFT := hid (find_any s _ _ E.goal w7' _ (HS6.out.next hb7'))
  clear hb7'
  go_wp2_with fail
  refine HFT.out.mono ?_
  rintro e w7 ⟨rfl, hb7⟩
  simp only
  have s0 := wcell_next s0 hb7
  have s1 := wcell_next s1 hb7
  have t0 := wcell_next t0 hb7
  have t1 := wcell_next t1 hb7
  have HX7 := hid (low_obj hb7 HX7'.out)
  obtain ⟨x0, x1, x2, x3, x4, x5⟩ := box6' HX7.out
  have HB67 := hid (HB7'.out.trans (hb7.mono HB7'.out.size))
  have HB7 := hid (show Below w.heap.size w w7 from HB6.out.trans (HB67.out.mono HB6.out.size))
  have HS7 := hid (HS6.out.next HB67.out)
  have h5 := HM.out.boxes
  clear hb7
  cases hf : s.boxes.findIdx? (isName E.box) with
  | none =>
    obtain ⟨hz, _⟩ := HER.out 7 (doM_none (by rw [HKE.out]; decide) (by rw [HKE.out]; decide) hf)
    subst hz
    rw [idxZ_none hf]
    generalize idxZ (isName E.goal) s.boxes = zt at *
    clear hf HOK HER
    go_wp2
    go_loopw [11, 12] (fun q v wr => q = .int .i64 (-1) ∧ v = .int .i64 0 ∧ wr = w7) (fun _ _ _ => 0)
    case atStart => exact ⟨rfl, rfl, rfl⟩
    case round =>
      obtain ⟨rfl, rfl, hwr⟩ := hrel
      have hwr' := hwr.symm
      subst hwr'
      clear hwr
      go_wp2
      go_ret
      exact ⟨rfl, HB7.out⟩
  | some i =>
    rw [idxZ_some hf]
    obtain ⟨b, hb, _⟩ := find_at hf
    have hi : i < s.boxes.length := (List.getElem?_eq_some_iff.1 hb).1
    have i1 : (i : Int) < (s.boxes.length : Int) := by omega
    have i0 : (0 : Int) ≤ (i : Int) := by omega
    have hbX := HM.out.each b (List.mem_of_getElem? hb)
    have h30 := hbX.many
    obtain ⟨g, o, v, rfl, _, m0, m1, m2, hmm⟩ := HS7.out.1.at hb
    obtain ⟨am, cm, rfl⟩ := RowM.slice hmm
    have HMM := hid hmm
    have HBX := hid hb
    have HFF := hid hf
    have HRS := hid hbX.mails
    obtain ⟨zt, hzt⟩ : ∃ zt, zt = idxZ (isName E.goal) s.boxes := ⟨_, rfl⟩
    rw [← hzt]
    have HZT := hid hzt
    clear hf hb hmm hbX hzt
    go_wp2
    go_loopw [11, 12] (fun q v wr => ∃ k : Nat, k ≤ b.mails.length ∧ v = .int .i64 k ∧ q = .int .i64 (idxZ (isUid E.uid) (b.mails.take k)) ∧ Hid (Below w7.heap.size w7 wr)) (fun _ v _ => b.mails.length - (intOf v).toNat)
    case atStart => exact ⟨0, Nat.zero_le _, rfl, rfl, Below.refl _ _⟩
    case round =>
      obtain ⟨k, hk, rfl, rfl, HB⟩ := hrel
      have s0 := wcell_next s0 HB.out
      have m2 := wcell_next m2 HB.out
      have x2 := wcell_next x2 HB.out
      by_cases hlt : k < b.mails.length
      · have k1 : (k : Int) < (b.mails.length : Int) := by omega
        have k0 : (0 : Int) ≤ (k : Int) := by omega
        obtain ⟨m, hm⟩ : ∃ m, b.mails[k]? = some m := ⟨_, List.getElem?_eq_getElem hlt⟩
        obtain ⟨p, q, rfl, _, e0, e1, e2⟩ := (HMM.out.next HB.out).at hm
        by_cases hu : m.uid = E.uid
        · have hq : (m.uid == E.uid) = true := by simp [hu]
          have HQ := hid (idx_take_hit HRS.out hm hu)
          generalize idxZ (isUid E.uid) (b.mails.take k) = r at *
          clear hm hu
          go_wp2
          go_quiet (fail)
          have HB2 := hid (wdrew HB.out nq)
          go_wp2
          go_roundw
          case rel => first | exact ⟨k + 1, by omega, by go_num, by rw [HQ.out], HB2⟩ | ((repeat apply Exists.intro); exact ⟨⟨k + 1, by omega, by go_num, by rw [HQ.out], HB2⟩, rfl⟩)
          case measure => simp [intOf]; omega
        · have hq : (m.uid == E.uid) = false := by simp [hu]
          have HQ := hid (idx_take_miss hm hu)
          generalize idxZ (isUid E.uid) (b.mails.take k) = r at *
          clear hm hu
          go_wp2
          go_quiet (fail)
          have HB2 := hid (wdrew HB.out nq)
          go_wp2
          go_roundw
          case rel => first | exact ⟨k + 1, by omega, by go_num, by rw [HQ.out], HB2⟩ | ((repeat apply Exists.intro); exact ⟨⟨k + 1, by omega, by go_num, by rw [HQ.out], HB2⟩, rfl⟩)
          case measure => simp [intOf]; omega
      · have k1 : ¬ (k : Int) < (b.mails.length : Int) := by omega
        have htk : b.mails.take k = b.mails := List.take_of_length_le (by omega)
        rw [htk]
        clear htk
        have HBW := hid (show Below w.heap.size w wr from HB7.out.trans (HB.out.mono HB7.out.size))
        cases hj : b.mails.findIdx? (isUid E.uid) with
        | none =>
          obtain ⟨hz, _⟩ := HER.out 7 (doM_gone (.inr HKE.out) HFF.out HBX.out hj)
          subst hz
          rw [idxZ_none hj]
          clear hj HOK HER
          go_wp2
          go_ret
          exact ⟨rfl, HBW.out⟩
        | some j =>
          obtain ⟨m, hm, _⟩ := find_at hj
          rw [idxZ_some hj]
          have hjl : j < b.mails.length := (List.getElem?_eq_some_iff.1 hm).1
          have j1 : (j : Int) < (b.mails.length : Int) := by omega
          have j0 : (0 : Int) ≤ (j : Int) := by omega
          have j2 : ¬ (j : Int) < 0 := by omega
          cases ht : s.boxes.findIdx? (isName E.goal) with
          | none =>
            obtain ⟨hz, _⟩ := HER.out 7 (copy_none HKE.out HFF.out HBX.out hj hm ht)
            subst hz
            have hzt : zt = -1 := HZT.out.trans (idxZ_none ht)
            subst hzt
            clear hj ht hm HOK HER
            go_wp2
            go_ret
            exact ⟨rfl, HBW.out⟩
          | some kt =>
            have hzt : zt = (kt : Int) := HZT.out.trans (idxZ_some ht)
            subst hzt
            have kt0 : ¬ (kt : Int) < 0 := by omega
            obtain ⟨bt, hbt, _⟩ := find_at ht
            obtain ⟨hd1, hd2⟩ := copy_add HKE.out HFF.out HBX.out hj hm ht
            have hmr := risen_mem HRS.out (List.mem_of_getElem? hm)
            have hFE : Formed ⟨2, E.goal, 0, m.flags, [], m.text⟩ := ⟨by simp, ⟨fun h => by simp at h, fun _ => ⟨rfl, rfl⟩, fun h => by simp at h, fun h => by simp at h, fun h => by simp at h⟩, ⟨hmr.2.2.1, hmr.2.2.2.1⟩, by simp, hmr.2.2.2.2, fun h => by simp at h, fun _ => HFM.out.to HKE.out, fun h => by simp at h⟩
            obtain ⟨r, hr⟩ : ∃ r, r = addM s kt m.flags m.text := ⟨_, rfl⟩
            rw [← hr] at hd1 hd2
            have hrM : ∀ s', r = .ok s' → May s' := fun s' h => doM_may HM.out HFM.out (hd1.trans h)
            have hr5 : ∀ q, r = .error q → q = 5 := fun q h => addM_five hbt (hr.symm.trans h)
            have hR6 := HRR.out
            rw [hd1] at hR6
            obtain ⟨hT, hz⟩ := same_mem hR6 hrM
            obtain ⟨p, q, rfl, _, e0, e1, e2⟩ := (HMM.out.next HB.out).at hm
            obtain ⟨W8, hW8⟩ : ∃ W8, W8 = wr.alloc (.cells #[.int .i64 m.uid, .int .i64 m.flags, .string (S m.text)] 35) := ⟨_, rfl⟩
            have HWE8 := hid hW8
            have hB8 : Below wr.heap.size wr W8 := by rw [hW8]; exact (Below.refl _ _).alloc (Nat.le_refl _) _
            have hX8 : W8.heap[wr.heap.size]? = some (.cells #[.int .i64 m.uid, .int .i64 m.flags, .string (S m.text)] 35) := by rw [hW8]; exact heap_alloc_new wr _
            obtain ⟨z0, z1, z2⟩ := box3 hX8
            have s1 := wcell_next (wcell_next s1 HB.out) hB8
            have x4 := wcell_next (wcell_next x4 HB.out) hB8
            have t0 := wcell_next (wcell_next t0 HB.out) hB8
            have t1 := wcell_next (wcell_next t1 HB.out) hB8
            have s0' := wcell_next s0 hB8
            have HT8 := hid (((hT.next HB67.out).next HB.out).next hB8)
            have HS8 := hid ((HS7.out.next HB.out).next hB8)
            have HAP2 := hid (apply_any s _ _ ⟨2, E.goal, 0, m.flags, [], m.text⟩ W8 _ HS8.out HM.out hFE)
            rw [hd2] at HAP2
            have HB8 := hid (show Below w.heap.size w W8 from HBW.out.trans (hB8.mono HBW.out.size))
            have HRM := hid hrM
            have HR5 := hid hr5
            have HZ := hid hz
            clear hj ht hm hd1 hd2 hFE hr hrM hr5 hR6 hT hz hW8 hX8 hB8 HOK HER hbt hmr HRR
            go_upto_region 15 with fail
            rw [← HWE8.out]
            go_wp2_with fail
            refine HAP2.out.mono ?_
            intro e w9 hA
            have hb9 := hA.1
            obtain ⟨a3, n3, c3, a4, n4, c4, zf, rfl, hR9⟩ := hA.form
            simp only
            obtain ⟨hU, hzf⟩ := same_mem hR9 HRM.out
            have hzz : zf = z := hzf.trans HZ.out.symm
            subst hzz
            obtain ⟨W10, hW10⟩ : ∃ W10, W10 = w9.alloc (.cells #[.slice a3 n3 c3, .slice a4 n4 c4] 26) := ⟨_, rfl⟩
            have HWE10 := hid hW10
            have hB10 : Below w9.heap.size w9 W10 := by rw [hW10]; exact (Below.refl _ _).alloc (Nat.le_refl _) _
            have hBR : Below W8.heap.size W8 W10 := hb9.trans (hB10.mono hb9.size)
            have u0 : W10.cell? ⟨w9.heap.size, 0, none⟩ = some (.slice a3 n3 c3) := by rw [hW10]; simp
            have u1 : W10.cell? ⟨w9.heap.size, 1, none⟩ = some (.slice a4 n4 c4) := by rw [hW10]; simp
            have t0 := wcell_next t0 hBR
            have t1 := wcell_next t1 hBR
            have HSA := hid (sameState_any _ _ _ _ _ W10 _ _ (HT8.out.next hBR) (hU.next hB10))
            have HB10 := hid (show Below w.heap.size w W10 from HB8.out.trans (hBR.mono HB8.out.size))
            have hend : zf = 0 ∨ zf = 5 := by
              cases r with
              | ok s' => exact .inl HZ.out
              | error q => exact .inr (HZ.out.trans (HR5.out q rfl))
            clear hb9 hA hR9 hU hzf hW10 hB10 hBR HAP2 HZ
            go_upto_region 16 with fail
            rw [← HWE10.out]
            rcases hend with rfl | rfl
            · go_wp2_with fail
              refine HSA.out.mono ?_
              rintro e w11 ⟨rfl, hb11⟩
              have HB11 := hid (show Below w.heap.size w w11 from HB10.out.trans (hb11.mono HB10.out.size))
              clear hb11
              simp only
              go_wp2
              go_ret
              exact ⟨ret_bool (by first | rfl | simp), HB11.out⟩
            · go_wp2_with fail
              refine HSA.out.mono ?_
              rintro e w11 ⟨rfl, hb11⟩
              have HB11 := hid (show Below w.heap.size w w11 from HB10.out.trans (hb11.mono HB10.out.size))
              clear hb11
              simp only
              go_wp2
              go_ret
              exact ⟨ret_bool (by first | rfl | simp), HB11.out⟩
end Go.Proofs.YtilhjgdmolgmdaaDoor
