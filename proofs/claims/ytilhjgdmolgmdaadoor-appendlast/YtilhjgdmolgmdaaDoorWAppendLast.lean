/-
  What is appended stands last, with the next Uid; nothing else changes: walked.
-/
import Derived.Test.YtilhjgdmolgmdaaDoorBoxSm
import Derived.Test.YtilhjgdmolgmdaaDoorBoxLw
import Derived.Test.YtilhjgdmolgmdaaDoorBoxFd
import Derived.Test.YtilhjgdmolgmdaaDoorBoxZs
import Derived.Test.YtilhjgdmolgmdaaDoorBoxFl
namespace Go.Proofs.YtilhjgdmolgmdaaDoor
open Go.RowKit Go.Proofs

theorem nxt_set {s : Stt} {i : Nat} {b' : Bx} {n : Int} (h : ∀ b ∈ s.boxes, b.next ≤ n) (hb' : b'.next ≤ n + 1) : ∀ b ∈ s.boxes.set i b', b.next ≤ n + 1 := by
  intro b hb
  rcases mem_set_or hb with rfl | hb
  · exact hb'
  · have := h b hb; omega
theorem nxt_add {s s' : Stt} {i : Nat} {f n : Int} {t : List UInt8} (h : ∀ b ∈ s.boxes, b.next ≤ n) (hd : addM s i f t = .ok s') : ∀ b ∈ s'.boxes, b.next ≤ n + 1 := by
  unfold addM at hd
  cases hb : s.boxes[i]? with
  | none => rw [hb] at hd; cases hd
  | some b =>
    rw [hb] at hd
    simp only at hd
    split at hd
    · cases hd
    · cases hd
      have := h b (List.mem_of_getElem? hb)
      exact nxt_set h (by show b.next + 1 ≤ n + 1; omega)
theorem nxt_do {s s' : Stt} {x : Ent} {n : Int} (h : ∀ b ∈ s.boxes, b.next ≤ n) (h1 : 1 ≤ n) (hd : doM s x = .ok s') : ∀ b ∈ s'.boxes, b.next ≤ n + 1 := by
  unfold doM at hd
  split at hd
  · split at hd
    · cases hd
    · split at hd
      · cases hd
      · cases hd
        intro b hb
        rcases List.mem_append.1 hb with hb | hb
        · have := h b hb; omega
        · simp at hb; subst hb; show (1 : Int) ≤ n + 1; omega
  · split at hd
    · split at hd
      · cases hd
      · cases hd
        intro b hb
        have := h b hb
        omega
    · split at hd
      · cases hd
      · split at hd
        · exact nxt_add h hd
        · split at hd
          · cases hd
          · rename_i b hb
            have hbn := h b (List.mem_of_getElem? hb)
            split at hd
            · cases hd
              exact nxt_set h (by show b.next ≤ n + 1; omega)
            · split at hd
              · cases hd
              · split at hd
                · cases hd
                · split at hd
                  · split at hd
                    · cases hd
                    · exact nxt_add h hd
                  · cases hd
                    exact nxt_set h (by show b.next ≤ n + 1; omega)
theorem state_next (l : List Chr) : ∀ b ∈ (stateP l).boxes, b.next ≤ 41 := by
  have key : ∀ (l : List Chr) (s : Stt) (n : Int), 1 ≤ n → (∀ b ∈ s.boxes, b.next ≤ n) → ∀ b ∈ (l.foldl stepP s).boxes, b.next ≤ n + l.length := by
    intro l
    induction l with
    | nil => intro s n _ h b hb; have := h b hb; simp; exact this
    | cons c l ih =>
      intro s n h1 h b hb
      have h2 : ∀ b ∈ (stepP s c).boxes, b.next ≤ n + 1 := by
        unfold stepP
        split
        · rename_i s' he; exact nxt_do h h1 he
        · intro b hb; have := h b hb; omega
      have := ih (stepP s c) (n + 1) (by omega) h2 b hb
      simp only [List.length_cons]
      omega
  intro b hb
  have h1 := key (l.take 40) initS 1 (by decide) (fun b hb => by simp [initS] at hb; subst hb; decide) b hb
  have h2 : (l.take 40).length ≤ 40 := by rw [List.length_take]; omega
  omega
theorem own_prefix {w : World} {B n c g k : Nat} {e : TypeId} {xs ys : List Value} (h : w.ownsRow B e k (.slice (some ⟨g, 0, none⟩) (n + 1) c) (n + 1) (xs ++ ys)) (hx : xs.length = n * k) : w.ownsRow B e k (.slice (some ⟨g, 0, none⟩) n c) n xs := by
  refine ⟨hx, .inr ?_⟩
  rcases h.2 with ⟨e', _⟩ | ⟨g', c', cur, e', hb, hg, h1, h2, h3, ht⟩
  · cases e'
  · simp only [Value.slice.injEq, Option.some.injEq, Addr.mk.injEq, and_true, true_and] at e'
    obtain ⟨rfl, rfl⟩ := e'
    refine ⟨g, c, cur, rfl, hb, hg, by omega, h2, h3, ?_⟩
    have h4 : n * k ≤ (n + 1) * k := Nat.mul_le_mul_right k (by omega)
    have := congrArg (List.take (n * k)) ht
    rw [List.take_take, Nat.min_eq_left h4, List.take_append_of_le_length (Nat.le_of_eq hx.symm), List.take_of_length_le (Nat.le_of_eq hx)] at this
    exact this
set_option maxHeartbeats 8000000 in
set_option maxRecDepth 100000 in
theorem appendLast_walk (w : World) (_hm : maxLenCell w) (a : Option Addr) (c : Nat) (ls : List Chr) (hF : ChsM (fun _ => True) w (.slice a ls.length c) ls) (hB : ∀ x ∈ ls, chrW x) (x : Chr) (hX : chrW x) :
    Calls Tryd.prog 4 #[.slice a ls.length c, .agg #[.int .i64 x.kind, .int .i64 x.box, .int .i64 x.uid, .int .i64 x.flags, .int .i64 x.goal, .string x.text]] w fun e w' => e = .returned (.bool true) ∧ Below w.heap.size w w' := by
  have HM := hid (stateP_may ls)
  have HSA := hid (fun u (hu : Below w.heap.size w u) => state_any ls a c u _ (hF.next hu) hB)
  have HNX := hid (state_next ls)
  generalize stateP ls = s at *
  obtain ⟨W0, hW0⟩ : ∃ W0, W0 = w.alloc (.cells #[.int .i64 x.kind, .int .i64 x.box, .int .i64 x.uid, .int .i64 x.flags, .int .i64 x.goal, .string x.text] 39) := ⟨_, rfl⟩
  have HWE := hid hW0
  have hB0 : Below w.heap.size w W0 := by rw [hW0]; exact (Below.refl _ _).alloc (Nat.le_refl _) _
  have HB0 := hid hB0
  have hC0 : W0.heap[w.heap.size]? = some (.cells #[.int .i64 x.kind, .int .i64 x.box, .int .i64 x.uid, .int .i64 x.flags, .int .i64 x.goal, .string x.text] 39) := by rw [hW0]; exact heap_alloc_new w _
  have HC0 := hid hC0
  have HST := hid (HSA.out W0 hB0)
  have HYW := hid (show chrW ⟨1, x.box, 0, x.flags, 0, x.text⟩ from ⟨one_wf, hX.2.1, zero_wf, hX.2.2.2.1, zero_wf, hX.2.2.2.2.2⟩)
  obtain ⟨E, hE⟩ : ∃ E, E = entP ⟨1, x.box, 0, x.flags, 0, x.text⟩ := ⟨_, rfl⟩
  have HKE := hid (show E.kind = 2 by rw [hE, entP_kind]; rfl)
  have HFM := hid (show Formed E by rw [hE]; exact entP_formed _)
  have HEN := hid (fun u => entry_any ⟨1, x.box, 0, x.flags, 0, x.text⟩ u HYW.out)
  rw [← hE] at HEN
  clear hF hB hX hW0 hB0 hC0 HSA hE
  go_enter Tryd.func4, Tryd.ntmps4
  go_wp2_with fail
  rw [← HWE.out]
  refine HST.out.mono ?_
  rintro e w1 ⟨ab, nb, cb, aq, nq, cq, rfl, hS, hb1⟩
  simp only
  obtain ⟨ab', cb', e⟩ := RowM.slice hS.1
  simp only [Value.slice.injEq] at e
  obtain ⟨rfl, rfl, rfl⟩ := e
  obtain ⟨aq', cq', e⟩ := RowM.slice hS.2.1
  simp only [Value.slice.injEq] at e
  obtain ⟨rfl, rfl, rfl⟩ := e
  obtain ⟨W2, hW2⟩ : ∃ W2, W2 = w1.alloc (.cells #[.slice ab s.boxes.length cb, .slice aq s.spool.length cq] 26) := ⟨_, rfl⟩
  have HWE2 := hid hW2
  have hB2 : Below w1.heap.size w1 W2 := by rw [hW2]; exact (Below.refl _ _).alloc (Nat.le_refl _) _
  have HB2 := hid (show Below w.heap.size w W2 from (HB0.out.trans (hb1.mono HB0.out.size)).trans (hB2.mono (Nat.le_trans HB0.out.size hb1.size)))
  have s0 : W2.cell? ⟨w1.heap.size, 0, none⟩ = some (.slice ab s.boxes.length cb) := by rw [hW2]; simp
  have s1 : W2.cell? ⟨w1.heap.size, 1, none⟩ = some (.slice aq s.spool.length cq) := by rw [hW2]; simp
  obtain ⟨_, c1, c2, c3, c4, c5⟩ := box6' (low_obj hB2 (low_obj hb1 HC0.out))
  have HS := hid (hS.next hB2)
  clear hS hW2 hB2 hb1
  go_upto_region 2 with fail
  rw [← HWE2.out]
  go_wp2_with fail
  refine (HEN.out W2).mono ?_
  rintro e w3 ⟨rfl, hb3⟩
  simp only
  obtain ⟨W4, hW4⟩ : ∃ W4, W4 = w3.alloc (.cells #[.int .i64 E.kind, .string (S E.box), .int .i64 E.uid, .int .i64 E.flags, .string (S E.goal), .string (S E.text)] 41) := ⟨_, rfl⟩
  have HWE4 := hid hW4
  have hB4 : Below w3.heap.size w3 W4 := by rw [hW4]; exact (Below.refl _ _).alloc (Nat.le_refl _) _
  have hX4 : W4.heap[w3.heap.size]? = some (.cells #[.int .i64 E.kind, .string (S E.box), .int .i64 E.uid, .int .i64 E.flags, .string (S E.goal), .string (S E.text)] 41) := by rw [hW4]; exact heap_alloc_new w3 _
  obtain ⟨x0, x1, x2, x3, x4, x5⟩ := box6' hX4
  have hB24 : Below W2.heap.size W2 W4 := hb3.trans (hB4.mono hb3.size)
  have s0 := wcell_next s0 hB24
  have s1 := wcell_next s1 hB24
  have HS4 := hid (HS.out.next hB24)
  have HS4L := hid HS4.out.lows
  have HW14 := hid (World.block_lt_of_cell? _ _ s0)
  have HB4 := hid (show Below w.heap.size w W4 from HB2.out.trans (hB24.mono HB2.out.size))
  have HAP := hid (apply_any s _ _ E W4 _ HS4.out HM.out HFM.out)
  have HX4 := hid hX4
  clear hb3 hB24 hB4 hW4 hX4
  go_upto_region 3 with fail
  rw [← HWE4.out]
  go_wp2_with fail
  refine HAP.out.mono ?_
  intro e w5 hA
  have hb5 := hA.1
  obtain ⟨a1, n1, d1, a2, n2, d2, z, rfl, hR⟩ := hA.form
  simp only
  obtain ⟨W6, hW6⟩ : ∃ W6, W6 = w5.alloc (.cells #[.slice a1 n1 d1, .slice a2 n2 d2] 26) := ⟨_, rfl⟩
  have HWE6 := hid hW6
  have hB6 : Below w5.heap.size w5 W6 := by rw [hW6]; exact (Below.refl _ _).alloc (Nat.le_refl _) _
  have hT6 : W6.heap[w5.heap.size]? = some (.cells #[.slice a1 n1 d1, .slice a2 n2 d2] 26) := by rw [hW6]; exact heap_alloc_new w5 _
  have HT6 := hid hT6
  obtain ⟨t0, t1, tf0, tf1⟩ := box2f hT6
  have hB46 : Below W4.heap.size W4 W6 := hb5.trans (hB6.mono hb5.size)
  have HZ5 := hid (show W4.heap.size ≤ w5.heap.size from hb5.size)
  have s0 := wcell_next s0 hB46
  have s1 := wcell_next s1 hB46
  have HX6 := hid (low_obj hB46 HX4.out)
  obtain ⟨x0, x1, x2, x3, x4, x5⟩ := box6' HX6.out
  have HS6 := hid (HS4.out.next hB46)
  have HB46 := hid hB46
  have HB6 := hid (show Below w.heap.size w W6 from HB4.out.trans (hB46.mono HB4.out.size))
  have HOK := hid (fun s' (h : doM s E = .ok s') => show z = 0 ∧ ∃ vm, OwnS W4.heap.size W6 (.slice a1 n1 d1) (.slice a2 n2 d2) vm s' ∧ ¬ inS (.slice a1 n1 d1) (.slice a2 n2 d2) vm w5.heap.size by
    have hR' := hR
    rw [h] at hR'
    obtain ⟨h0, vm, hO⟩ := hR'
    exact ⟨h0, vm, hO.next hB6, fun hg => by have := (hO.lt hg).2; omega⟩)
  have HER := hid (fun q (h : doM s E = .error q) => show z = q ∧ n1 = 0 by
    have hR' := hR
    rw [h] at hR'
    refine ⟨hR'.1, ?_⟩
    have := hR'.2.1
    simp only [Value.slice.injEq] at this
    exact this.2.1)
  clear hA hb5 hR hW6 hB6 hB46 hT6
  go_upto_region 4 with fail
  rw [← HWE6.out]
  have HFI := hid (find_any s _ _ E.box W6 _ HS6.out)
  go_wp2_with fail
  refine HFI.out.mono ?_
  rintro e w7 ⟨rfl, hb7⟩
  simp only
  have s0 := wcell_next s0 hb7
  have s1 := wcell_next s1 hb7
  have t0 := wcell_next t0 hb7
  have t1 := wcell_next t1 hb7
  have HX7 := hid (low_obj hb7 HX6.out)
  obtain ⟨x0, x1, x2, x3, x4, x5⟩ := box6' HX7.out
  have HB7 := hid (show Below w.heap.size w w7 from HB6.out.trans (hb7.mono HB6.out.size))
  have HS7 := hid (HS6.out.next hb7)
  have HB67 := hid hb7
  have h5 := HM.out.boxes
  cases hf : s.boxes.findIdx? (isName E.box) with
  | none =>
    obtain ⟨hz, _⟩ := HER.out 7 (doM_none (by rw [HKE.out]; decide) (by rw [HKE.out]; decide) hf)
    subst hz
    rw [idxZ_none hf]
    clear hf hb7 HOK HER
    go_wp2
    go_ret
    exact ⟨rfl, HB7.out⟩
  | some i =>
    rw [idxZ_some hf]
    obtain ⟨b, hb, _⟩ := find_at hf
    have hi : i < s.boxes.length := (List.getElem?_eq_some_iff.1 hb).1
    have i1 : (i : Int) < (s.boxes.length : Int) := by omega
    have i0 : (0 : Int) ≤ (i : Int) := by omega
    have i2 : ¬ (i : Int) < 0 := by omega
    have hbX := HM.out.each b (List.mem_of_getElem? hb)
    have h30 := hbX.many
    have hnx := HNX.out b (List.mem_of_getElem? hb)
    have hn1' := hbX.next
    have h6 := HM.out.size
    have hEt := HFM.out.text
    have hdo := doM_k2 HKE.out hf
    have HSZ := hid (size_ok s _ _ w7 _ HS7.out HM.out)
    have HBX := hid hb
    clear hf hb7 hbX hb
    go_wp2_with fail
    refine HSZ.out.mono ?_
    rintro e w8 ⟨rfl, hb8⟩
    simp only
    have s0 := wcell_next s0 hb8
    have s1 := wcell_next s1 hb8
    have t0 := wcell_next t0 hb8
    have t1 := wcell_next t1 hb8
    have HX8 := hid (low_obj hb8 HX7.out)
    obtain ⟨x0, x1, x2, x3, x4, x5⟩ := box6' HX8.out
    have HB8 := hid (show Below w.heap.size w w8 from HB7.out.trans (hb8.mono HB7.out.size))
    have HS8 := hid (HS7.out.next hb8)
    have HB68 := hid (HB67.out.trans (hb8.mono HB67.out.size))
    obtain ⟨g0, o0, v, rfl, _, m0, m1, m2, hmm⟩ := HS8.out.1.at HBX.out
    obtain ⟨am, cm, rfl⟩ := RowM.slice hmm
    obtain ⟨W9, hW9⟩ : ∃ W9, W9 = w8.alloc (.cells #[.string (S b.name), .int .i64 b.next, .slice am b.mails.length cm] 33) := ⟨_, rfl⟩
    have HWE9 := hid hW9
    have hB9 : Below w8.heap.size w8 W9 := by rw [hW9]; exact (Below.refl _ _).alloc (Nat.le_refl _) _
    have hX9 : W9.heap[w8.heap.size]? = some (.cells #[.string (S b.name), .int .i64 b.next, .slice am b.mails.length cm] 33) := by rw [hW9]; exact heap_alloc_new w8 _
    have HX9 := hid hX9
    obtain ⟨q0, q1, q2⟩ := box3 hX9
    have s0 := wcell_next s0 hB9
    have s1 := wcell_next s1 hB9
    have t0 := wcell_next t0 hB9
    have t1 := wcell_next t1 hB9
    have HXx := hid (low_obj hB9 HX8.out)
    obtain ⟨x0, x1, x2, x3, x4, x5⟩ := box6' HXx.out
    have HB9 := hid (show Below w.heap.size w W9 from HB8.out.trans (hB9.mono HB8.out.size))
    have HB69 := hid (HB68.out.trans (hB9.mono HB68.out.size))
    have hzE : (S E.text).size = E.text.length := size_S _
    by_cases hfull : b.mails.length = 30 ∨ 6000 < sizeB s.boxes + E.text.length
    · have hda : doM s E = .error 5 := by
        rw [hdo]; unfold addM; rw [HBX.out]; simp only
        rw [if_pos (by omega)]
      obtain ⟨hz, _⟩ := HER.out 5 hda
      subst hz
      by_cases hl30 : b.mails.length = 30
      · have hli : ((b.mails.length : Int) == 30) = true := by simp; omega
        generalize ((sizeB s.boxes : Nat) : Int) = zs at *
        clear hl30 hb8 hB9 hX9 hW9 hmm hda hdo HOK HER hfull hzE
        go_upto_region 9 with fail
        rw [← HWE9.out]
        go_wp2
        go_ret
        exact ⟨ret_bool (by first | rfl | simp), HB9.out⟩
      · have hli : ((b.mails.length : Int) == 30) = false := by simp; omega
        have hlj : ¬ (b.mails.length : Int) = 30 := by omega
        have hq1 : (6000 : Int) < ((sizeB s.boxes : Nat) : Int) + ((S E.text).size : Int) := by omega
        have hq2 : ((sizeB s.boxes : Nat) : Int) + ((S E.text).size : Int) ≤ 100000 := by omega
        generalize ((sizeB s.boxes : Nat) : Int) = zs at *
        clear hb8 hB9 hX9 hW9 hmm hda hdo HOK HER hfull hzE
        go_upto_region 9 with fail
        rw [← HWE9.out]
        go_wp2
        go_ret
        exact ⟨ret_bool (by first | rfl | simp), HB9.out⟩
    · have hda : doM s E = .ok ⟨s.boxes.set i ⟨b.name, b.next + 1, b.mails ++ [⟨b.next, E.flags, E.text⟩]⟩, s.spool⟩ := by
        rw [hdo]; unfold addM; rw [HBX.out]; simp only
        rw [if_neg (by omega)]
      obtain ⟨hz, vm, hO, hnp⟩ := HOK.out _ hda
      subst hz
      have hO9 := hO.next HB69.out
      have hgt : ∀ k, inS (.slice a1 n1 d1) (.slice a2 n2 d2) vm k → W4.heap.size ≤ k ∧ k < W6.heap.size := fun k hk => hO.lt hk
      have hb' : (s.boxes.set i ⟨b.name, b.next + 1, b.mails ++ [⟨b.next, E.flags, E.text⟩]⟩)[i]? = some ⟨b.name, b.next + 1, b.mails ++ [⟨b.next, E.flags, E.text⟩]⟩ := List.getElem?_set_self hi
      obtain ⟨g, cg, vi, eg, hvi, c0, c1', c2', cf1, cf2⟩ := hO9.box hb'
      simp only [Value.slice.injEq, List.length_set] at eg
      obtain ⟨rfl, rfl, rfl⟩ := eg
      have hrow := hO9.mails i _ _ hb' hvi
      obtain ⟨gm, cmi, rfl⟩ : ∃ gm cmi, vi = .slice (some ⟨gm, 0, none⟩) (b.mails.length + 1) cmi := by
        rcases hrow.2 with ⟨_, h0⟩ | ⟨g9, c9, _, e9, _⟩
        · simp at h0
        · exact ⟨g9, c9, by rw [e9]; simp⟩
      have hrow' : W9.ownsRow W4.heap.size 35 3 (.slice (some ⟨gm, 0, none⟩) (b.mails.length + 1) cmi) (b.mails.length + 1) ((b.mails.map mailC).flatten ++ mailC ⟨b.next, E.flags, E.text⟩) := by
        have := hrow
        simpa using this
      have hpre := own_prefix hrow' (by rw [flat_len (map_flat_len (k := 3) mailC (fun _ => rfl) _), List.length_map])
      have hcapm : b.mails.length ≤ cmi := by
        rcases hpre.2 with ⟨e, _⟩ | ⟨g2, c2, _, e, _, _, h1, _⟩
        · cases e
        · simp only [Value.slice.injEq] at e; omega
      have hmcell : ∀ j u, (mailC ⟨b.next, E.flags, E.text⟩)[j]? = some u → W9.cell? ⟨gm, b.mails.length * 3 + j, none⟩ = some u := fun j u hj => by
        have h3 : (b.mails.map mailC).flatten.length = b.mails.length * 3 := by rw [flat_len (map_flat_len (k := 3) mailC (fun _ => rfl) _), List.length_map]
        have := World.ownsRow.cells hrow' (g := gm) rfl (b.mails.length * 3 + j) u (by rw [List.getElem?_append_right (by omega), h3]; simpa using hj)
        rw [Addr.add_lit] at this
        simpa using this
      have n0 := hmcell 0 _ rfl
      have n1' := hmcell 1 _ rfl
      have n2' := hmcell 2 _ rfl
      rw [Nat.add_zero] at n0
      have hinI : inS (.slice (some ⟨g, 0, none⟩) s.boxes.length d1) (.slice a2 n2 d2) vm g := .inl rfl
      have hgl := hgt g hinI
      have hgt5 : w5.heap.size ≠ g := fun e => hnp (by rw [e]; exact hinI)
      have hl1 : ((b.mails.length : Int) == 30) = false := by simp; omega
      have hl2 : ¬ (b.mails.length : Int) = 30 := by omega
      have hq1 : ¬ (6000 : Int) < ((sizeB s.boxes : Nat) : Int) + ((S E.text).size : Int) := by omega
      have hq2 : (0 : Int) ≤ ((sizeB s.boxes : Nat) : Int) + ((S E.text).size : Int) := by omega
      have HMO := hid (show OwnS W4.heap.size W9 (.slice (some ⟨g, 0, none⟩) s.boxes.length d1) (.slice a2 n2 d2) vm ⟨s.boxes.set i ⟨b.name, b.next + 1, b.mails ++ [⟨b.next, E.flags, E.text⟩]⟩, s.spool⟩ from hO9)
      have HPRE := hid hpre
      have HVI := hid hvi
      have HBB := hid hb'
      have hg6 : g < W9.heap.size := World.block_lt_of_cell? _ _ c1'
      have hgw8 : g ≠ w8.heap.size := by have h1 := HB68.out.size; omega
      have k0 : (0 : Int) ≤ (b.mails.length : Int) := by omega
      have k1 : (b.mails.length : Int) < (b.mails.length : Int) + 1 := by omega
      have k2 : (b.mails.length : Int) ≤ (cmi : Int) := by omega
      generalize ((sizeB s.boxes : Nat) : Int) = zs at *
      clear hb8 hB9 hX9 hW9 hmm hda hdo HOK HER hfull hzE hO hO9 hrow hrow' hpre hmcell hvi hb' hnp hinI
      go_upto_region 9 with fail
      rw [← HWE9.out]
      go_wp2
      go_quiet (fail)
      obtain ⟨Wq, hWq⟩ : ∃ W, W = W9.drewN nq := ⟨_, rfl⟩
      have hBq : Below W9.heap.size W9 Wq := by rw [hWq]; exact wdrew (Below.refl _ _) nq
      rw [← hWq]
      clear hWq
      have HBq := hid hBq
      have s0 := wcell_next s0 hBq
      have s1 := wcell_next s1 hBq
      have t0 := wcell_next t0 hBq
      have t1 := wcell_next t1 hBq
      have q1 := wcell_next q1 hBq
      have q2 := wcell_next q2 hBq
      have x3 := wcell_next x3 hBq
      have x5 := wcell_next x5 hBq
      have cf1 := low_frozen cf1 c1' hBq
      have cf2 := low_frozen cf2 c2' hBq
      have c1' := wcell_next c1' hBq
      have c2' := wcell_next c2' hBq
      have n0 := wcell_next n0 hBq
      have n1' := wcell_next n1' hBq
      have n2' := wcell_next n2' hBq
      have t0a : ∀ o : Obj, (Wq.alloc o).cell? ⟨w5.heap.size, 0, none⟩ = some (.slice (some ⟨g, 0, none⟩) s.boxes.length d1) := fun o => wcell_more t0 o
      have c2a : ∀ o : Obj, (Wq.alloc o).cell? ⟨g, i * 3 + 2, none⟩ = some (.slice (some ⟨gm, 0, none⟩) (b.mails.length + 1) cmi) := fun o => wcell_more c2' o
      have q2a : ∀ o : Obj, (Wq.alloc o).cell? ⟨w8.heap.size, 2, none⟩ = some (.slice am b.mails.length cm) := fun o => wcell_more q2 o
      have n0a : ∀ o : Obj, (Wq.alloc o).cell? ⟨gm, b.mails.length * 3, none⟩ = some (.int .i64 b.next) := fun o => wcell_more n0 o
      have n1a : ∀ o : Obj, (Wq.alloc o).cell? ⟨gm, b.mails.length * 3 + 1, none⟩ = some (.int .i64 E.flags) := fun o => wcell_more n1' o
      have n2a : ∀ o : Obj, (Wq.alloc o).cell? ⟨gm, b.mails.length * 3 + 2, none⟩ = some (.string (S E.text)) := fun o => wcell_more n2' o
      clear hBq
      go_wp2
      go_cut [13] (fun p wx => p = .pointer (some ⟨Wq.heap.size, 0, none⟩) ∧ wx.heap[Wq.heap.size]? = some (.cells #[.int .i64 b.next, .int .i64 E.flags, .string (S E.text)] 35) ∧ Below Wq.heap.size Wq wx)
      case first =>
        go_region_law (fail)
        all_goals
          go_wp2_with fail
          go_meet
          first
            | exact ⟨rfl, heap_alloc_new Wq.drew _, (Below.refl _ _).drew.alloc (Nat.le_refl _) _⟩
            | exact ⟨rfl, heap_alloc_new Wq _, ((Below.refl _ _).alloc (Nat.le_refl _) _).drew⟩
            | fail
      case rest =>
        obtain ⟨rfl, hM13, hb13⟩ := hcut
        obtain ⟨w0', w1', w2'⟩ := box3 hM13
        have s0 := wcell_next s0 hb13
        have s1 := wcell_next s1 hb13
        have t0 := wcell_next t0 hb13
        have t1 := wcell_next t1 hb13
        have q1 := wcell_next q1 hb13
        have q2 := wcell_next q2 hb13
        have x3 := wcell_next x3 hb13
        have x5 := wcell_next x5 hb13
        have cf1 := low_frozen cf1 c1' hb13
        have cf2 := low_frozen cf2 c2' hb13
        have c1' := wcell_next c1' hb13
        have c2' := wcell_next c2' hb13
        have hB9c : Below W9.heap.size W9 wc := HBq.out.trans (hb13.mono HBq.out.size)
        have hOc := (HMO.out.next hB9c).keep (w' := wc.drew) fun _ _ => rfl
        have hpc : wc.drew.ownsRow W4.heap.size 35 3 (.slice (some ⟨gm, 0, none⟩) b.mails.length cmi) b.mails.length (b.mails.map mailC).flatten := own_low HPRE.out hB9c.drew
        have hlen : (s.boxes.set i ⟨b.name, b.next + 1, b.mails ++ [⟨b.next, E.flags, E.text⟩]⟩).length = s.boxes.length := List.length_set
        have hgd : (vm.getD i (.slice none 0 0)).ownBlock = some gm := by rw [List.getD_eq_getElem?_getD, HVI.out]; rfl
        have h1 := OwnS.setMails (B := W4.heap.size) (w := wc.drew) (g := g) (c := d1) (vs := .slice a2 n2 d2) (v' := .slice (some ⟨gm, 0, none⟩) b.mails.length cmi) (vm := vm) (s := ⟨s.boxes.set i ⟨b.name, b.next + 1, b.mails ++ [⟨b.next, E.flags, E.text⟩]⟩, s.spool⟩) (i := i) (ms := b.mails) (by simpa using hOc) HBB.out (w' := wc.drew) (fun _ _ _ => rfl) hpc (.inl hgd.symm)
        have h2 := OwnS.setNext (i := i) (b := ⟨b.name, b.next + 1, b.mails⟩) (n := b.next) (s := ⟨(s.boxes.set i ⟨b.name, b.next + 1, b.mails ++ [⟨b.next, E.flags, E.text⟩]⟩).set i ⟨b.name, b.next + 1, b.mails⟩, s.spool⟩) (by simpa using h1) (List.getElem?_set_self (by rw [hlen]; exact hi))
        have hback : (((s.boxes.set i ⟨b.name, b.next + 1, b.mails ++ [⟨b.next, E.flags, E.text⟩]⟩).set i ⟨b.name, b.next + 1, b.mails⟩).set i ⟨b.name, b.next, b.mails⟩) = s.boxes := by
          rw [List.set_set, List.set_set]
          exact set_same HBX.out
        have h3 : OwnS W4.heap.size ((wc.drew.setCell ⟨g, i * 3 + 2, none⟩ (.slice (some ⟨gm, 0, none⟩) b.mails.length cmi)).setCell ⟨g, i * 3 + 1, none⟩ (.int .i64 b.next)) (.slice (some ⟨g, 0, none⟩) s.boxes.length d1) (.slice a2 n2 d2) (vm.set i (.slice (some ⟨gm, 0, none⟩) b.mails.length cmi)) s := by
          have h4 := h2
          simp only [hback] at h4
          simpa using h4
        have hT := h3.stt (Q := fun _ => True) HM.out (fun _ _ => trivial)
        have hgW4 : W4.heap.size ≤ g := hgl.1
        have hSc : SttM (fun k => k < W4.heap.size) wc.drew (.slice (some ⟨g0, o0, none⟩) s.boxes.length cb) (.slice aq s.spool.length cq) s := ((((HS4L.out.next HB46.out).next HB69.out).next hB9c).next ((Below.refl wc.heap.size wc).drew))
        have hSf : SttM (fun k => k < W4.heap.size) ((wc.drew.setCell ⟨g, i * 3 + 2, none⟩ (.slice (some ⟨gm, 0, none⟩) b.mails.length cmi)).setCell ⟨g, i * 3 + 1, none⟩ (.int .i64 b.next)) (.slice (some ⟨g0, o0, none⟩) s.boxes.length cb) (.slice aq s.spool.length cq) s := hSc.imp (fun _ h => h) ((Keeps.set wc.drew (p := ⟨g, i * 3 + 2, none⟩) _ fun b hb => by show b ≠ g; omega).trans (Keeps.set _ (p := ⟨g, i * 3 + 1, none⟩) _ fun b hb => by show b ≠ g; omega))
        have HSA := hid (sameState_any s _ _ _ _ _ _ _ hSf hT)
        have hz69 := HB69.out.size
        have hzq := HBq.out.size
        have HW3 := hid (show w3.heap.size < W4.heap.size from (Array.getElem?_eq_some_iff.1 HX4.out).1)
        have hn1 : w1.heap.size ≠ g := by have h1 : w1.heap.size < W4.heap.size := HW14.out; omega
        have hn3 : w3.heap.size ≠ g := by have := HW3.out; omega
        have hn8 : w8.heap.size ≠ g := fun e => hgw8 e.symm
        have hnq : Wq.heap.size ≠ g := by omega
        have HBw := hid (show Below w.heap.size w wc.drew from (HB9.out.trans (hB9c.mono HB9.out.size)).drew)
        have hwg : w.heap.size ≤ g := Nat.le_trans HB4.out.size hgW4
        have HBf := hid (show Below w.heap.size w ((wc.drew.setCell ⟨g, i * 3 + 2, none⟩ (.slice (some ⟨gm, 0, none⟩) b.mails.length cmi)).setCell ⟨g, i * 3 + 1, none⟩ (.int .i64 b.next)) from (HBw.out.setCell hwg _).setCell hwg _)
        have S0 := far2 (w := wc.drew) (p := g) (i := i * 3 + 2) (k := i * 3 + 1) (a := .slice (some ⟨gm, 0, none⟩) b.mails.length cmi) (b := .int .i64 b.next) hn1 s0
        have S1 := far2 (w := wc.drew) (p := g) (i := i * 3 + 2) (k := i * 3 + 1) (a := .slice (some ⟨gm, 0, none⟩) b.mails.length cmi) (b := .int .i64 b.next) hn1 s1
        have T0 := far2 (w := wc.drew) (p := g) (i := i * 3 + 2) (k := i * 3 + 1) (a := .slice (some ⟨gm, 0, none⟩) b.mails.length cmi) (b := .int .i64 b.next) hgt5 t0
        have T1 := far2 (w := wc.drew) (p := g) (i := i * 3 + 2) (k := i * 3 + 1) (a := .slice (some ⟨gm, 0, none⟩) b.mails.length cmi) (b := .int .i64 b.next) hgt5 t1
        have Q1 := far2 (w := wc.drew) (p := g) (i := i * 3 + 2) (k := i * 3 + 1) (a := .slice (some ⟨gm, 0, none⟩) b.mails.length cmi) (b := .int .i64 b.next) hn8 q1
        have X3 := far2 (w := wc.drew) (p := g) (i := i * 3 + 2) (k := i * 3 + 1) (a := .slice (some ⟨gm, 0, none⟩) b.mails.length cmi) (b := .int .i64 b.next) hn3 x3
        have X5 := far2 (w := wc.drew) (p := g) (i := i * 3 + 2) (k := i * 3 + 1) (a := .slice (some ⟨gm, 0, none⟩) b.mails.length cmi) (b := .int .i64 b.next) hn3 x5
        have M0 := far2 (w := wc.drew) (p := g) (i := i * 3 + 2) (k := i * 3 + 1) (a := .slice (some ⟨gm, 0, none⟩) b.mails.length cmi) (b := .int .i64 b.next) hnq w0'
        have M1 := far2 (w := wc.drew) (p := g) (i := i * 3 + 2) (k := i * 3 + 1) (a := .slice (some ⟨gm, 0, none⟩) b.mails.length cmi) (b := .int .i64 b.next) hnq w1'
        have M2 := far2 (w := wc.drew) (p := g) (i := i * 3 + 2) (k := i * 3 + 1) (a := .slice (some ⟨gm, 0, none⟩) b.mails.length cmi) (b := .int .i64 b.next) hnq w2'
        have nb1 : 1 ≤ b.next := hn1'.1
        have nb2 : b.next ≤ 41 := hnx
        obtain ⟨W15, hW15⟩ : ∃ W15, W15 = ((wc.setCell ⟨g, i * 3 + 2, none⟩ (.slice (some ⟨gm, 0, none⟩) b.mails.length cmi)).setCell ⟨g, i * 3 + 1, none⟩ (.int .i64 b.next)).drew := ⟨_, rfl⟩
        have hcomm : (wc.drew.setCell ⟨g, i * 3 + 2, none⟩ (.slice (some ⟨gm, 0, none⟩) b.mails.length cmi)).setCell ⟨g, i * 3 + 1, none⟩ (.int .i64 b.next) = ((wc.setCell ⟨g, i * 3 + 2, none⟩ (.slice (some ⟨gm, 0, none⟩) b.mails.length cmi)).setCell ⟨g, i * 3 + 1, none⟩ (.int .i64 b.next)).drew := rfl
        rw [hcomm, ← hW15] at HSA HBf S0 S1 T0 T1 Q1 X3 X5 M0 M1 M2
        have HWE15 := hid hW15
        clear h1 h2 h3 hT hSc hSf hOc hpc hback hlen hB9c hM13 hb13 hgd hW15 hcomm
        go_wp2
        go_region_law (fail)
        all_goals
          go_upto_region 16 with fail
          rw [← HWE15.out]
          go_wp2_with fail
          refine HSA.out.mono ?_
          rintro e w16 ⟨rfl, hb16⟩
          have HB16 := hid (HBf.out.trans (hb16.mono HBf.out.size))
          clear hb16
          simp only
          go_wp2
          go_ret
          exact ⟨ret_bool (by first | rfl | simp), HB16.out⟩
end Go.Proofs.YtilhjgdmolgmdaaDoor
