/-
  Whatever is done, a state may be: walked.
-/
import Derived.Test.YtilhjgdmolgmdaaDoorBoxSm
import Derived.Test.YtilhjgdmolgmdaaDoorBoxBd
namespace Go.Proofs.YtilhjgdmolgmdaaDoor
open Go.RowKit Go.Proofs

theorem do_pos {s s' : Stt} {x : Ent} (h : doM s x = .ok s') (hp : 0 < s.boxes.length) : 0 < s'.boxes.length := by
  have ha : ∀ (i : Nat) (f : Int) (t : List UInt8), addM s i f t = .ok s' → 0 < s'.boxes.length := fun i f t h => by
    unfold addM at h
    split at h
    · cases h
    · split at h
      · cases h
      · cases h; simpa using hp
  unfold doM at h
  repeat' (first | (cases h; done) | (cases h; simp; done) | (cases h; simpa using hp) | exact ha _ _ _ h | split at h)
theorem state_pos (l : List Chr) : 0 < (stateP l).boxes.length := by
  have key : ∀ (l : List Chr) (s : Stt), 0 < s.boxes.length → 0 < (l.foldl stepP s).boxes.length := by
    intro l
    induction l with
    | nil => intro s h; exact h
    | cons c l ih =>
      intro s h
      refine ih _ ?_
      unfold stepP
      split
      · rename_i s' he; exact do_pos he h
      · exact h
  exact key _ _ (by decide)
set_option maxHeartbeats 2000000 in
set_option maxRecDepth 100000 in
theorem stateMay_walk (w : World) (_hm : maxLenCell w) (a : Option Addr) (c : Nat) (ls : List Chr) (hF : ChsM (fun _ => True) w (.slice a ls.length c) ls) (hB : ∀ x ∈ ls, chrW x) :
    Calls Tryd.prog 3 #[.slice a ls.length c] w fun e w' => e = .returned (.bool true) ∧ Below w.heap.size w w' := by
  have HST := hid (state_any ls a c w _ hF hB)
  have HM := hid (stateP_may ls)
  have hpos := state_pos ls
  generalize stateP ls = s at *
  clear hF hB
  go_enter Tryd.func3, Tryd.ntmps3
  go_wp2_with fail
  refine HST.out.mono ?_
  rintro e w1 ⟨ab, nb, cb, aq, nq, cq, rfl, hS, hb1⟩
  simp only
  obtain ⟨ab', cb', e⟩ := RowM.slice hS.1
  simp only [Value.slice.injEq] at e
  obtain ⟨rfl, rfl, rfl⟩ := e
  obtain ⟨W2, hW2⟩ : ∃ W2, W2 = w1.alloc (.cells #[.slice ab s.boxes.length cb, .slice aq nq cq] 26) := ⟨_, rfl⟩
  have HWE := hid hW2
  have hB2 : Below w1.heap.size w1 W2 := by rw [hW2]; exact (Below.refl _ _).alloc (Nat.le_refl _) _
  have HB2 := hid (show Below w.heap.size w W2 from hb1.trans (hB2.mono hb1.size))
  have x0 : W2.cell? ⟨w1.heap.size, 0, none⟩ = some (.slice ab s.boxes.length cb) := by rw [hW2]; simp
  have x1 : W2.cell? ⟨w1.heap.size, 1, none⟩ = some (.slice aq nq cq) := by rw [hW2]; simp
  have HS := hid (hS.next hB2)
  have HSZ := hid (size_ok s _ _ W2 _ HS.out HM.out)
  have h6 := HM.out.size
  have h5 := HM.out.boxes
  clear hS hW2 hB2 hb1
  go_wp2_with fail
  rw [← HWE.out]
  refine HSZ.out.mono ?_
  rintro e w3 ⟨rfl, hb3⟩
  have HB3 := hid hb3
  simp only
  clear hb3
  go_wp2
  go_loopw [6, 7] (fun q v wr => ∃ i : Nat, i ≤ s.boxes.length ∧ v = .int .i64 i ∧ q = .int .i64 (sizeB (s.boxes.take i) : Nat) ∧ Hid (Below W2.heap.size W2 wr)) (fun _ v _ => s.boxes.length - (intOf v).toNat)
  case atStart => exact ⟨0, Nat.zero_le _, rfl, rfl, HB3⟩
  case round =>
    obtain ⟨i, hi, rfl, rfl, HB⟩ := hrel
    have y0 := wcell_next x0 HB.out
    have y1 := wcell_next x1 HB.out
    by_cases hlt : i < s.boxes.length
    · have i1 : (i : Int) < (s.boxes.length : Int) := by omega
      have i0 : (0 : Int) ≤ (i : Int) := by omega
      obtain ⟨x, hx⟩ : ∃ x, s.boxes[i]? = some x := ⟨_, List.getElem?_eq_getElem hlt⟩
      obtain ⟨b, o, v, rfl, _, e0, e1, e2, hM⟩ := (HS.out.1.next HB.out).at hx
      obtain ⟨am, cm, rfl⟩ := RowM.slice hM
      have hX := HM.out.each x (List.mem_of_getElem? hx)
      have h30 := hX.many
      have HR := hid hX.mails
      have HMX := hid hM
      have HSS := hid (sizeB_step hx)
      have hle : sizeB (s.boxes.take i) + sizeM x.mails ≤ 6000 := by rw [← HSS.out]; exact Nat.le_trans (sizeB_take_le _ _) h6
      obtain ⟨wo, rfl⟩ : ∃ W, W = wr := ⟨_, rfl⟩
      clear hM hx hX
      go_wp2
      go_loopw [6, 8, 9] (fun q u v wr => ∃ j : Nat, j ≤ x.mails.length ∧ v = .int .i64 j ∧ u = .int .i64 (lastU 0 x.mails j) ∧ q = .int .i64 (sizeB (s.boxes.take i) + sizeM (x.mails.take j) : Nat) ∧ Hid (Below wo.heap.size wo wr)) (fun _ _ v _ => x.mails.length - (intOf v).toNat)
      case atStart => exact ⟨0, Nat.zero_le _, rfl, rfl, rfl, Below.refl _ _⟩
      case round =>
        obtain ⟨j, hj, rfl, rfl, rfl, HC⟩ := hrel
        have z0 := wcell_next y0 HC.out
        have d1 := wcell_next e1 HC.out
        have d2 := wcell_next e2 HC.out
        by_cases hlj : j < x.mails.length
        · have j1 : (j : Int) < (x.mails.length : Int) := by omega
          have j0 : (0 : Int) ≤ (j : Int) := by omega
          obtain ⟨m, hm'⟩ : ∃ m, x.mails[j]? = some m := ⟨_, List.getElem?_eq_getElem hlj⟩
          obtain ⟨b', o', rfl, _, k0, k1, k2⟩ := (HMX.out.next HC.out).at hm'
          obtain ⟨r1, r2, r3, r4, r5⟩ := risen_at _ _ _ _ HR.out hm'
          have HU := hid (show lastU 0 x.mails (j + 1) = m.uid by show (match x.mails[j]? with | some m => m.uid | none => 0) = m.uid; rw [hm'])
          have HT := hid (sizeM_step hm')
          have hle2 : sizeM (x.mails.take j) + m.text.length ≤ sizeM x.mails := by rw [← HT.out]; exact sizeM_take_le _ _
          have hr1 : (0 : Int) ≤ ((sizeB (s.boxes.take i) + sizeM (x.mails.take j) : Nat) : Int) := by omega
          have hr2 : ((sizeB (s.boxes.take i) + sizeM (x.mails.take j) : Nat) : Int) + ((S m.text).size : Int) ≤ 6000 := by rw [size_S]; omega
          have HE := hid (show ((sizeB (s.boxes.take i) + sizeM (x.mails.take j) : Nat) : Int) + ((S m.text).size : Int) = ((sizeB (s.boxes.take i) + sizeM (x.mails.take (j + 1)) : Nat) : Int) by rw [size_S, HT.out]; omega)
          obtain ⟨W4, hW4⟩ : ∃ W4, W4 = wr.alloc (.cells #[.int .i64 m.uid, .int .i64 m.flags, .string (S m.text)] 35) := ⟨_, rfl⟩
          have HWE4 := hid hW4
          have hB4 : Below wr.heap.size wr W4 := by rw [hW4]; exact (Below.refl _ _).alloc (Nat.le_refl _) _
          have hX4 : W4.heap[wr.heap.size]? = some (.cells #[.int .i64 m.uid, .int .i64 m.flags, .string (S m.text)] 35) := by rw [hW4]; exact heap_alloc_new wr _
          obtain ⟨m0, m1, m2⟩ := box3 hX4
          have f0 := wcell_next z0 hB4
          have f1 := wcell_next d1 hB4
          have HC4 := hid (show Below wo.heap.size wo W4 from HC.out.trans (hB4.mono HC.out.size))
          generalize ((sizeB (s.boxes.take i) + sizeM (x.mails.take j) : Nat) : Int) = q at *
          generalize lastU 0 x.mails j = u at *
          have c1 : ¬ m.uid ≤ u := by omega
          have c2 : ¬ x.next ≤ m.uid := by omega
          clear hm' hle2 hW4 hX4 hB4
          go_wp2
          rw [← HWE4.out]
          go_quiet (fail)
          have HC5 := hid (wdrew HC4.out nq)
          go_wp2
          rw [HE.out]
          go_roundw
          case rel => first | exact ⟨j + 1, by omega, by go_num, by rw [HU.out], rfl, HC5⟩ | ((repeat apply Exists.intro); exact ⟨⟨j + 1, by omega, by go_num, by rw [HU.out], rfl, HC5⟩, rfl⟩)
          case measure => simp [intOf]; omega
        · have j1 : ¬ (j : Int) < (x.mails.length : Int) := by omega
          have HE := hid (show sizeB (s.boxes.take i) + sizeM (x.mails.take j) = sizeB (s.boxes.take (i + 1)) by rw [HSS.out, List.take_of_length_le (l := x.mails) (by omega)])
          have HB4 := hid (show Below W2.heap.size W2 wr from HB.out.trans (HC.out.mono HB.out.size))
          go_wp2
          rw [HE.out]
          go_roundw
          case rel => first | exact ⟨i + 1, by omega, by go_num, rfl, HB4⟩ | ((repeat apply Exists.intro); exact ⟨⟨i + 1, by omega, by go_num, rfl, HB4⟩, rfl⟩)
          case measure => simp [intOf]; omega
    · have i1 : ¬ (i : Int) < (s.boxes.length : Int) := by omega
      have hE : sizeB (s.boxes.take i) = sizeB s.boxes := by rw [List.take_of_length_le (by omega)]
      rw [hE]
      clear hE
      obtain ⟨W5, hW5⟩ : ∃ W5, W5 = (wr.alloc (.cells #[.string ⟨#[97]⟩, .int .i64 0, .slice none 0 0] 33)).alloc (.cells #[.slice (some ⟨wr.heap.size, 0, none⟩) 1 1, .slice none 0 0] 26) := ⟨_, rfl⟩
      have HWE5 := hid hW5
      have hB5 : Below wr.heap.size wr W5 := by rw [hW5]; exact ((Below.refl _ _).alloc (Nat.le_refl _) _).alloc (by simp) _
      have hP5 : W5.heap[wr.heap.size]? = some (.cells #[.string ⟨#[97]⟩, .int .i64 0, .slice none 0 0] 33) := by rw [hW5, heap_alloc_old _ _ (by simp), heap_alloc_new]
      have t0 : W5.cell? ⟨wr.heap.size + 1, 0, none⟩ = some (.slice (some ⟨wr.heap.size, 0, none⟩) 1 1) := by rw [hW5]; simp
      have t1 : W5.cell? ⟨wr.heap.size + 1, 1, none⟩ = some (.slice none 0 0) := by rw [hW5]; simp
      have u0 := wcell_next y0 hB5
      have u1 := wcell_next y1 hB5
      have HCK := hid (check_ok s _ _ W5 _ ((HS.out.next HB.out).next hB5) HM.out)
      have HCB := hid (fun v (hv : Below W5.heap.size W5 v) => check_bad [97] 0 wr.heap.size v rfl (by decide) (low_obj hv hP5))
      have HB5 := hid (show Below w.heap.size w W5 from (HB2.out.trans (HB.out.mono HB2.out.size)).trans (hB5.mono (Nat.le_trans HB2.out.size HB.out.size)))
      have q6 : ((sizeB s.boxes : Nat) : Int) ≤ 6000 := by omega
      have qp : (0 : Int) < (s.boxes.length : Int) := by omega
      generalize ((sizeB s.boxes : Nat) : Int) = zz at *
      clear hW5 hB5 hP5
      go_upto_region 17 with fail
      rw [← HWE5.out]
      go_wp2_with fail
      refine HCK.out.mono ?_
      rintro e w6 ⟨rfl, hb6⟩
      have t0 := wcell_next t0 hb6
      have t1 := wcell_next t1 hb6
      have u0 := wcell_next u0 hb6
      have HC6 := hid (HCB.out w6 hb6)
      have HB6 := hid (show Below w.heap.size w w6 from HB5.out.trans (hb6.mono HB5.out.size))
      clear hb6
      go_wp2_with fail
      refine HC6.out.mono ?_
      rintro e w7 ⟨rfl, hb7⟩
      have u0 := wcell_next u0 hb7
      have HB7 := hid (show Below w.heap.size w w7 from HB6.out.trans (hb7.mono HB6.out.size))
      clear hb7
      go_wp2
      go_ret
      exact ⟨ret_bool (by first | rfl | simp), HB7.out⟩
end Go.Proofs.YtilhjgdmolgmdaaDoor
