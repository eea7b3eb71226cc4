/-
  Two states that are the same are found so: the walk of the laws' sameState.
-/
import Derived.Test.YtaaenhjhjclilabDoorBoxSg
import Derived.Deep.QuietTactic
import Derived.BigQuiet
namespace Go.Proofs.YtaaenhjhjclilabDoor
open Go.RowKit Go.Proofs

set_option maxHeartbeats 1000000 in
set_option maxRecDepth 100000 in
theorem sameState_any (s : Stt) (vb vs vb' vs' : Value) (w : World) (Q Q' : Nat → Prop) (hS : SttM Q w vb vs s) (hS' : SttM Q' w vb' vs' s) :
    Calls Tryd.prog 9 #[.agg #[vb, vs], .agg #[vb', vs']] w fun e w' => e = .returned (.bool true) ∧ Below w.heap.size w w' := by
  have hm := RowM.small hS.1
  have hm2 := RowM.small hS.2.1
  unfold maxLen at hm hm2
  obtain ⟨ab, cb, rfl⟩ := RowM.slice hS.1
  obtain ⟨aq, cq, rfl⟩ := RowM.slice hS.2.1
  obtain ⟨ab', cb', rfl⟩ := RowM.slice hS'.1
  obtain ⟨aq', cq', rfl⟩ := RowM.slice hS'.2.1
  obtain ⟨W1, hW1⟩ : ∃ W1, W1 = (w.alloc (.cells #[.slice ab s.boxes.length cb, .slice aq s.spool.length cq] 29)).alloc (.cells #[.slice ab' s.boxes.length cb', .slice aq' s.spool.length cq'] 29) := ⟨_, rfl⟩
  have HWE := hid hW1
  have hB1 : Below w.heap.size w W1 := by rw [hW1]; exact ((Below.refl _ _).alloc (Nat.le_refl _) _).alloc (by simp) _
  have HB1 := hid hB1
  have x0 : W1.cell? ⟨w.heap.size, 0, none⟩ = some (.slice ab s.boxes.length cb) := by rw [hW1]; exact wcell_more (by simp) _
  have x1 : W1.cell? ⟨w.heap.size, 1, none⟩ = some (.slice aq s.spool.length cq) := by rw [hW1]; exact wcell_more (by simp) _
  have x2 : W1.cell? ⟨w.heap.size + 1, 0, none⟩ = some (.slice ab' s.boxes.length cb') := by rw [hW1]; simp
  have x3 : W1.cell? ⟨w.heap.size + 1, 1, none⟩ = some (.slice aq' s.spool.length cq') := by rw [hW1]; simp
  have HS := hid (hS.next hB1)
  have HS' := hid (hS'.next hB1)
  clear hS hS' hW1 hB1
  go_enter Tryd.func9, Tryd.ntmps9
  go_wp2
  rw [← HWE.out]
  go_loopw [5] (fun v wr => ∃ i : Nat, i ≤ s.spool.length ∧ v = .int .i64 i ∧ Hid (Below W1.heap.size W1 wr)) (fun v _ => s.spool.length - (intOf v).toNat)
  case atStart => exact ⟨0, Nat.zero_le _, rfl, Below.refl _ _⟩
  case round =>
    obtain ⟨i, hi, rfl, HB⟩ := hrel
    have y0 := wcell_next x0 HB.out
    have y1 := wcell_next x1 HB.out
    have y2 := wcell_next x2 HB.out
    have y3 := wcell_next x3 HB.out
    by_cases hlt : i < s.spool.length
    · have i1 : (i : Int) < (s.spool.length : Int) := by omega
      have i0 : (0 : Int) ≤ (i : Int) := by omega
      obtain ⟨x, hx⟩ : ∃ x, s.spool[i]? = some x := ⟨_, List.getElem?_eq_getElem hlt⟩
      obtain ⟨b, o, rfl, _, e0, e1, e2, e3, e4, e5⟩ := (HS.out.2.1.next HB.out).at hx
      obtain ⟨b', o', rfl, _, d0, d1, d2, d3, d4, d5⟩ := (HS'.out.2.1.next HB.out).at hx
      clear hx
      go_wp2
      go_quiet (fail)
      have HB2 := hid (wdrew HB.out nq)
      go_wp2
      go_roundw
      case rel => first | exact ⟨i + 1, by omega, by go_num, HB2⟩ | ((repeat apply Exists.intro); exact ⟨⟨i + 1, by omega, by go_num, HB2⟩, rfl⟩)
      case measure => simp [intOf]; omega
    · have i1 : ¬ (i : Int) < (s.spool.length : Int) := by omega
      obtain ⟨w0, rfl⟩ : ∃ W, W = wr := ⟨_, rfl⟩
      go_wp2
      go_loopw [6] (fun v wr => ∃ i : Nat, i ≤ s.boxes.length ∧ v = .int .i64 i ∧ Hid (Below w0.heap.size w0 wr)) (fun v _ => s.boxes.length - (intOf v).toNat)
      case atStart => exact ⟨0, Nat.zero_le _, rfl, Below.refl _ _⟩
      case round =>
        obtain ⟨j, hj, rfl, HC⟩ := hrel
        have u0 := wcell_next y0 HC.out
        have u2 := wcell_next y2 HC.out
        by_cases hlj : j < s.boxes.length
        · have j1 : (j : Int) < (s.boxes.length : Int) := by omega
          have j0 : (0 : Int) ≤ (j : Int) := by omega
          obtain ⟨x, hx⟩ : ∃ x, s.boxes[j]? = some x := ⟨_, List.getElem?_eq_getElem hlj⟩
          have hBC := HB.out.trans (HC.out.mono HB.out.size)
          obtain ⟨b, o, v, rfl, _, e0, e1, e2, hM⟩ := (HS.out.1.next hBC).at hx
          obtain ⟨b', o', v', rfl, _, d0, d1, d2, hM'⟩ := (HS'.out.1.next hBC).at hx
          obtain ⟨am, cm, rfl⟩ := RowM.slice hM
          obtain ⟨am', cm', rfl⟩ := RowM.slice hM'
          have hmm := RowM.small hM
          unfold maxLen at hmm
          obtain ⟨w1, rfl⟩ : ∃ W, W = wr := ⟨_, rfl⟩
          obtain ⟨W2, hW2⟩ : ∃ W2, W2 = (w1.alloc (.cells #[.string (S x.name), .int .i64 x.next, .slice am x.mails.length cm] 56)).alloc (.cells #[.string (S x.name), .int .i64 x.next, .slice am' x.mails.length cm'] 56) := ⟨_, rfl⟩
          have HWE2 := hid hW2
          have hB2 : Below w1.heap.size w1 W2 := by rw [hW2]; exact ((Below.refl _ _).alloc (Nat.le_refl _) _).alloc (by simp) _
          have m2 : W2.cell? ⟨w1.heap.size, 2, none⟩ = some (.slice am x.mails.length cm) := by rw [hW2]; exact wcell_more (by simp) _
          have m3 : W2.cell? ⟨w1.heap.size + 1, 2, none⟩ = some (.slice am' x.mails.length cm') := by rw [hW2]; simp
          have a2 := wcell_more u2 (.cells #[.string (S x.name), .int .i64 x.next, .slice am x.mails.length cm] 56)
          have a3 := wcell_more d0 (.cells #[.string (S x.name), .int .i64 x.next, .slice am x.mails.length cm] 56)
          have a4 := wcell_more d1 (.cells #[.string (S x.name), .int .i64 x.next, .slice am x.mails.length cm] 56)
          have a5 := wcell_more d2 (.cells #[.string (S x.name), .int .i64 x.next, .slice am x.mails.length cm] 56)
          have hn1 : w.heap.size + 1 ≠ w1.heap.size := Nat.ne_of_lt (World.block_lt_of_cell? _ _ u2)
          have hn2 : b' ≠ w1.heap.size := Nat.ne_of_lt (World.block_lt_of_cell? _ _ d0)
          have HM := hid (hM.next hB2)
          have HM' := hid (hM'.next hB2)
          have HB2 := hid hB2
          clear hx hM hM' hW2 hB2 hBC
          go_wp2
          rw [← HWE2.out]
          go_loopw [9] (fun v wr => ∃ i : Nat, i ≤ x.mails.length ∧ v = .int .i64 i ∧ Hid (Below W2.heap.size W2 wr)) (fun v _ => x.mails.length - (intOf v).toNat)
          case atStart => exact ⟨0, Nat.zero_le _, rfl, Below.refl _ _⟩
          case round =>
            obtain ⟨k, hk, rfl, HD⟩ := hrel
            have n2 := wcell_next m2 HD.out
            have n3 := wcell_next m3 HD.out
            by_cases hlk : k < x.mails.length
            · have k1 : (k : Int) < (x.mails.length : Int) := by omega
              have k0 : (0 : Int) ≤ (k : Int) := by omega
              obtain ⟨m, hm'⟩ : ∃ m, x.mails[k]? = some m := ⟨_, List.getElem?_eq_getElem hlk⟩
              obtain ⟨p, q, rfl, _, f0, f1, f2⟩ := (HM.out.next HD.out).at hm'
              obtain ⟨p', q', rfl, _, g0, g1, g2⟩ := (HM'.out.next HD.out).at hm'
              clear hm'
              go_wp2
              go_quiet (fail)
              have HD2 := hid (wdrew HD.out nq)
              go_wp2
              go_roundw
              case rel => first | exact ⟨k + 1, by omega, by go_num, HD2⟩ | ((repeat apply Exists.intro); exact ⟨⟨k + 1, by omega, by go_num, HD2⟩, rfl⟩)
              case measure => simp [intOf]; omega
            · have k1 : ¬ (k : Int) < (x.mails.length : Int) := by omega
              have HC2 := hid (show Below w0.heap.size w0 wr from HC.out.trans ((HB2.out.trans (HD.out.mono HB2.out.size)).mono HC.out.size))
              go_wp2
              go_roundw
              case rel => first | exact ⟨j + 1, by omega, by go_num, HC2⟩ | ((repeat apply Exists.intro); exact ⟨⟨j + 1, by omega, by go_num, HC2⟩, rfl⟩)
              case measure => simp [intOf]; omega
        · have j1 : ¬ (j : Int) < (s.boxes.length : Int) := by omega
          have HE := hid (show Below w.heap.size w wr from (HB1.out.trans (HB.out.mono HB1.out.size)).trans (HC.out.mono (Nat.le_trans HB1.out.size HB.out.size)))
          go_wp2
          go_ret
          exact ⟨rfl, HE.out⟩
end Go.Proofs.YtaaenhjhjclilabDoor
