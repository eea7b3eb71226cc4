/-
  Batches that are the same are found so: the walks of the laws' sameBatch and begins.
  What the laws on batches and tapes have in common.
-/
import Derived.Test.YtneikogloopodaaDoorBkCr
import Derived.Test.YtneikogloopodaaDoorBkBz
import Derived.Test.YtneikogloopodaaDoorBkAz
import Derived.Test.YtneikogloopodaaDoorBoxSg
import Derived.Deep.QuietTactic
import Derived.BigQuiet
import Derived.Test.YtneikogloopodaaDoorBkKz
import Derived.Test.YtneikogloopodaaDoorBkTz
namespace Go.Proofs.YtneikogloopodaaDoor
open Go.RowKit Go.Proofs

set_option maxHeartbeats 1000000 in
set_option maxRecDepth 100000 in
theorem sameBatch_any (x : Bat) (a a' : Option Addr) (c c' : Nat) (Q Q' : Nat → Prop) (w : World) (h : EntsM Q w (.slice a x.ents.length c) x.ents) (h' : EntsM Q' w (.slice a' x.ents.length c') x.ents) :
    Calls Tryd.prog 16 #[.agg #[.int .i64 x.user, .slice a x.ents.length c], .agg #[.int .i64 x.user, .slice a' x.ents.length c']] w fun e w' => e = .returned (.bool true) ∧ Below w.heap.size w w' := by
  obtain ⟨user, ents⟩ := x
  simp only at *
  have hm := RowM.small h
  unfold maxLen at hm
  obtain ⟨W1, hW1⟩ : ∃ W1, W1 = (w.alloc (.cells #[.int .i64 user, .slice a ents.length c] 34)).alloc (.cells #[.int .i64 user, .slice a' ents.length c'] 34) := ⟨_, rfl⟩
  have HWE := hid hW1
  have hB1 : Below w.heap.size w W1 := by rw [hW1]; exact tp_low2 _ _ _
  have hp0 : W1.heap[w.heap.size]? = some (.cells #[.int .i64 user, .slice a ents.length c] 34) := by rw [hW1]; exact (tp_new2 w _ _).1
  have hr0 : W1.heap[w.heap.size + 1]? = some (.cells #[.int .i64 user, .slice a' ents.length c'] 34) := by rw [hW1]; exact (tp_new2 w _ _).2
  have HB1 := hid hB1
  have HS := hid (h.next hB1)
  have HS' := hid (h'.next hB1)
  obtain ⟨x0, x1, _, _⟩ := bk_box2 hp0
  obtain ⟨x2, x3, _, _⟩ := bk_box2 hr0
  clear h h' hW1 hB1 hp0 hr0
  go_enter Tryd.func16, Tryd.ntmps16
  go_wp2
  rw [← HWE.out]
  go_loopw [5] (fun v wr => ∃ i : Nat, i ≤ ents.length ∧ v = .int .i64 i ∧ Hid (Below W1.heap.size W1 wr)) (fun v _ => ents.length - (intOf v).toNat)
  case atStart => exact ⟨0, Nat.zero_le _, rfl, Below.refl _ _⟩
  case round =>
    obtain ⟨i, hi, rfl, HB⟩ := hrel
    have y0 := wcell_next x0 HB.out
    have y1 := wcell_next x1 HB.out
    have y2 := wcell_next x2 HB.out
    have y3 := wcell_next x3 HB.out
    by_cases hlt : i < ents.length
    · have i1 : (i : Int) < (ents.length : Int) := by omega
      have i0 : (0 : Int) ≤ (i : Int) := by omega
      obtain ⟨x, hx⟩ : ∃ x, ents[i]? = some x := ⟨_, List.getElem?_eq_getElem hlt⟩
      obtain ⟨b, o, rfl, _, e0, e1, e2, e3, e4, e5⟩ := (HS.out.next HB.out).at hx
      obtain ⟨b', o', rfl, _, d0, d1, d2, d3, d4, d5⟩ := (HS'.out.next HB.out).at hx
      clear hx
      go_wp2
      go_quiet (fail)
      have HB2 := hid (wdrew HB.out nq)
      go_wp2
      go_roundw
      case rel => first | exact ⟨i + 1, by omega, by go_num, HB2⟩ | ((repeat apply Exists.intro); exact ⟨⟨i + 1, by omega, by go_num, HB2⟩, rfl⟩)
      case measure => simp [intOf]; omega
    · have i1 : ¬ (i : Int) < (ents.length : Int) := by omega
      have HE := hid (show Below w.heap.size w wr from HB1.out.trans (HB.out.mono HB1.out.size))
      go_wp2
      go_ret
      exact ⟨rfl, HE.out⟩
set_option maxHeartbeats 1000000 in
set_option maxRecDepth 100000 in
theorem begins_any (l r : List Bat) (a a' : Option Addr) (c c' : Nat) (Q Q' : Nat → Prop) (w : World) (h : BatsM Q w (.slice a l.length c) l) (h' : BatsM Q' w (.slice a' r.length c') r) (hlr : l = r.take l.length) :
    Calls Tryd.prog 15 #[.slice a l.length c, .slice a' r.length c'] w fun e w' => e = .returned (.bool true) ∧ Below w.heap.size w w' := by
  have hll : l.length ≤ r.length := by have := congrArg List.length hlr; rw [List.length_take] at this; omega
  have hm := RowM.small h
  unfold maxLen at hm
  have HL := hid h
  have HL' := hid h'
  have HLR := hid hlr
  have k9 : ¬ (r.length : Int) < (l.length : Int) := by omega
  clear h h' hlr
  go_enter Tryd.func15, Tryd.ntmps15
  go_wp2
  go_loopw [5] (fun v wr => ∃ i : Nat, i ≤ l.length ∧ v = .int .i64 i ∧ Hid (Below w.heap.size w wr)) (fun v _ => l.length - (intOf v).toNat)
  case atStart => exact ⟨0, Nat.zero_le _, rfl, Below.refl _ _⟩
  case round =>
    obtain ⟨i, hi, rfl, HB⟩ := hrel
    by_cases hlt : i < l.length
    · have i1 : (i : Int) < (l.length : Int) := by omega
      have i2 : (i : Int) < (r.length : Int) := by omega
      have i0 : (0 : Int) ≤ (i : Int) := by omega
      obtain ⟨x, hx⟩ : ∃ x, l[i]? = some x := ⟨_, List.getElem?_eq_getElem hlt⟩
      have hx' : r[i]? = some x := by rw [HLR.out, List.getElem?_take_of_lt hlt] at hx; exact hx
      obtain ⟨b, o, ae, ce, rfl, e0, e1, hE⟩ := (HL.out.next HB.out).at hx
      obtain ⟨b', o', ae', ce', rfl, d0, d1, hE'⟩ := (HL'.out.next HB.out).at hx'
      have HSB := hid (fun u (hu : Below wr.heap.size wr u) => sameBatch_any x ae ae' ce ce' _ _ u (hE.next hu) (hE'.next hu))
      clear hx hx' hE hE'
      go_upto_region 6 with fail
      go_cut [26] (fun v wx => v = .bool false ∧ Below wr.heap.size wr wx)
      case first =>
        go_region_held3 (fun w' => w'.cell? ⟨b, o + i * 2, none⟩ = some (.int .i64 x.user) ∧ w'.cell? ⟨b, o + i * 2 + 1, none⟩ = some (.slice ae x.ents.length ce) ∧ w'.cell? ⟨b', o' + i * 2, none⟩ = some (.int .i64 x.user) ∧ w'.cell? ⟨b', o' + i * 2 + 1, none⟩ = some (.slice ae' x.ents.length ce')) (go_keep)
          (first
            | (go_at_call 16
               with_reducible refine (HSB.out wr.drew ((Below.refl _ _).drew)).mono ?_
               rintro e w3 ⟨rfl, hb3⟩
               have hb := (Below.refl wr.heap.size wr).drew.trans hb3
               have HB3 := hid hb
               have r0 := wcell_next e0 hb
               have r1 := wcell_next e1 hb
               have r2 := wcell_next d0 hb
               have r3 := wcell_next d1 hb
               clear hb3 hb)
            | fail)
        all_goals
          go_wp2_with fail
          go_meet
          exact ⟨by first | rfl | simp, HB3.out⟩
      case rest =>
        obtain ⟨rfl, hb⟩ := hcut
        have HB2 := hid (HB.out.trans (hb.mono HB.out.size))
        clear hb
        go_wp2
        go_roundw
        case rel => first | exact ⟨i + 1, by omega, by go_num, HB2⟩ | ((repeat apply Exists.intro); exact ⟨⟨i + 1, by omega, by go_num, HB2⟩, rfl⟩)
        case measure => simp [intOf]; omega
    · have i1 : ¬ (i : Int) < (l.length : Int) := by omega
      go_wp2
      go_ret
      exact ⟨rfl, HB.out⟩
end Go.Proofs.YtneikogloopodaaDoor

namespace Go.Proofs.YtneikogloopodaaDoor
open Go.RowKit Go.Proofs

theorem may_zero {n : Nat} (h : n ≤ 100000) : mayN n 0 = true := by unfold mayN; simp; omega
theorem may_all {n : Nat} (h : n ≤ 100000) : mayN n (n : Int) = true := by unfold mayN; simp; omega
/-- A tape in its variable, as a call hands it back. -/
theorem TpP.read {w w' : World} {l : List UInt8} {s er : Int} {e : Ending} (h : TpP w l s er e w') (hl : l.length ≤ 1000000) : ∃ a c, e = .returned (.tuple #[.agg #[.slice a l.length c, .int .i64 s], .int .i64 er]) ∧ BysM (fun k => k < w'.heap.size) w' (.slice a l.length c) l ∧ Below w.heap.size w w' := by
  obtain ⟨a, c, e, hO, hb⟩ := h
  exact ⟨a, c, e, own_by hO rfl (by unfold maxLen; omega) fun g hg => (World.ownsRow.lt hO g hg).2, hb⟩
theorem one_box (w : World) (o : Obj) : Below w.heap.size w (w.alloc o) := (Below.refl _ _).alloc (Nat.le_refl _) _
end Go.Proofs.YtneikogloopodaaDoor
