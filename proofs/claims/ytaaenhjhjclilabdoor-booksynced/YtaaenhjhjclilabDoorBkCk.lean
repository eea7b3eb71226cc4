/-
  Batches in memory; Check of a batch that may be: the walk.
-/
import Derived.Test.YtaaenhjhjclilabDoorBkWe
import Derived.Test.YtaaenhjhjclilabDoorBoxFm
import Derived.Test.YtaaenhjhjclilabDoorBoxDo
namespace Go.Proofs.YtaaenhjhjclilabDoor
open Go.RowKit Go.Proofs

theorem ents_low {Q : Nat → Prop} {w : World} {v : Value} {l : List Ent} (h : EntsM Q w v l) : EntsM (fun k => k < w.heap.size) w v l := by
  obtain ⟨a, c, h1, h2, h3⟩ := h
  refine ⟨a, c, h1, h2, fun i x hx => ?_⟩
  obtain ⟨b, o, cs, e, hb, _, h4, h5, h6⟩ := h3 i x hx
  exact ⟨b, o, cs, e, hb, hb, h4, h5, h6⟩
theorem ents_below {B : Nat} {w w' : World} {v : Value} {l : List Ent} (h : EntsM (fun k => k < B) w v l) (hb : Below B w w') : EntsM (fun k => k < B) w' v l := h.imp (fun _ h => h) (Keeps.of_below' hb fun _ h => h)
set_option maxHeartbeats 1000000 in
theorem isUser_any (n : Int) (w : World) : Calls Tryd.prog 17 #[.int .i64 n] w fun e w' => e = .returned (.bool (decide (0 ≤ n) && decide (n < 3))) ∧ w' = w := by
  go_enter Tryd.func17, Tryd.ntmps17
  go_wp2
  all_goals
    go_ret
    simp [*]
    try omega
set_option maxHeartbeats 1000000 in
set_option maxRecDepth 100000 in
theorem bcheck_ok (b : Bat) (a : Option Addr) (c : Nat) (Q : Nat → Prop) (w : World) (h : BatOk b) (hE : EntsM Q w (.slice a b.ents.length c) b.ents) :
    Calls Tryd.prog 16 #[.agg #[.int .i64 b.user, .slice a b.ents.length c]] w fun e w' => e = .returned (.int .i64 0) ∧ Below w.heap.size w w' := by
  obtain ⟨user, ents⟩ := b
  obtain ⟨⟨u0, u1⟩, ⟨m0, m1⟩, he⟩ := h
  simp only at *
  have hU : (decide (0 ≤ user) && decide (user < 3)) = true := by simp [u0, u1]
  obtain ⟨W1, hW1⟩ : ∃ W1, W1 = w.alloc (.cells #[.int .i64 user, .slice a ents.length c] 34) := ⟨_, rfl⟩
  have HWE := hid hW1
  have HB1 := hid (show Below w.heap.size w W1 by rw [hW1]; exact (Below.refl _ _).alloc (Nat.le_refl _) _)
  have hp : W1.heap[w.heap.size]? = some (.cells #[.int .i64 user, .slice a ents.length c] 34) := by rw [hW1]; exact heap_alloc_new w _
  obtain ⟨x0, x1, _, _⟩ := bk_box2 hp
  have HE := hid (hE.next HB1.out)
  have HF := hid he
  have hn0 : ¬ (ents.length : Int) = 0 := by omega
  have hn1 : ¬ (10 : Int) < (ents.length : Int) := by omega
  have hnb : ((ents.length : Int) == 0) = false := by
    rw [beq_eq_false_iff_ne]
    exact hn0
  clear hE he hW1 hp
  go_enter Tryd.func16, Tryd.ntmps16
  go_wp2_with fail
  rw [← HWE.out]
  refine (isUser_any user W1).mono ?_
  rintro e u ⟨rfl, hu⟩
  have hu' := hu.symm
  subst hu'
  rw [hU]
  clear hu
  go_wp2
  go_loopw [25] (fun v wr => ∃ k : Nat, k ≤ ents.length ∧ v = .int .i64 k ∧ Hid (Below W1.heap.size W1 wr)) (fun v _ => ents.length - (intOf v).toNat)
  case atStart => exact ⟨0, Nat.zero_le _, rfl, Below.refl _ _⟩
  case round =>
    obtain ⟨k, hk, rfl, HB⟩ := hrel
    by_cases hlt : k < ents.length
    · have k1 : (k : Int) < (ents.length : Int) := by omega
      have k0 : (0 : Int) ≤ (k : Int) := by omega
      obtain ⟨x, hx⟩ : ∃ x, ents[k]? = some x := ⟨_, List.getElem?_eq_getElem hlt⟩
      obtain ⟨b, o, rfl, _, e0, e1, e2, e3, e4, e5⟩ := (HE.out.next HB.out).at hx
      have HFX := hid (HF.out x (List.mem_of_getElem? hx))
      clear hx
      obtain ⟨W2, hW2⟩ : ∃ W2, W2 = wr.alloc (.cells #[.int .i64 x.kind, .string (S x.box), .int .i64 x.uid, .int .i64 x.flags, .string (S x.goal), .string (S x.text)] 61) := ⟨_, rfl⟩
      have HWE2 := hid hW2
      have hB2 : Below wr.heap.size wr W2 := by rw [hW2]; exact (Below.refl _ _).alloc (Nat.le_refl _) _
      have HB2 := hid (HB.out.trans (hB2.mono HB.out.size))
      have hX2 : W2.heap[wr.heap.size]? = some (.cells #[.int .i64 x.kind, .string (S x.box), .int .i64 x.uid, .int .i64 x.flags, .string (S x.goal), .string (S x.text)] 61) := by rw [hW2]; exact heap_alloc_new wr _
      obtain ⟨y0, y1, y2, y3, y4, y5⟩ := box6' hX2
      clear hW2 hB2 hX2
      go_upto_region 8 with fail
      rw [← HWE2.out]
      go_wp2_with fail
      refine (form_ok x W2 HFX.out).mono ?_
      rintro e w3 ⟨rfl, hb3⟩
      have HB3 := hid (HB2.out.trans (hb3.mono HB2.out.size))
      clear hb3
      go_wp2
      go_roundw
      case rel => first | exact ⟨k + 1, by omega, by go_num, HB3⟩ | ((repeat apply Exists.intro); exact ⟨⟨k + 1, by omega, by go_num, HB3⟩, rfl⟩)
      case measure => simp [intOf]; omega
    · have k1 : ¬ (k : Int) < (ents.length : Int) := by omega
      have HR := hid (HB1.out.trans (HB.out.mono HB1.out.size))
      go_wp2
      go_ret
      exact ⟨rfl, HR.out⟩
end Go.Proofs.YtaaenhjhjclilabDoor
