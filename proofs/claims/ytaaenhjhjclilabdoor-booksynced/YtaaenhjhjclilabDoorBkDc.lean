/-
  A batch is read from its bytes: the walks of Decode.
-/
import Derived.Test.YtaaenhjhjclilabDoorBkRb
import Derived.Test.YtaaenhjhjclilabDoorBkSy
namespace Go.Proofs.YtaaenhjhjclilabDoor
open Go.RowKit Go.Proofs

theorem bys_low {Q : Nat → Prop} {w : World} {v : Value} {l : List UInt8} (h : BysM Q w v l) : BysM (fun k => k < w.heap.size) w v l := by
  obtain ⟨a, c, h1, h2, h3, h4⟩ := h
  refine ⟨a, c, h1, h2, h3, fun j x hx => ?_⟩
  obtain ⟨b, o, e, _, hc⟩ := h4 j x hx
  exact ⟨b, o, e, World.block_lt_of_cell? w _ hc, hc⟩
/-- A batch in memory that is new, and an error. -/
def DcP (w : World) (b : Bat) (er : Int) (e : Ending) (w' : World) : Prop := ∃ a c, e = .returned (.tuple #[.agg #[.int .i64 b.user, .slice a b.ents.length c], .int .i64 er]) ∧ EntsM (fun k => w.heap.size ≤ k) w' (.slice a b.ents.length c) b.ents ∧ Below w.heap.size w w'
set_option maxHeartbeats 1000000 in
set_option maxRecDepth 100000 in
theorem dec_short (a : Option Addr) (c : Nat) (l : List UInt8) (Q : Nat → Prop) (w : World) (h : BysM Q w (.slice a l.length c) l) (hl : l.length ≤ 100000) (hs : (batR (l, false)).2.2 = true) :
    Calls Tryd.prog 47 #[.slice a l.length c] w (DcP w ⟨0, []⟩ 4) := by
  obtain ⟨y, hy⟩ : ∃ y, y = batR (l, false) := ⟨_, rfl⟩
  rw [← hy] at hs
  obtain ⟨W2, hW2⟩ : ∃ W2, W2 = (w.alloc (.cells #[.int .i64 0, .slice none 0 0] 34)).alloc (.cells #[.slice a l.length c, .bool false] 69) := ⟨_, rfl⟩
  have HWE := hid hW2
  have hB2 : Below w.heap.size w W2 := by rw [hW2]; exact tp_low2 _ _ _
  have hp : W2.heap[w.heap.size]? = some (.cells #[.int .i64 0, .slice none 0 0] 34) := by rw [hW2]; exact (tp_new2 w _ _).1
  have hr : W2.heap[w.heap.size + 1]? = some (.cells #[.slice a l.length c, .bool false] 69) := by rw [hW2]; exact (tp_new2 w _ _).2
  have HP := hid hp
  have HB2 := hid hB2
  have HZ := hid (show W2.heap.size = w.heap.size + 2 by rw [hW2]; simp)
  have HR2 := hid (show RdB W2 (w.heap.size + 1) (l, false) from ⟨_, hr, (bys_low h).imp (fun k hk => (by omega : k < w.heap.size + 1)) fun b hb _ => hB2.block b hb⟩)
  have HRB := hid (rbat_any (w.heap.size + 1) (l, false) W2 HR2.out)
  rw [← hy] at HRB
  have hl1 : ¬ (100000 : Int) < ((l.length : Nat) : Int) := by omega
  clear h hW2 hB2 hp hr hy
  go_enter Tryd.func47, Tryd.ntmps47
  go_upto_region 4 with fail
  rw [← HWE.out]
  go_wp2_with fail
  refine HRB.out.mono ?_
  rintro e w3 ⟨a3, c3, rfl, hE3, ⟨v3, hr3, hv3⟩, hu3⟩
  obtain ⟨a4, c4, rfl, hc4, hm4⟩ := hv3.slice
  obtain ⟨W4, hW4⟩ : ∃ W4, W4 = w3.alloc (.cells #[.int .i64 y.1.user, .slice a3 y.1.ents.length c3] 34) := ⟨_, rfl⟩
  have HWE4 := hid hW4
  have hB4 : Below w3.heap.size w3 W4 := by rw [hW4]; exact (Below.refl _ _).alloc (Nat.le_refl _) _
  have ho4 : W4.heap[w3.heap.size]? = some (.cells #[.int .i64 y.1.user, .slice a3 y.1.ents.length c3] 34) := by rw [hW4]; exact heap_alloc_new w3 _
  have hp4 := bk_low hB4 (hu3.obj HP.out (by omega))
  have hr4 := bk_low hB4 hr3
  have HP4 := hid hp4
  have HE4 := hid (hE3.next hB4)
  have HB4 := hid (show Below w.heap.size w W4 from HB2.out.trans ((hu3.below (by omega) (by have := HZ.out; omega)).trans (hB4.mono (Nat.le_trans HB2.out.size hu3.size))))
  have HLT := hid (show w.heap.size < w3.heap.size from Nat.lt_of_lt_of_le (by have := HZ.out; omega) hu3.size)
  obtain ⟨x0, x1, f0, f1⟩ := bk_box2 hp4
  obtain ⟨y0, y1, _, _⟩ := bk_box2 hr4
  obtain ⟨o0, o1, _, _⟩ := bk_box2 ho4
  clear hE3 hr3 hv3 hu3 hW4 hB4 hp4 hr4 ho4
  go_upto_region 5 with fail
  rw [← HWE4.out]
  rw [hs] at y1
  obtain ⟨z0, z1, _, _⟩ := bk_box2 (bk_put (u0 := .int .i64 0) (u1 := .slice none 0 0) HP4.out)
  have HE := hid (show DcP w ⟨0, []⟩ 4 (.returned (.tuple #[.agg #[.int .i64 0, .slice none 0 0], .int .i64 4])) ((W4.setCell ⟨w.heap.size, 0, none⟩ (.int .i64 0)).setCell ⟨w.heap.size, 1, none⟩ (.slice none 0 0)) from ⟨none, 0, rfl, rowM_nil _ _ _ _ _ _, (HB4.out.setCell (Nat.le_refl _) _).setCell (Nat.le_refl _) _⟩)
  go_wp2
  refine bodyPost_ret (v := .tuple #[.agg #[.int .i64 0, .slice none 0 0], .int .i64 4]) (by simp [results, Tryd.results47, go_sem, *]) rfl ?_
  exact HE.out
set_option maxHeartbeats 1000000 in
set_option maxRecDepth 100000 in
theorem dec_form (a : Option Addr) (c : Nat) (l : List UInt8) (Q : Nat → Prop) (w : World) (h : BysM Q w (.slice a l.length c) l) (hl : l.length ≤ 100000) (hs : (batR (l, false)).2.2 = false) (hf : 0 < (batR (l, false)).2.1.length) :
    Calls Tryd.prog 47 #[.slice a l.length c] w (DcP w ⟨0, []⟩ 3) := by
  obtain ⟨y, hy⟩ : ∃ y, y = batR (l, false) := ⟨_, rfl⟩
  rw [← hy] at hs hf
  obtain ⟨W2, hW2⟩ : ∃ W2, W2 = (w.alloc (.cells #[.int .i64 0, .slice none 0 0] 34)).alloc (.cells #[.slice a l.length c, .bool false] 69) := ⟨_, rfl⟩
  have HWE := hid hW2
  have hB2 : Below w.heap.size w W2 := by rw [hW2]; exact tp_low2 _ _ _
  have hp : W2.heap[w.heap.size]? = some (.cells #[.int .i64 0, .slice none 0 0] 34) := by rw [hW2]; exact (tp_new2 w _ _).1
  have hr : W2.heap[w.heap.size + 1]? = some (.cells #[.slice a l.length c, .bool false] 69) := by rw [hW2]; exact (tp_new2 w _ _).2
  have HP := hid hp
  have HB2 := hid hB2
  have HZ := hid (show W2.heap.size = w.heap.size + 2 by rw [hW2]; simp)
  have HR2 := hid (show RdB W2 (w.heap.size + 1) (l, false) from ⟨_, hr, (bys_low h).imp (fun k hk => (by omega : k < w.heap.size + 1)) fun b hb _ => hB2.block b hb⟩)
  have HRB := hid (rbat_any (w.heap.size + 1) (l, false) W2 HR2.out)
  rw [← hy] at HRB
  have hl1 : ¬ (100000 : Int) < ((l.length : Nat) : Int) := by omega
  have hf1 : (0 : Int) < ((y.2.1.length : Nat) : Int) := by omega
  clear h hW2 hB2 hp hr hy
  go_enter Tryd.func47, Tryd.ntmps47
  go_upto_region 4 with fail
  rw [← HWE.out]
  go_wp2_with fail
  refine HRB.out.mono ?_
  rintro e w3 ⟨a3, c3, rfl, hE3, ⟨v3, hr3, hv3⟩, hu3⟩
  obtain ⟨a4, c4, rfl, hc4, hm4⟩ := hv3.slice
  obtain ⟨W4, hW4⟩ : ∃ W4, W4 = w3.alloc (.cells #[.int .i64 y.1.user, .slice a3 y.1.ents.length c3] 34) := ⟨_, rfl⟩
  have HWE4 := hid hW4
  have hB4 : Below w3.heap.size w3 W4 := by rw [hW4]; exact (Below.refl _ _).alloc (Nat.le_refl _) _
  have ho4 : W4.heap[w3.heap.size]? = some (.cells #[.int .i64 y.1.user, .slice a3 y.1.ents.length c3] 34) := by rw [hW4]; exact heap_alloc_new w3 _
  have hp4 := bk_low hB4 (hu3.obj HP.out (by omega))
  have hr4 := bk_low hB4 hr3
  have HP4 := hid hp4
  have HE4 := hid (hE3.next hB4)
  have HB4 := hid (show Below w.heap.size w W4 from HB2.out.trans ((hu3.below (by omega) (by have := HZ.out; omega)).trans (hB4.mono (Nat.le_trans HB2.out.size hu3.size))))
  have HLT := hid (show w.heap.size < w3.heap.size from Nat.lt_of_lt_of_le (by have := HZ.out; omega) hu3.size)
  obtain ⟨x0, x1, f0, f1⟩ := bk_box2 hp4
  obtain ⟨y0, y1, _, _⟩ := bk_box2 hr4
  obtain ⟨o0, o1, _, _⟩ := bk_box2 ho4
  clear hE3 hr3 hv3 hu3 hW4 hB4 hp4 hr4 ho4
  go_upto_region 5 with fail
  rw [← HWE4.out]
  rw [hs] at y1
  obtain ⟨z0, z1, _, _⟩ := bk_box2 (bk_put (u0 := .int .i64 0) (u1 := .slice none 0 0) HP4.out)
  have HE := hid (show DcP w ⟨0, []⟩ 3 (.returned (.tuple #[.agg #[.int .i64 0, .slice none 0 0], .int .i64 3])) ((W4.setCell ⟨w.heap.size, 0, none⟩ (.int .i64 0)).setCell ⟨w.heap.size, 1, none⟩ (.slice none 0 0)) from ⟨none, 0, rfl, rowM_nil _ _ _ _ _ _, (HB4.out.setCell (Nat.le_refl _) _).setCell (Nat.le_refl _) _⟩)
  go_wp2
  refine bodyPost_ret (v := .tuple #[.agg #[.int .i64 0, .slice none 0 0], .int .i64 3]) (by simp [results, Tryd.results47, go_sem, *]) rfl ?_
  exact HE.out
set_option maxHeartbeats 1000000 in
set_option maxRecDepth 100000 in
theorem dec_fine (a : Option Addr) (c : Nat) (l : List UInt8) (Q : Nat → Prop) (w : World) (h : BysM Q w (.slice a l.length c) l) (hl : l.length ≤ 100000) (hs : (batR (l, false)).2 = ([], false)) (hf : BatOk (batR (l, false)).1) :
    Calls Tryd.prog 47 #[.slice a l.length c] w (DcP w (batR (l, false)).1 0) := by
  obtain ⟨y, hy⟩ : ∃ y, y = batR (l, false) := ⟨_, rfl⟩
  rw [← hy] at hs hf ⊢
  obtain ⟨W2, hW2⟩ : ∃ W2, W2 = (w.alloc (.cells #[.int .i64 0, .slice none 0 0] 34)).alloc (.cells #[.slice a l.length c, .bool false] 69) := ⟨_, rfl⟩
  have HWE := hid hW2
  have hB2 : Below w.heap.size w W2 := by rw [hW2]; exact tp_low2 _ _ _
  have hp : W2.heap[w.heap.size]? = some (.cells #[.int .i64 0, .slice none 0 0] 34) := by rw [hW2]; exact (tp_new2 w _ _).1
  have hr : W2.heap[w.heap.size + 1]? = some (.cells #[.slice a l.length c, .bool false] 69) := by rw [hW2]; exact (tp_new2 w _ _).2
  have HP := hid hp
  have HB2 := hid hB2
  have HZ := hid (show W2.heap.size = w.heap.size + 2 by rw [hW2]; simp)
  have HR2 := hid (show RdB W2 (w.heap.size + 1) (l, false) from ⟨_, hr, (bys_low h).imp (fun k hk => (by omega : k < w.heap.size + 1)) fun b hb _ => hB2.block b hb⟩)
  have HRB := hid (rbat_any (w.heap.size + 1) (l, false) W2 HR2.out)
  rw [← hy] at HRB
  have hl1 : ¬ (100000 : Int) < ((l.length : Nat) : Int) := by omega
  have HF := hid hf
  clear h hW2 hB2 hp hr hy
  go_enter Tryd.func47, Tryd.ntmps47
  go_upto_region 4 with fail
  rw [← HWE.out]
  go_wp2_with fail
  refine HRB.out.mono ?_
  rintro e w3 ⟨a3, c3, rfl, hE3, ⟨v3, hr3, hv3⟩, hu3⟩
  obtain ⟨a4, c4, rfl, hc4, hm4⟩ := hv3.slice
  obtain ⟨W4, hW4⟩ : ∃ W4, W4 = w3.alloc (.cells #[.int .i64 y.1.user, .slice a3 y.1.ents.length c3] 34) := ⟨_, rfl⟩
  have HWE4 := hid hW4
  have hB4 : Below w3.heap.size w3 W4 := by rw [hW4]; exact (Below.refl _ _).alloc (Nat.le_refl _) _
  have ho4 : W4.heap[w3.heap.size]? = some (.cells #[.int .i64 y.1.user, .slice a3 y.1.ents.length c3] 34) := by rw [hW4]; exact heap_alloc_new w3 _
  have hp4 := bk_low hB4 (hu3.obj HP.out (by omega))
  have hr4 := bk_low hB4 hr3
  have HP4 := hid hp4
  have HE4 := hid (hE3.next hB4)
  have HB4 := hid (show Below w.heap.size w W4 from HB2.out.trans ((hu3.below (by omega) (by have := HZ.out; omega)).trans (hB4.mono (Nat.le_trans HB2.out.size hu3.size))))
  have HLT := hid (show w.heap.size < w3.heap.size from Nat.lt_of_lt_of_le (by have := HZ.out; omega) hu3.size)
  obtain ⟨x0, x1, f0, f1⟩ := bk_box2 hp4
  obtain ⟨y0, y1, _, _⟩ := bk_box2 hr4
  obtain ⟨o0, o1, _, _⟩ := bk_box2 ho4
  clear hE3 hr3 hv3 hu3 hW4 hB4 hp4 hr4 ho4
  go_upto_region 5 with fail
  rw [← HWE4.out]
  have hs1 : y.2.1 = [] := by rw [hs]
  have hs2 : y.2.2 = false := by rw [hs]
  rw [hs2] at y1
  rw [hs1] at y0
  have HC := hid (bcheck_ok y.1 a3 c3 _ W4 HF.out HE4.out)
  clear hs1 hs2 hs
  go_wp2_with fail
  refine HC.out.mono ?_
  rintro e w5 ⟨rfl, hb5⟩
  have hp5 := bk_low hb5 HP4.out
  obtain ⟨i0, i1, g0, g1⟩ := bk_box2 hp5
  have j0 := wcell_next o0 hb5
  have j1 := wcell_next o1 hb5
  obtain ⟨z0, z1, _, _⟩ := bk_box2 (bk_put (u0 := .int .i64 y.1.user) (u1 := .slice a3 y.1.ents.length c3) hp5)
  have HE := hid (show DcP w y.1 0 (.returned (.tuple #[.agg #[.int .i64 y.1.user, .slice a3 y.1.ents.length c3], .int .i64 0])) ((w5.setCell ⟨w.heap.size, 0, none⟩ (.int .i64 y.1.user)).setCell ⟨w.heap.size, 1, none⟩ (.slice a3 y.1.ents.length c3)) by
    refine ⟨a3, c3, rfl, ?_, ((HB4.out.trans (hb5.mono HB4.out.size)).setCell (Nat.le_refl _) _).setCell (Nat.le_refl _) _⟩
    have hz := HZ.out
    exact (HE4.out.next hb5).imp (fun k (hk : W2.heap.size ≤ k) => (by omega : w.heap.size ≤ k)) ⟨by simp [World.setCell], fun k _ hk => (bk_other (by omega)).trans (bk_other (by omega))⟩)
  clear hp5 hb5
  go_wp2
  refine bodyPost_ret (v := .tuple #[.agg #[.int .i64 y.1.user, .slice a3 y.1.ents.length c3], .int .i64 0]) (by simp [results, Tryd.results47, go_sem, *]) rfl ?_
  exact HE.out
theorem dec_ok (b : Bat) (hb : BatOk b) (a : Option Addr) (c : Nat) (Q : Nat → Prop) (w : World) (h : BysM Q w (.slice a (batB b).length c) (batB b)) : Calls Tryd.prog 47 #[.slice a (batB b).length c] w (DcP w b 0) := by
  have e := batR_app hb.fit [] false
  rw [List.append_nil] at e
  have := dec_fine a c (batB b) Q w h (by have := hb.len; omega) (by rw [e]) (by rw [e]; exact hb)
  rw [e] at this
  exact this
end Go.Proofs.YtaaenhjhjclilabDoor
