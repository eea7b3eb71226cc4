/-
  A batch behind its length is read, and a batch is put on a tape: the walks of framed and Append.
-/
import Derived.Test.YtaaenhjhjclilabDoorBkDc
import Derived.Test.YtaaenhjhjclilabDoorBkRow
import Derived.Test.YtaaenhjhjclilabDoorBkEc
namespace Go.Proofs.YtaaenhjhjclilabDoor
open Go.RowKit Go.Proofs

/-- What framed hands back. -/
def FrP (b : Nat) (w : World) (x : Bat) (ok : Bool) (r : List UInt8 × Bool) (e : Ending) (w' : World) : Prop := ∃ a c, e = .returned (.tuple #[.agg #[.int .i64 x.user, .slice a x.ents.length c], .bool ok]) ∧ EntsM (fun k => w.heap.size ≤ k) w' (.slice a x.ents.length c) x.ents ∧ RdB w' b r ∧ But b w w'
/-- What is read of a frame: a length, and so many bytes. -/
def frR (r : List UInt8 × Bool) : List UInt8 × (List UInt8 × Bool) := takeR (numR 3 r).1 (numR 3 r).2
theorem frR_app {x : Bat} (hl : (batB x).length < 16777216) (y : List UInt8) : frR (frB x ++ y, false) = (batB x, (y, false)) := by
  unfold frR frB
  rw [List.append_assoc, numR_app (beN3 hl)]
  exact takeR_app _ _ _
theorem frR_torn {t : List UInt8} (h : Torn t) : (frR (t, false)).2.2 = true := by
  unfold frR
  rcases h with rfl | ⟨x, j, _, hl, hj, rfl⟩
  · refine bkshort_of _ ?_
    unfold numR takeR
    simp
  · unfold frB at hj ⊢
    rcases take_parts (beB (batB x).length 3) (batB x) j with ⟨h1, e⟩ | ⟨h1, e⟩
    · rw [e]
      rw [beB_len] at h1
      exact bkshort_of _ (numR_torn h1 false)
    · rw [e, numR_app (beN3 hl)]
      rw [List.length_append] at hj
      exact takeR_torn (by rw [List.length_take]; omega) false
set_option maxHeartbeats 1000000 in
set_option maxRecDepth 100000 in
theorem framed_no (b : Nat) (r : List UInt8 × Bool) (w : World) (h : RdB w b r) (hs : (frR r).2.2 = true) :
    Calls Tryd.prog 25 #[.pointer (some ⟨b, 0, none⟩)] w (FrP b w ⟨0, []⟩ false (frR r).2) := by
  obtain ⟨k1, hk1⟩ : ∃ z, z = numR 3 r := ⟨_, rfl⟩
  have HN := hid (rnum_any 3 b r)
  have HT := hid (fun u (hu : RdB u b k1.2) => bktake_any k1.1 b k1.2 u hu)
  have HQ := hid (show takeR k1.1 k1.2 = frR r by rw [hk1]; rfl)
  rw [HQ.out] at HT
  rw [← hk1] at HN
  obtain ⟨Y, hY⟩ : ∃ Y, Y = frR r := ⟨_, rfl⟩
  rw [← hY] at hs HT ⊢
  clear hY
  obtain ⟨W1, hW1⟩ : ∃ W1, W1 = w.alloc (.cells #[.int .i64 0, .slice none 0 0] 34) := ⟨_, rfl⟩
  have HWE := hid hW1
  have hB1 : Below w.heap.size w W1 := by rw [hW1]; exact (Below.refl _ _).alloc (Nat.le_refl _) _
  have hp : W1.heap[w.heap.size]? = some (.cells #[.int .i64 0, .slice none 0 0] 34) := by rw [hW1]; exact heap_alloc_new w _
  have HP := hid hp
  have HBL := hid h.lt
  have HN1 := hid (HN.out W1 (h.next hB1) (by decide))
  have HU1 := hid (show But b w W1 from But.of hB1)
  clear h hW1 hB1 hp HN hk1 HQ
  go_enter Tryd.func25, Tryd.ntmps25
  go_wp2_with fail
  rw [← HWE.out]
  refine HN1.out.mono ?_
  rintro e w2 ⟨rfl, hr2, hu2⟩
  have HT2 := hid (HT.out w2 hr2)
  have HU2 := hid (HU1.out.trans hu2)
  have HP2 := hid (hu2.obj HP.out (by have := HBL.out; omega))
  clear hr2 hu2 HT
  go_wp2_with fail
  refine HT2.out.mono ?_
  rintro e w3 ⟨a3, c3, rfl, hb3, ⟨v3, hr3, hv3⟩, hu3⟩
  have hp3 := hu3.obj HP2.out (by have := HBL.out; omega)
  have HP3 := hid hp3
  have HU3 := hid (HU2.out.trans hu3)
  have HV3 := hid hb3
  have HR3 := hid (show RdB w3 b Y.2 from ⟨v3, hr3, hv3⟩)
  obtain ⟨x0, x1, f0, f1⟩ := bk_box2 hp3
  obtain ⟨y0, y1, _, _⟩ := bk_box2 hr3
  clear hb3 hr3 hv3 hu3 hp3
  rw [hs] at y1
  obtain ⟨z0, z1, _, _⟩ := bk_box2 (bk_put (u0 := .int .i64 0) (u1 := .slice none 0 0) HP3.out)
  have HE := hid (show FrP b w ⟨0, []⟩ false Y.2 (.returned (.tuple #[.agg #[.int .i64 0, .slice none 0 0], .bool false])) ((w3.setCell ⟨w.heap.size, 0, none⟩ (.int .i64 0)).setCell ⟨w.heap.size, 1, none⟩ (.slice none 0 0)) by
    have hbl := HBL.out
    have hu := HU3.out
    refine ⟨none, 0, rfl, rowM_nil _ _ _ _ _ _, HR3.out.far (((Below.refl _ _).setCell (by simp; omega) _).setCell (by simp; omega) _), hu.os, hu.tape, hu.output, by have := hu.size; simpa [World.setCell] using this, fun q hq hn => ?_⟩
    exact (bk_other (by omega)).trans ((bk_other (by omega)).trans (hu.block q hq hn)))
  clear hs
  go_wp2
  refine bodyPost_ret (v := .tuple #[.agg #[.int .i64 0, .slice none 0 0], .bool false]) (by simp [results, Tryd.results25, go_sem, *]) rfl ?_
  exact HE.out
set_option maxHeartbeats 1000000 in
set_option maxRecDepth 100000 in
theorem framed_ok (b : Nat) (r : List UInt8 × Bool) (w : World) (h : RdB w b r) (x : Bat) (hx : BatOk x) (rest : List UInt8) (hs : frR r = (batB x, (rest, false))) :
    Calls Tryd.prog 25 #[.pointer (some ⟨b, 0, none⟩)] w (FrP b w x true (rest, false)) := by
  obtain ⟨k1, hk1⟩ : ∃ z, z = numR 3 r := ⟨_, rfl⟩
  have HN := hid (rnum_any 3 b r)
  have HT := hid (fun u (hu : RdB u b k1.2) => bktake_any k1.1 b k1.2 u hu)
  have HQ := hid (show takeR k1.1 k1.2 = frR r by rw [hk1]; rfl)
  rw [HQ.out] at HT
  rw [← hk1] at HN
  rw [hs] at HT
  have hlen := hx.len
  have HX := hid hx
  obtain ⟨Y, hY⟩ : ∃ Y : List UInt8 × (List UInt8 × Bool), Y = (batB x, (rest, false)) := ⟨_, rfl⟩
  have HYE := hid hY
  rw [← hY] at HT
  clear hs hx hY
  obtain ⟨W1, hW1⟩ : ∃ W1, W1 = w.alloc (.cells #[.int .i64 0, .slice none 0 0] 34) := ⟨_, rfl⟩
  have HWE := hid hW1
  have hB1 : Below w.heap.size w W1 := by rw [hW1]; exact (Below.refl _ _).alloc (Nat.le_refl _) _
  have hp : W1.heap[w.heap.size]? = some (.cells #[.int .i64 0, .slice none 0 0] 34) := by rw [hW1]; exact heap_alloc_new w _
  have HP := hid hp
  have HBL := hid h.lt
  have HN1 := hid (HN.out W1 (h.next hB1) (by decide))
  have HU1 := hid (show But b w W1 from But.of hB1)
  clear h hW1 hB1 hp HN hk1 HQ
  go_enter Tryd.func25, Tryd.ntmps25
  go_wp2_with fail
  rw [← HWE.out]
  refine HN1.out.mono ?_
  rintro e w2 ⟨rfl, hr2, hu2⟩
  have HT2 := hid (HT.out w2 hr2)
  have HU2 := hid (HU1.out.trans hu2)
  have HP2 := hid (hu2.obj HP.out (by have := HBL.out; omega))
  clear hr2 hu2 HT
  go_wp2_with fail
  refine HT2.out.mono ?_
  rintro e w3 ⟨a3, c3, rfl, hb3, ⟨v3, hr3, hv3⟩, hu3⟩
  have hp3 := hu3.obj HP2.out (by have := HBL.out; omega)
  have HP3 := hid hp3
  have HU3 := hid (HU2.out.trans hu3)
  have HV3 := hid hb3
  have HR3 := hid (show RdB w3 b Y.2 from ⟨v3, hr3, hv3⟩)
  obtain ⟨x0, x1, f0, f1⟩ := bk_box2 hp3
  obtain ⟨y0, y1, _, _⟩ := bk_box2 hr3
  clear hb3 hr3 hv3 hu3 hp3
  have y2 : w3.cell? ⟨b, 1, none⟩ = some (.bool false) := by rw [y1, HYE.out]
  have HD := hid (show Calls Tryd.prog 47 #[.slice a3 Y.1.length c3] w3 (DcP w3 x 0) by
    have hv := HV3.out
    rw [HYE.out] at hv ⊢
    exact dec_ok x HX.out a3 c3 _ w3 hv)
  clear y1
  go_wp2_with fail
  refine HD.out.mono ?_
  rintro e w4 ⟨a4, c4, rfl, hE4, hb4⟩
  obtain ⟨W5, hW5⟩ : ∃ W5, W5 = w4.alloc (.cells #[.int .i64 x.user, .slice a4 x.ents.length c4] 34) := ⟨_, rfl⟩
  have HWE5 := hid hW5
  have hB5 : Below w4.heap.size w4 W5 := by rw [hW5]; exact (Below.refl _ _).alloc (Nat.le_refl _) _
  have ho5 : W5.heap[w4.heap.size]? = some (.cells #[.int .i64 x.user, .slice a4 x.ents.length c4] 34) := by rw [hW5]; exact heap_alloc_new w4 _
  have hb35 : Below w3.heap.size w3 W5 := hb4.trans (hB5.mono hb4.size)
  have hp5 := bk_low hb35 HP3.out
  obtain ⟨i0, i1, g0, g1⟩ := bk_box2 hp5
  obtain ⟨o0, o1, _, _⟩ := bk_box2 ho5
  obtain ⟨z0, z1, _, _⟩ := bk_box2 (bk_put (u0 := .int .i64 x.user) (u1 := .slice a4 x.ents.length c4) hp5)
  have HE := hid (show FrP b w x true (rest, false) (.returned (.tuple #[.agg #[.int .i64 x.user, .slice a4 x.ents.length c4], .bool true])) ((W5.setCell ⟨w.heap.size, 0, none⟩ (.int .i64 x.user)).setCell ⟨w.heap.size, 1, none⟩ (.slice a4 x.ents.length c4)) by
    have hbl := HBL.out
    have hu := HU3.out
    have hlt : w.heap.size < w3.heap.size := (Array.getElem?_eq_some_iff.1 HP3.out).1
    have hr := HR3.out.next hb35
    rw [HYE.out] at hr
    refine ⟨a4, c4, rfl, ?_, hr.far (((Below.refl _ _).setCell (by simp; omega) _).setCell (by simp; omega) _), hb35.os.trans hu.os, hb35.tape.trans hu.tape, hb35.output.trans hu.output, Nat.le_trans hu.size (by have := hb35.size; simpa [World.setCell] using this), fun q hq hn => ?_⟩
    · exact (hE4.next hB5).imp (fun k (hk : w3.heap.size ≤ k) => (by omega : w.heap.size ≤ k)) ⟨by simp [World.setCell], fun k _ hk => (bk_other (by omega)).trans (bk_other (by omega))⟩
    · exact (bk_other (by omega)).trans ((bk_other (by omega)).trans ((hb35.block q (by omega)).trans (hu.block q hq hn))))
  clear hE4 hb4 hW5 hB5 ho5 hb35 hp5
  go_upto_region 5 with fail
  rw [← HWE5.out]
  go_wp2
  refine bodyPost_ret (v := .tuple #[.agg #[.int .i64 x.user, .slice a4 x.ents.length c4], .bool true]) (by simp [results, Tryd.results25, go_sem, *]) rfl ?_
  exact HE.out
end Go.Proofs.YtaaenhjhjclilabDoor
