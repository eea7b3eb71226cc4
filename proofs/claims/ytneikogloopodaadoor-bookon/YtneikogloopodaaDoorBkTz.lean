/-
  The batches of a tape that are whole: the walks of Recover.
  A tape with batches: the walk of the laws' taped; and where a tape lies that a call hands back.
-/
import Derived.Test.YtneikogloopodaaDoorBkAz
import Derived.Test.YtneikogloopodaaDoorBoxSg
namespace Go.Proofs.YtneikogloopodaaDoor
open Go.RowKit Go.Proofs

def batsT (bs : List Bat) (k : Nat) : List Bat := bs.take k
def tapeT (bs : List Bat) (k : Nat) : List UInt8 := tapeB (bs.take k)
def tapeD (bs : List Bat) (k : Nat) : List UInt8 := tapeB (bs.drop k)
theorem tape_parts (bs : List Bat) (k : Nat) : tapeT bs k ++ tapeD bs k = tapeB bs := by
  unfold tapeT tapeD
  rw [← tapeB_app, List.take_append_drop]
theorem tapeD_step {bs : List Bat} {k : Nat} {x : Bat} (h : bs[k]? = some x) : tapeD bs k = frB x ++ tapeD bs (k + 1) := by
  have hk : k < bs.length := (List.getElem?_eq_some_iff.1 h).1
  unfold tapeD
  rw [List.drop_eq_getElem_cons hk, (List.getElem?_eq_some_iff.1 h).2]
  rfl
theorem batsT_step {bs : List Bat} {k : Nat} {x : Bat} (h : bs[k]? = some x) : batsT bs (k + 1) = batsT bs k ++ [x] := by
  have hk : k < bs.length := (List.getElem?_eq_some_iff.1 h).1
  unfold batsT
  rw [List.take_succ_eq_append_getElem hk, (List.getElem?_eq_some_iff.1 h).2]
theorem batsT_len {bs : List Bat} {k : Nat} (h : k ≤ bs.length) : (batsT bs k).length = k := by unfold batsT; rw [List.length_take]; omega
/-- How long a slice is. -/
def lenV : Value → Nat
  | .slice _ n _ => n
  | _ => 0
def minI (s : Int) (n : Nat) : Int := min s (n : Int)
/-- What Recover hands back. -/
def RcP (w : World) (bs : List Bat) (d : List UInt8) (s : Int) (e : Ending) (w' : World) : Prop := ∃ ab cb a c, e = .returned (.tuple #[.slice ab bs.length cb, .agg #[.slice a d.length c, .int .i64 s], .int .i64 0]) ∧ BatsM (fun _ => True) w' (.slice ab bs.length cb) bs ∧ w'.ownsRow w.heap.size 5 1 (.slice a d.length c) d.length (byC d) ∧ Below w.heap.size w w'
set_option maxHeartbeats 1000000 in
set_option maxRecDepth 100000 in
theorem recover_bad (a : Option Addr) (n c : Nat) (s : Int) (w : World) (hm : mayN n s = false) :
    Calls Tryd.prog 12 #[.agg #[.slice a n c, .int .i64 s]] w fun e w' => e = .returned (.tuple #[.slice none 0 0, .agg #[.slice none 0 0, .int .i64 0], .int .i64 11]) ∧ Below w.heap.size w w' := by
  obtain ⟨W1, hW1⟩ : ∃ W1, W1 = (w.alloc (.cells #[.slice a n c, .int .i64 s] 40)).alloc (.cells #[.slice none 0 0, .int .i64 0] 40) := ⟨_, rfl⟩
  have HWE := hid hW1
  have HB1 := hid (show Below w.heap.size w W1 by rw [hW1]; exact tp_low2 _ _ _)
  have hp0 : W1.heap[w.heap.size]? = some (.cells #[.slice a n c, .int .i64 s] 40) := by rw [hW1]; exact (tp_new2 w _ _).1
  have hr0 : W1.heap[w.heap.size + 1]? = some (.cells #[.slice none 0 0, .int .i64 0] 40) := by rw [hW1]; exact (tp_new2 w _ _).2
  have HR := hid hr0
  obtain ⟨x0, x1, _, _⟩ := bk_box2 hp0
  have HM := hid hm
  clear hm hp0 hr0 hW1
  go_enter Tryd.func12, Tryd.ntmps12
  go_wp2_with fail
  rw [← HWE.out]
  refine (tmay_any a n c s W1).mono ?_
  rintro e w2 ⟨rfl, hb⟩
  rw [HM.out]
  obtain ⟨y0, y1, f0, f1⟩ := bk_box2 (bk_low hb HR.out)
  obtain ⟨z0, z1, _, _⟩ := bk_box2 (bk_put (u0 := .slice none 0 0) (u1 := .int .i64 0) (bk_low hb HR.out))
  have HE := hid (((HB1.out.trans (hb.mono HB1.out.size)).setCell (p := ⟨w.heap.size + 1, 0, none⟩) (Nat.le_succ _) (.slice none 0 0)).setCell (p := ⟨w.heap.size + 1, 1, none⟩) (Nat.le_succ _) (.int .i64 0))
  clear hb
  go_wp2
  refine bodyPost_ret (v := .tuple #[.slice none 0 0, .agg #[.slice none 0 0, .int .i64 0], .int .i64 11]) (by simp [results, Tryd.results12, go_sem, *]) rfl ?_
  exact ⟨rfl, HE.out⟩
set_option maxHeartbeats 1000000 in
set_option maxRecDepth 100000 in
theorem recover_ok (bs : List Bat) (t : List UInt8) (a : Option Addr) (c : Nat) (s : Int) (Q : Nat → Prop) (w : World) (h : BysM Q w (.slice a (tapeB bs ++ t).length c) (tapeB bs ++ t)) (hm : mayN (tapeB bs ++ t).length s = true) (ht : Torn t) (hok : ∀ b ∈ bs, BatOk b) (hbn : bs.length ≤ 100000) :
    Calls Tryd.prog 12 #[.agg #[.slice a (tapeB bs ++ t).length c, .int .i64 s]] w (RcP w bs (tapeB bs) (minI s (tapeB bs).length)) := by
  obtain ⟨i0, hi, hz0, hz1, hz2⟩ := info_parts infoBt
  obtain ⟨L, hL⟩ : ∃ L, L = tapeB bs ++ t := ⟨_, rfl⟩
  rw [← hL] at h hm ⊢
  have HLD := hid hL
  have hnl : L.length ≤ 100000 := by unfold mayN at hm; simp at hm; exact hm.1
  have hcl : L.length ≤ c := by
    obtain ⟨a', c', e, h2, _⟩ := h.slice
    simp only [Value.slice.injEq] at e
    omega
  obtain ⟨W1, hW1⟩ : ∃ W1, W1 = (w.alloc (.cells #[.slice a L.length c, .int .i64 s] 40)).alloc (.cells #[.slice none 0 0, .int .i64 0] 40) := ⟨_, rfl⟩
  have HWE := hid hW1
  have HB1 := hid (show Below w.heap.size w W1 by rw [hW1]; exact tp_low2 _ _ _)
  have hp0 : W1.heap[w.heap.size]? = some (.cells #[.slice a L.length c, .int .i64 s] 40) := by rw [hW1]; exact (tp_new2 w _ _).1
  have hr0 : W1.heap[w.heap.size + 1]? = some (.cells #[.slice none 0 0, .int .i64 0] 40) := by rw [hW1]; exact (tp_new2 w _ _).2
  have HP := hid hp0
  have HR := hid hr0
  obtain ⟨x0, x1, _, _⟩ := bk_box2 hp0
  have HH := hid (h.next HB1.out)
  have HM := hid hm
  have HTO := hid ht
  have HOK := hid hok
  obtain ⟨D, hD⟩ : ∃ D, D = tapeB bs := ⟨_, rfl⟩
  have HD := hid hD
  rw [← hD]
  obtain ⟨sm, hsm⟩ : ∃ sm, sm = minI s D.length := ⟨_, rfl⟩
  rw [← hsm]
  have HSM := hid hsm
  clear hm h hp0 hr0 hW1 ht hok hL hD hsm
  go_enter Tryd.func12, Tryd.ntmps12
  go_wp2_with fail
  rw [← HWE.out]
  refine (tmay_any a L.length c s W1).mono ?_
  rintro e w2 ⟨rfl, hb2⟩
  rw [HM.out]
  have hP2 := bk_low hb2 HP.out
  obtain ⟨y0, y1, _, _⟩ := bk_box2 hP2
  obtain ⟨W3, hW3⟩ : ∃ W3, W3 = w2.alloc (.cells #[.slice a L.length c, .bool false] 70) := ⟨_, rfl⟩
  have HWE3 := hid hW3
  have hB3 : Below w2.heap.size w2 W3 := by rw [hW3]; exact (Below.refl _ _).alloc (Nat.le_refl _) _
  have hr3 : W3.heap[w2.heap.size]? = some (.cells #[.slice a L.length c, .bool false] 70) := by rw [hW3]; exact heap_alloc_new w2 _
  have hb13 : Below W1.heap.size W1 W3 := hb2.trans (hB3.mono hb2.size)
  have HB13 := hid hb13
  have HRD3 := hid (show RdB W3 w2.heap.size (tapeD bs 0 ++ t, false) from ⟨_, hr3, by
    have h := (bys_low (HH.out.next hb2)).imp (w' := W3) (fun _ h => h) fun k hk _ => hB3.block k hk
    have e : tapeD bs 0 ++ t = L := by unfold tapeD; rw [HLD.out]; rfl
    rw [← e] at h
    exact e ▸ h⟩)
  have HZ3 := hid (show W3.heap.size = w2.heap.size + 1 by rw [hW3]; simp)
  have HW12 := hid (show W1.heap.size ≤ w2.heap.size from hb2.size)
  have HW1S := hid (show w.heap.size + 1 < W1.heap.size from (Array.getElem?_eq_some_iff.1 HR.out).1)
  clear hb2 hP2 hW3 hB3 hr3 hb13 x0 x1
  go_upto_region 5 with fail
  rw [← HWE3.out]
  go_wp2
  go_loopw [5, 7] (fun q v wr => ∃ (k : Nat) (a9 : Option Addr) (c9 : Nat), k ≤ bs.length ∧ q = .slice a9 k c9 ∧ v = .int .i64 ((tapeT bs k).length : Int) ∧ Hid (RdB wr w2.heap.size (tapeD bs k ++ t, false)) ∧ Hid (OwnBs (w2.heap.size + 1) (fun k => w2.heap.size + 1 ≤ k) wr (.slice a9 k c9) (batsT bs k)) ∧ Hid (But w2.heap.size W3 wr)) (fun q _ _ => bs.length - lenV q)
  case atStart => exact ⟨0, none, 0, Nat.zero_le _, rfl, rfl, HRD3, OwnBs.nil _ _ _, But.refl _ _⟩
  case round =>
    obtain ⟨k, a9, c9, hk, rfl, rfl, HRD, HO, HU⟩ := hrel
    by_cases hlt : k < bs.length
    · obtain ⟨x, hx⟩ : ∃ x, bs[k]? = some x := ⟨_, List.getElem?_eq_getElem hlt⟩
      have hxo := HOK.out x (List.mem_of_getElem? hx)
      have HDS := hid (tapeD_step hx)
      have HBS := hid (batsT_step hx)
      have HLEN := hid (show L.length = (tapeT bs (k + 1)).length + (tapeD bs (k + 1) ++ t).length by
        have h1 := tape_parts bs (k + 1)
        rw [HLD.out, ← h1]
        simp only [List.length_append]
        omega)
      have HFR := hid (framed_ok w2.heap.size (tapeD bs k ++ t, false) wr HRD.out x hxo (tapeD bs (k + 1) ++ t) (by rw [HDS.out, List.append_assoc]; exact frR_app (by have := hxo.len; omega) _))
      clear hx hxo
      go_wp2_with fail
      refine HFR.out.mono ?_
      rintro e w4 ⟨a4, c4, rfl, hE4, hr4, hu4⟩
      obtain ⟨W5, hW5⟩ : ∃ W5, W5 = w4.alloc (.cells #[.int .i64 x.user, .slice a4 x.ents.length c4] 34) := ⟨_, rfl⟩
      have HWE5 := hid hW5
      have hB5 : Below w4.heap.size w4 W5 := by rw [hW5]; exact (Below.refl _ _).alloc (Nat.le_refl _) _
      have ho5 : W5.heap[w4.heap.size]? = some (.cells #[.int .i64 x.user, .slice a4 x.ents.length c4] 34) := by rw [hW5]; exact heap_alloc_new w4 _
      have hU5 : But w2.heap.size wr W5 := hu4.trans (But.of hB5)
      have hw9 : w2.heap.size < wr.heap.size := HRD.out.lt
      have HO5 := hid ((HO.out.but hU5 (by omega) fun k (hk : w2.heap.size + 1 ≤ k) => by omega))
      have HR5 := hid (hr4.next hB5)
      have HE5 := hid (hE4.next hB5)
      have HU5 := hid (show But w2.heap.size W3 W5 from HU.out.trans hU5)
      have HS5 := hid (show wr.heap.size ≤ W5.heap.size from hU5.size)
      obtain ⟨o0, o1, _, _⟩ := bk_box2 ho5
      obtain ⟨vs, hv1, hv2, hv3⟩ := HO5.out
      have hv2' : W5.ownsRow (w2.heap.size + 1) 34 2 (.slice a9 k c9) k (btCs (batsT bs k) vs).flatten := by have := hv2; rw [batsT_len hk] at this; exact this
      have HV1 := hid hv1
      have HV2 := hid hv2'
      have HV3 := hid hv3
      have HOW := hid (show ∀ q, (Value.slice a9 k c9).ownBlock = some q → q < wr.heap.size from fun q hq => by
        obtain ⟨vs', q1, q2, q3⟩ := HO.out
        exact (World.ownsRow.lt q2 q hq).2)
      have HW9 := hid hw9
      clear hE4 hr4 hu4 hW5 hB5 ho5 hU5 hv1 hv2 hv2' hv3 hw9
      go_upto_region 8 with fail
      rw [← HWE5.out]
      go_wp2_with (first
        | (at_builtin; refine wpList_append_lies _ rfl _ _ 23 rfl (w2.heap.size + 1) 34 i0 _ 2 32 Tryd.underlying23 hi hz0 hz1 hz2 rfl (by omega) (.slice a9 k c9) k ((btCs (batsT bs k) vs).flatten) rfl (World.ownsRow.alloc HV2.out _) ⟨W5.heap.size, 0, none⟩ 1 1 [.int .i64 x.user, .slice a4 x.ents.length c4] rfl rfl (bk_two_new W5 _ _ _) ?c1 (by omega) ?c2 ?c3 ?c4 _ rfl ?_)
        | fail)
      case c1 => simp [Value.oneCell']
      case c2 => unfold maxLen; omega
      case c3 => omega
      case c4 => have := HS5.out; have := HW9.out; simp; omega
      intro gm cap w6 hown hgrow hat hlt6
      have hal : Below W5.heap.size W5 (W5.alloc (.cells #[.int .i64 x.user, .slice a4 x.ents.length c4] 34)) := (Below.refl _ _).alloc (Nat.le_refl _) _
      have HO6 := hid (show OwnBs (w2.heap.size + 1) (fun k => w2.heap.size + 1 ≤ k) w6 (.slice (some ⟨gm, 0, none⟩) (k + 1) cap) (batsT bs (k + 1)) by
        rw [HBS.out]
        refine OwnBs.app HV1.out (batsT_len hk).symm (fun i b u hb hu => ?_) hown hgrow (by simpa using hat) ?_
        · obtain ⟨a', c', e, h⟩ := HV3.out i b u hb hu
          exact ⟨a', c', e, h.next hal⟩
        · refine (HE5.out.next hal).imp (fun q (hq : wr.heap.size ≤ q) => ⟨fun e => ?_, ?_⟩) (Keeps.refl _ _)
          · have := HOW.out q e.symm; omega
          · have := HW9.out; omega)
      have hb6 : Below (w2.heap.size + 1) W5 w6 := ((Below.refl (w2.heap.size + 1) W5).alloc (by have := HS5.out; have := HW9.out; omega) _).grown hgrow (by have := HS5.out; have := HW9.out; simp; omega) (fun j hj => (World.ownsRow.lt HV2.out j hj).1)
      have HR6 := hid (HR5.out.far hb6)
      have HU6 := hid (show But w2.heap.size W3 w6 from ⟨hb6.os.trans HU5.out.os, hb6.tape.trans HU5.out.tape, hb6.output.trans HU5.out.output, Nat.le_trans HU5.out.size hb6.size, fun q hq hn => (hb6.block q (by have := HZ3.out; omega)).trans (HU5.out.block q hq hn)⟩)
      obtain ⟨v6, hr6, hv6⟩ := HR6.out
      obtain ⟨a6, c6, rfl, _, _⟩ := hv6.slice
      obtain ⟨r0, r1, _, _⟩ := bk_box2 hr6
      have hp6 := HU6.out.obj (bk_low HB13.out HP.out) (by have := HW1S.out; have := HW12.out; omega)
      obtain ⟨t0, t1, _, _⟩ := bk_box2 hp6
      have HNM := hid (show ((L.length : Nat) : Int) - (((tapeD bs (k + 1) ++ t).length : Nat) : Int) = (((tapeT bs (k + 1)).length : Nat) : Int) by have := HLEN.out; omega)
      generalize (tapeD bs (k + 1) ++ t).length = m6 at *
      have hm6 : m6 ≤ L.length := by have := HLEN.out; omega
      clear hown hgrow hat hb6 hr6 hv6 hp6 o0 o1 hal
      go_wp2
      go_roundw
      case rel => first | exact ⟨k + 1, _, cap, by omega, rfl, by first | rw [HNM.out] | (rw [← HNM.out]; go_num), HR6, HO6, HU6⟩ | ((repeat apply Exists.intro); exact ⟨⟨k + 1, _, cap, by omega, rfl, by first | rw [HNM.out] | (rw [← HNM.out]; go_num), HR6, HO6, HU6⟩, rfl⟩)
      case measure => simp [lenV]; omega
    · have hkl : k = bs.length := by omega
      have HTD := hid (show tapeT bs k = D by rw [HD.out]; unfold tapeT; rw [List.take_of_length_le (by omega)])
      have HBT := hid (show batsT bs k = bs by unfold batsT; rw [List.take_of_length_le (by omega)])
      have HRT := hid (show RdB wr w2.heap.size (t, false) by
        have h := HRD.out
        have e : tapeD bs k ++ t = t := by unfold tapeD; rw [List.drop_of_length_le (by omega)]; rfl
        rw [e] at h
        exact h)
      have HFN := hid (framed_no w2.heap.size (t, false) wr HRT.out (frR_torn HTO.out))
      have hDL : D.length ≤ L.length := by rw [HLD.out, HD.out]; simp only [List.length_append]; omega
      have HKL := hid hkl
      rw [HTD.out]
      clear hkl
      go_wp2_with fail
      refine HFN.out.mono ?_
      rintro e w4 ⟨a4, c4, rfl, hE4, hr4, hu4⟩
      simp only [List.length_nil]
      obtain ⟨W5, hW5⟩ : ∃ W5, W5 = w4.alloc (.cells #[.int .i64 0, .slice a4 0 c4] 34) := ⟨_, rfl⟩
      have HWE5 := hid hW5
      have hB5 : Below w4.heap.size w4 W5 := by rw [hW5]; exact (Below.refl _ _).alloc (Nat.le_refl _) _
      have hU5 : But w2.heap.size wr W5 := hu4.trans (But.of hB5)
      have HO5 := hid ((HO.out.but hU5 (by omega) fun k (hk : w2.heap.size + 1 ≤ k) => by omega))
      have HU5 := hid (show But w2.heap.size W3 W5 from HU.out.trans hU5)
      have hp5 := HU5.out.obj (bk_low HB13.out HP.out) (by have := HW1S.out; have := HW12.out; omega)
      have hr5 := HU5.out.obj (bk_low HB13.out HR.out) (by have := HW1S.out; have := HW12.out; omega)
      have HP5 := hid hp5
      have HR5 := hid hr5
      have HBW := hid (show Below W1.heap.size W1 W5 from HB13.out.trans (HU5.out.below (by have := HW12.out; omega) HB13.out.size))
      obtain ⟨q0, q1, _, _⟩ := bk_box2 hp5
      have HCL := hid (fun (u : World) (hu : Below W5.heap.size W5 u) => show Calls Tryd.prog 24 #[.slice a D.length c] u (TpC u D) by
        have hb : BysM Q u (.slice a D.length c) (L.take D.length) := ((HH.out.next HBW.out).next hu).take hDL
        have e : L.take D.length = D := by rw [HLD.out, HD.out]; simp
        rw [e] at hb
        exact clone_by a c D Q u hb (by omega))
      clear hE4 hr4 hu4 hW5 hB5 hU5 hp5 hr5
      have b0 : (0 : Int) ≤ (D.length : Int) := by omega
      have b1 : (D.length : Int) ≤ (c : Int) := by omega
      have HSV := hid (show sm = min s (D.length : Int) by rw [HSM.out]; unfold minI; rfl)
      go_upto_region 10 with fail
      rw [← HWE5.out]
      go_region_held3 (fun w' => w'.cell? ⟨w.heap.size, 0, none⟩ = some (.slice a L.length c) ∧ w'.cell? ⟨w.heap.size, 1, none⟩ = some (.int .i64 s)) (go_keep)
        (first
          | (go_at_call 24
             with_reducible refine (HCL.out W5.drew (Below.refl _ _).drew).mono ?_
             rintro e w6 ⟨a6, c6, rfl, hO6, hb6⟩
             have hb6' : Below W5.heap.size W5 w6 := (Below.refl _ _).drew.trans hb6
             obtain ⟨z0, z1, _, _⟩ := bk_box2 (bk_low hb6' HP5.out)
             have hr6 := bk_low hb6' HR5.out
             obtain ⟨r0, r1, f0, f1⟩ := bk_box2 hr6
             obtain ⟨m0, m1, _, _⟩ := bk_box2 (bk_put (u0 := .slice a6 D.length c6) (u1 := .int .i64 (min s (D.length : Int))) hr6)
             have HB6 := hid hb6'
             have HO6 := hid hO6
             clear hO6 hb6 hb6' hr6)
          | fail)
      all_goals
        have HE := hid (show RcP w bs D sm (.returned (.tuple #[.slice a9 k c9, .agg #[.slice a6 D.length c6, .int .i64 (min s (D.length : Int))], .int .i64 0])) ((w6.setCell ⟨w.heap.size + 1, 0, none⟩ (.slice a6 D.length c6)).setCell ⟨w.heap.size + 1, 1, none⟩ (.int .i64 (min s (D.length : Int)))) by
          have h0 := HB1.out.trans ((HBW.out.trans (HB6.out.mono HBW.out.size)).mono HB1.out.size)
          have h1 := HW1S.out
          have h2 := HW12.out
          have h3 := HBW.out.size
          rw [HSV.out]
          refine ⟨a9, c9, a6, c6, by rw [← HKL.out], ?_, ?_, (h0.setCell (Nat.le_succ _) _).setCell (Nat.le_succ _) _⟩
          · have ho := HO5.out.keep HB6.out
            rw [HBT.out] at ho
            rw [← HKL.out]
            have ho2 : OwnBs (w2.heap.size + 1) (fun k => w2.heap.size + 1 ≤ k) ((w6.setCell ⟨w.heap.size + 1, 0, none⟩ (.slice a6 D.length c6)).setCell ⟨w.heap.size + 1, 1, none⟩ (.int .i64 (min s (D.length : Int)))) (.slice a9 k c9) bs := (ho.but (bk_butset (b := w.heap.size + 1) w6 0 _) (by omega) (fun k (hk : w2.heap.size + 1 ≤ k) => by omega)).but (bk_butset (b := w.heap.size + 1) _ 1 _) (by omega) (fun k (hk : w2.heap.size + 1 ≤ k) => by omega)
            exact ho2.bats (by omega)
          · refine bk_base (B := W5.heap.size) (bk_keep HO6.out fun g hg => ?_) (by omega)
            have := (World.ownsRow.lt HO6.out g hg).1
            have h4 : W5.drew.heap.size = W5.heap.size := rfl
            exact (bk_other (by omega)).trans (bk_other (by omega)))
        clear HO6 HB6
        go_wp2
        refine bodyPost_ret (v := .tuple #[.slice a9 k c9, .agg #[.slice a6 D.length c6, .int .i64 (min s (D.length : Int))], .int .i64 0]) (by simp [results, Tryd.results12, go_sem, *]) rfl ?_
        exact HE.out
end Go.Proofs.YtneikogloopodaaDoor

namespace Go.Proofs.YtneikogloopodaaDoor
open Go.RowKit Go.Proofs

/-- A tape that a call has handed back, in its variable. -/
def TpB (wr : World) (l : List UInt8) (s er : Int) (p v : Value) (wx : World) : Prop := ∃ pn a c, p = .pointer (some ⟨pn, 0, none⟩) ∧ v = .int .i64 er ∧ wx.heap[pn]? = some (.cells #[.slice a l.length c, .int .i64 s] 40) ∧ wr.heap.size ≤ pn ∧ BysM (fun k => wr.heap.size ≤ k ∧ k ≠ pn) wx (.slice a l.length c) l ∧ Below wr.heap.size wr wx
theorem tpb_call {wr u w3 : World} {l : List UInt8} {s er : Int} {a : Option Addr} {c : Nat} (hl : l.length ≤ 1000000) (hu : Below wr.heap.size wr u) (hO : w3.ownsRow u.heap.size 5 1 (.slice a l.length c) l.length (byC l)) (hb : Below u.heap.size u w3) :
    TpB wr l s er (.pointer (some ⟨w3.heap.size, 0, none⟩)) (.int .i64 er) (w3.alloc (.cells #[.slice a l.length c, .int .i64 s] 40)) := by
  have hb' := hu.trans (hb.mono hu.size)
  have h1 := hu.size
  have h2 := hb.size
  refine ⟨w3.heap.size, a, c, rfl, rfl, heap_alloc_new w3 _, by omega, ?_, hb'.alloc hb'.size _⟩
  have hq : BysM (fun k => u.heap.size ≤ k ∧ k < w3.heap.size) w3 (.slice a l.length c) l := own_by hO rfl (by unfold maxLen; omega) fun g hg => World.ownsRow.lt hO g hg
  exact hq.imp (fun k hk => ⟨by omega, by omega⟩) fun k hk _ => Below.heap_alloc _ _ _ hk
theorem tpb_set {wr u w3 : World} {l : List UInt8} {s er : Int} {a : Option Addr} {c : Nat} {v0 v1 : Value} (hl : l.length ≤ 1000000) (hu : Below wr.heap.size wr u) (hp : wr.heap.size < u.heap.size) (hO : w3.ownsRow u.heap.size 5 1 (.slice a l.length c) l.length (byC l)) (hb : Below u.heap.size u w3) (h3 : w3.heap[wr.heap.size]? = some (.cells #[v0, v1] 40)) :
    TpB wr l s er (.pointer (some ⟨wr.heap.size, 0, none⟩)) (.int .i64 er) ((w3.setCell ⟨wr.heap.size, 0, none⟩ (.slice a l.length c)).setCell ⟨wr.heap.size, 1, none⟩ (.int .i64 s)) := by
  have hb' := hu.trans (hb.mono hu.size)
  refine ⟨wr.heap.size, a, c, rfl, rfl, bk_put h3, Nat.le_refl _, ?_, (hb'.setCell (Nat.le_refl _) _).setCell (Nat.le_refl _) _⟩
  have hq : BysM (fun k => u.heap.size ≤ k ∧ k < w3.heap.size) w3 (.slice a l.length c) l := own_by hO rfl (by unfold maxLen; omega) fun g hg => World.ownsRow.lt hO g hg
  exact hq.imp (fun k hk => ⟨by omega, by omega⟩) fun k _ hk => (bk_other (by omega)).trans (bk_other (by omega))
/-- What taped hands back. -/
def TdP (w : World) (l : List UInt8) (e : Ending) (w' : World) : Prop := ∃ a c, e = .returned (.tuple #[.agg #[.slice a l.length c, .int .i64 0], .bool true]) ∧ BysM (fun k => w.heap.size ≤ k) w' (.slice a l.length c) l ∧ Below w.heap.size w w'
/-- The tape so far, in the variable that steps on. -/
def TdI (B : Nat) (wr : World) (l : List UInt8) : Prop := ∃ a c, wr.heap[B + 1]? = some (.cells #[.slice a l.length c, .int .i64 0] 40) ∧ wr.heap[B]? = some (.cells #[.slice none 0 0, .int .i64 0] 40) ∧ BysM (fun k => B + 2 ≤ k) wr (.slice a l.length c) l
theorem tapeT_step {bs : List Bat} {k : Nat} {x : Bat} (h : bs[k]? = some x) : tapeT bs (k + 1) = tapeT bs k ++ frB x := by
  have hk : k < bs.length := (List.getElem?_eq_some_iff.1 h).1
  unfold tapeT
  rw [List.take_succ_eq_append_getElem hk, (List.getElem?_eq_some_iff.1 h).2, tapeB_app]
  simp [tapeB]
theorem tapeT_len (bs : List Bat) (k : Nat) : (tapeT bs k).length ≤ (tapeB bs).length := by
  rw [← tape_parts bs k, List.length_append]; omega
set_option maxHeartbeats 1000000 in
set_option maxRecDepth 100000 in
theorem taped_any (bs : List Bat) (ab : Option Addr) (cb : Nat) (Q : Nat → Prop) (w : World) (h : BatsM Q w (.slice ab bs.length cb) bs) (hok : ∀ b ∈ bs, BatOk b) (hl : (tapeB bs).length ≤ 100000) (hbn : bs.length ≤ 100000) :
    Calls Tryd.prog 10 #[.slice ab bs.length cb] w (TdP w (tapeB bs)) := by
  obtain ⟨W1, hW1⟩ : ∃ W1, W1 = (w.alloc (.cells #[.slice none 0 0, .int .i64 0] 40)).alloc (.cells #[.slice none 0 0, .int .i64 0] 40) := ⟨_, rfl⟩
  have HWE := hid hW1
  have hB1 : Below w.heap.size w W1 := by rw [hW1]; exact tp_low2 _ _ _
  have hN := tp_new2 w (.cells #[.slice none 0 0, .int .i64 0] 40) (.cells #[.slice none 0 0, .int .i64 0] 40)
  rw [← hW1] at hN
  have HI := hid (show TdI w.heap.size W1 (tapeT bs 0) from ⟨none, 0, hN.2, hN.1, BysM.nil _ _ _ _⟩)
  have HB1 := hid hB1
  have HBS := hid h
  have HOK := hid hok
  have HZ1 := hid (show W1.heap.size = w.heap.size + 2 by rw [hW1]; simp)
  have HTL := hid (fun k => Nat.le_trans (tapeT_len bs k) hl)
  obtain ⟨D, hD⟩ : ∃ D, D = tapeB bs := ⟨_, rfl⟩
  have HD := hid hD
  rw [← hD]
  clear h hok hW1 hB1 hN hl hD
  go_enter Tryd.func10, Tryd.ntmps10
  go_wp2
  rw [← HWE.out]
  go_loopw [5] (fun v wr => ∃ (k : Nat), k ≤ bs.length ∧ v = .int .i64 (k : Int) ∧ Hid (TdI w.heap.size wr (tapeT bs k)) ∧ Hid (Below w.heap.size w wr)) (fun v _ => bs.length - (intOf v).toNat)
  case atStart => exact ⟨0, Nat.zero_le _, rfl, HI, HB1⟩
  case round =>
    obtain ⟨k, hk, rfl, HT, HB⟩ := hrel
    obtain ⟨a, c, h1, h0, h2⟩ := HT.out
    obtain ⟨x0, x1, xf0, xf1⟩ := bk_box2 h1
    by_cases hlt : k < bs.length
    · have k1 : (k : Int) < (bs.length : Int) := by omega
      have k0 : (0 : Int) ≤ (k : Int) := by omega
      obtain ⟨x, hx⟩ : ∃ x, bs[k]? = some x := ⟨_, List.getElem?_eq_getElem hlt⟩
      obtain ⟨b, o, ae, ce, rfl, e0, e1, hE⟩ := (HBS.out.next HB.out).at hx
      have hTk := HTL.out k
      have hTk1 := HTL.out (k + 1)
      have HTS := hid (tapeT_step hx)
      rw [HTS.out] at hTk1
      have HAP := hid (fun u (hu : Below wr.heap.size wr u) => append_ok a c (tapeT bs k) 0 x ae ce _ _ u (h2.next hu) (by unfold mayN; simp; omega) (HOK.out x (List.mem_of_getElem? hx)) (hE.next hu) (by rw [List.length_append] at hTk1; exact hTk1))
      rw [← HTS.out] at HAP hTk1
      have hfp : (tapeT bs k).length < (tapeT bs (k + 1)).length := by rw [HTS.out, List.length_append, frB_len]; omega
      have HBA := hid (show Below wr.heap.size wr (wr.alloc (.cells #[.slice none 0 0, .int .i64 0] 40)).drew from ((Below.refl wr.heap.size wr).alloc (Nat.le_refl _) _).drew)
      have HNA := hid (show (wr.alloc (.cells #[.slice none 0 0, .int .i64 0] 40)).drew.heap[wr.heap.size]? = some (.cells #[.slice none 0 0, .int .i64 0] 40) from heap_alloc_new wr _)
      have hqw : w.heap.size + 1 < wr.heap.size := (Array.getElem?_eq_some_iff.1 h1).1
      have hne0 : w.heap.size + 1 ≠ wr.heap.size := by omega
      have hneb : b ≠ wr.heap.size := Nat.ne_of_lt (World.block_lt_of_cell? _ _ e0)
      have HL1 := hid (show (tapeT bs (k + 1)).length ≤ 1000000 by omega)
      clear hx h1 h0 h2 hE hTk
      go_upto_region 5 with fail
      go_cut [6, 7] (fun p v wx => TpB wr (tapeT bs (k + 1)) 0 0 p v wx)
      case first =>
        go_region_held3 (fun w' => w'.cell? ⟨w.heap.size + 1, 0, none⟩ = some (.slice a (tapeT bs k).length c) ∧ w'.cell? ⟨w.heap.size + 1, 1, none⟩ = some (.int .i64 0) ∧ w'.cell? ⟨b, o + k * 2, none⟩ = some (.int .i64 x.user) ∧ w'.cell? ⟨b, o + k * 2 + 1, none⟩ = some (.slice ae x.ents.length ce))
          (first | (go_keep; done) | exact ⟨far2 hne0 r0, far2 hne0 r1, far2 hneb r2, far2 hneb r3⟩ | fail)
          (first
            | (go_at_call 14
               with_reducible refine (HAP.out wr.drew ((Below.refl _ _).drew)).mono ?_
               rintro e w3 ⟨a3, c3, rfl, hO3, hb3⟩
               have hb := (Below.refl wr.heap.size wr).drew.trans hb3
               have HAR := hid (tpb_call (s := 0) (er := 0) HL1.out ((Below.refl wr.heap.size wr).drew) hO3 hb3)
               have r0 := wcell_next x0 hb
               have r1 := wcell_next x1 hb
               have r2 := wcell_next e0 hb
               have r3 := wcell_next e1 hb
               clear hO3 hb3 hb)
            | (go_at_call 14
               with_reducible refine (HAP.out ((wr.alloc (.cells #[.slice none 0 0, .int .i64 0] 40)).drew) HBA.out).mono ?_
               rintro e w3 ⟨a3, c3, rfl, hO3, hb3⟩
               have hb := HBA.out.trans (hb3.mono HBA.out.size)
               have HPe := bk_low hb3 HNA.out
               have HAR := hid (tpb_set (s := 0) (er := 0) HL1.out HBA.out (Array.getElem?_eq_some_iff.1 HNA.out).1 hO3 hb3 HPe)
               obtain ⟨t0', t1', f0', f1'⟩ := bk_box2 HPe
               have r0 := wcell_next x0 hb
               have r1 := wcell_next x1 hb
               have r2 := wcell_next e0 hb
               have r3 := wcell_next e1 hb
               clear hO3 hb3 hb HPe)
            | fail)
        all_goals
          go_wp2_with fail
          go_meet
          exact HAR.out
      case rest =>
        obtain ⟨pn, a4, c4, rfl, rfl, hp, hpn, hv, hb⟩ := hcut
        obtain ⟨y0, y1, _, _⟩ := bk_box2 hp
        have z0 := wcell_next x0 hb
        have z1 := wcell_next x1 hb
        obtain ⟨a, c, h1, h0, h2⟩ := HT.out
        obtain ⟨_, _, zf0, zf1⟩ := bk_box2 (bk_low hb h1)
        have k2 : ¬ (((tapeT bs (k + 1)).length : Nat) : Int) ≤ (((tapeT bs k).length : Nat) : Int) := by omega
        have HT2 := hid (show TdI w.heap.size ((wc.setCell ⟨w.heap.size + 1, 0, none⟩ (.slice a4 (tapeT bs (k + 1)).length c4)).setCell ⟨w.heap.size + 1, 1, none⟩ (.int .i64 0)) (tapeT bs (k + 1)) by
          refine ⟨a4, c4, bk_put (bk_low hb h1), (bk_other (by omega)).trans ((bk_other (by omega)).trans (bk_low hb h0)), ?_⟩
          exact hv.imp (fun k hk => by have := hk.1; omega) fun k _ hk => (bk_other (by have := hk.1; omega)).trans (bk_other (by have := hk.1; omega)))
        have HB2 := hid (show Below w.heap.size w ((wc.setCell ⟨w.heap.size + 1, 0, none⟩ (.slice a4 (tapeT bs (k + 1)).length c4)).setCell ⟨w.heap.size + 1, 1, none⟩ (.int .i64 0)) from ((HB.out.trans (hb.mono HB.out.size)).setCell (Nat.le_succ _) _).setCell (Nat.le_succ _) _)
        clear hb hp hv h1 h0 h2 x0 x1 xf0 xf1
        go_wp2
        go_roundw
        case rel => first | exact ⟨k + 1, by omega, by go_num, HT2, HB2⟩ | ((repeat apply Exists.intro); exact ⟨⟨k + 1, by omega, by go_num, HT2, HB2⟩, rfl⟩)
        case measure => simp [intOf]; omega
    · have k1 : ¬ (k : Int) < (bs.length : Int) := by omega
      have HTD := hid (show tapeT bs k = D by rw [HD.out]; unfold tapeT; rw [List.take_of_length_le (by omega)])
      rw [HTD.out] at h1 h2 x0
      obtain ⟨_, _, rf0, rf1⟩ := bk_box2 h0
      obtain ⟨s0, s1, _, _⟩ := bk_box2 (bk_put (u0 := .slice a D.length c) (u1 := .int .i64 0) h0)
      have HE := hid (show TdP w D (.returned (.tuple #[.agg #[.slice a D.length c, .int .i64 0], .bool true])) ((wr.setCell ⟨w.heap.size, 0, none⟩ (.slice a D.length c)).setCell ⟨w.heap.size, 1, none⟩ (.int .i64 0)) from
        ⟨a, c, rfl, h2.imp (fun k (hk : w.heap.size + 2 ≤ k) => (by omega : w.heap.size ≤ k)) fun k _ hk => (bk_other (by omega)).trans (bk_other (by omega)), (HB.out.setCell (Nat.le_refl _) _).setCell (Nat.le_refl _) _⟩)
      obtain ⟨_, _, _, _⟩ := bk_box2 h0
      obtain ⟨v0, v1, _, _⟩ := bk_box2 h0
      clear h1 h2 h0
      go_wp2
      refine bodyPost_ret (v := .tuple #[.agg #[.slice a D.length c, .int .i64 0], .bool true]) (by simp [results, Tryd.results10, go_sem, *]) rfl ?_
      exact HE.out
end Go.Proofs.YtneikogloopodaaDoor
