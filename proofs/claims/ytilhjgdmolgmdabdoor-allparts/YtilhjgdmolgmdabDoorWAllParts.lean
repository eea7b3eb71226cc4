/-
  A batch is done whole, or not at all: walked.
-/
import Derived.Test.YtilhjgdmolgmdabDoorBoxEo
import Derived.Test.YtilhjgdmolgmdabDoorBoxSm
namespace Go.Proofs.YtilhjgdmolgmdabDoor
open Go.RowKit Go.Proofs

/-- The state so far, in the variable that steps on. -/
def UI (q B : Nat) (wr : World) (s : Stt) : Prop := ∃ ab nb cb ae ns cs, wr.heap[q]? = some (.cells #[.slice ab nb cb, .slice ae ns cs] 26) ∧ SttM (fun k => k ≠ q) wr (.slice ab nb cb) (.slice ae ns cs) s ∧ B ≤ q
theorem UI.same {q B : Nat} {wr wx : World} {s : Stt} (h : UI q B wr s) (hb : Below wr.heap.size wr wx) : UI q B wx s := by
  obtain ⟨ab, nb, cb, ae, ns, cs, h1, h2, h3⟩ := h
  exact ⟨ab, nb, cb, ae, ns, cs, low_obj hb h1, h2.next hb, h3⟩
theorem UI.step {q B : Nat} {wr wx : World} {s s' : Stt} {n1 c1 n2 c2 : Nat} {a1 a2 : Option Addr} {vm : List Value} (h : UI q B wr s) (hM : May s') (hb : Below wr.heap.size wr wx) (hO : OwnS wr.heap.size wx (.slice a1 n1 c1) (.slice a2 n2 c2) vm s') :
    UI q B ((wx.setCell ⟨q, 0, none⟩ (.slice a1 n1 c1)).setCell ⟨q, 1, none⟩ (.slice a2 n2 c2)) s' := by
  obtain ⟨ab, nb, cb, ae, ns, cs, h1, _, h4⟩ := h
  have hql : q < wr.heap.size := (Array.getElem?_eq_some_iff.1 h1).1
  have hS := hO.stt (Q := fun k => k ≠ q) hM (fun g hg => by have := (hO.lt hg).1; omega)
  exact ⟨a1, n1, c1, a2, n2, c2, set2_block (low_obj hb h1), hS.imp (fun _ h => h) ((Keeps.set wx (p := ⟨q, 0, none⟩) _ fun b hb => hb).trans (Keeps.set _ (p := ⟨q, 1, none⟩) _ fun b hb => hb)), h4⟩
theorem low_set2 {B q : Nat} {w u : World} {x y : Value} (h : Below B w u) (hq : B ≤ q) : Below B w ((u.setCell ⟨q, 0, none⟩ x).setCell ⟨q, 1, none⟩ y) := (h.setCell hq _).setCell hq _
theorem make11 : ∃ O : Obj, ∀ W : World, (Instr.makeSlice 24 (.int .i64 11) (.int .i64 11)).run Tryd.prog W = .ok (.slice (some ⟨W.heap.size, 0, none⟩) 11 11) (W.alloc O) := by
  obtain ⟨i0, hi, hz0, hz1, hz2⟩ := info_parts infoEn
  exact ⟨_, fun W => run_make (P := Tryd.prog) W 24 34 i0 _ Tryd.underlying24 hi hz0 .i64 .i64 11 11 (by decide) (by decide) (by rw [hz2]; decide) (by decide)⟩
set_option maxHeartbeats 2000000 in
set_option maxRecDepth 100000 in
theorem allParts_walk (w : World) (_hm : maxLenCell w) (a : Option Addr) (c : Nat) (ls : List Chr) (hF : ChsM (fun _ => True) w (.slice a ls.length c) ls) (hB : ∀ x ∈ ls, chrW x) (a' : Option Addr) (c' : Nat) (ms : List Chr) (hF' : ChsM (fun _ => True) w (.slice a' ms.length c') ms) (hB' : ∀ x ∈ ms, chrW x) :
    Calls Tryd.prog 3 #[.slice a ls.length c, .slice a' ms.length c'] w fun e w' => e = .returned (.bool true) ∧ Below w.heap.size w w' := by
  have HM := hid (stateP_may ls)
  have HST := hid (state_any ls a c w _ hF hB)
  have HEO := hid (fun u (hu : Below w.heap.size w u) => entriesOf_any ms a' c' 10 u _ (hF'.next hu) hB' (by decide))
  generalize stateP ls = s at *
  obtain ⟨xs, hxs⟩ : ∃ xs, xs = entsK ms 10 := ⟨_, rfl⟩
  have hx10 : xs.length ≤ 10 := by rw [hxs]; unfold entsK; simp; omega
  have HXF := hid (show ∀ x ∈ xs, Formed x by rw [hxs]; unfold entsK; intro x hx; obtain ⟨y, _, rfl⟩ := List.mem_map.1 hx; exact entP_formed y)
  rw [← hxs] at HEO
  clear hF hB hF' hB' hxs
  go_enter Tryd.func3, Tryd.ntmps3
  go_wp2_with fail
  refine HST.out.mono ?_
  rintro e w1 ⟨ab, nb, cb, aq, nq, cq, rfl, hS, hb1⟩
  simp only
  obtain ⟨ab', cb', e⟩ := RowM.slice hS.1
  simp only [Value.slice.injEq] at e
  obtain ⟨rfl, rfl, rfl⟩ := e
  obtain ⟨aq', cq', e⟩ := RowM.slice hS.2.1
  simp only [Value.slice.injEq] at e
  obtain ⟨rfl, rfl, rfl⟩ := e
  obtain ⟨W2, hW2⟩ : ∃ W2, W2 = w1.alloc (.cells #[.slice ab s.boxes.length cb, .slice aq s.spool.length cq] 26) := ⟨_, rfl⟩
  have HWE2 := hid hW2
  have hB2 : Below w1.heap.size w1 W2 := by rw [hW2]; exact (Below.refl _ _).alloc (Nat.le_refl _) _
  have HB2 := hid (show Below w.heap.size w W2 from hb1.trans (hB2.mono hb1.size))
  have s0 : W2.cell? ⟨w1.heap.size, 0, none⟩ = some (.slice ab s.boxes.length cb) := by rw [hW2]; simp
  have s1 : W2.cell? ⟨w1.heap.size, 1, none⟩ = some (.slice aq s.spool.length cq) := by rw [hW2]; simp
  have HS := hid (hS.next hB2)
  have HEO2 := hid (HEO.out W2 HB2.out)
  clear hS hW2 hB2 hb1 HEO
  go_upto_region 2 with fail
  rw [← HWE2.out]
  go_wp2_with fail
  refine HEO2.out.mono ?_
  rintro e w3 ⟨ax, cx, rfl, hX, hb3⟩
  simp only
  have s0 := wcell_next s0 hb3
  have s1 := wcell_next s1 hb3
  have HX := hid hX
  have HS3 := hid (HS.out.next hb3)
  have HW13 := hid (World.block_lt_of_cell? _ _ s0)
  have HB3 := hid (show Below w.heap.size w w3 from HB2.out.trans (hb3.mono HB2.out.size))
  have HAL := hid (all_any s _ _ xs ax cx w3 (fun _ => True) (HS3.out.imp (fun _ _ => trivial) (Keeps.refl _ _)) HM.out hX hx10 HXF.out)
  clear hb3 hX
  go_wp2_with fail
  refine HAL.out.mono ?_
  intro e w5 hA
  have hb5 := hA.1
  obtain ⟨a1, n1, d1, a2, n2, d2, z, rfl, hR⟩ := hA.form
  simp only
  obtain ⟨W6, hW6⟩ : ∃ W6, W6 = (w5.alloc (.cells #[.slice a1 n1 d1, .slice a2 n2 d2] 26)).alloc (.cells #[.slice ab s.boxes.length cb, .slice aq s.spool.length cq] 26) := ⟨_, rfl⟩
  have HWE6 := hid hW6
  have hB6 : Below w5.heap.size w5 W6 := by rw [hW6]; exact ((Below.refl _ _).alloc (Nat.le_refl _) _).alloc (by simp) _
  have hT6 : W6.heap[w5.heap.size]? = some (.cells #[.slice a1 n1 d1, .slice a2 n2 d2] 26) := by rw [hW6, heap_alloc_old _ _ (by simp), heap_alloc_new]
  have hU6 : W6.heap[w5.heap.size + 1]? = some (.cells #[.slice ab s.boxes.length cb, .slice aq s.spool.length cq] 26) := by rw [hW6]; have := heap_alloc_new (w5.alloc (.cells #[.slice a1 n1 d1, .slice a2 n2 d2] 26)) (.cells #[.slice ab s.boxes.length cb, .slice aq s.spool.length cq] 26); simpa using this
  have hB36 : Below w3.heap.size w3 W6 := hb5.trans (hB6.mono hb5.size)
  have s0a := wcell_more (wcell_next s0 hb5) (.cells #[.slice a1 n1 d1, .slice a2 n2 d2] 26)
  have s1a := wcell_more (wcell_next s1 hb5) (.cells #[.slice a1 n1 d1, .slice a2 n2 d2] 26)
  have hne5 : w1.heap.size ≠ w5.heap.size := Nat.ne_of_lt (World.block_lt_of_cell? _ _ (wcell_next s0 hb5))
  have hXL : EntsM (fun k => k < w3.heap.size) w3 (.slice ax xs.length cx) xs := RowM.lows HX.out fun _ _ h => h
  have HX6 := hid (EntsM.next hXL hB36)
  clear hXL
  have HS6 := hid (HS3.out.lows.next hB36)
  have HB6 := hid (show Below w.heap.size w W6 from HB3.out.trans (hB36.mono HB3.out.size))
  have hz35 : w3.heap.size ≤ w5.heap.size := hb5.size
  have HUI := hid (show UI (w5.heap.size + 1) (w5.heap.size + 1) W6 s from ⟨_, _, _, _, _, _, hU6, HS6.out.imp (fun b hb => by omega) (Keeps.refl _ _), Nat.le_refl _⟩)
  have HER := hid (fun q (h : allM s xs = .error q) => show z = q ∧ n1 = 0 by
    have hR' := hR
    rw [h] at hR'
    refine ⟨hR'.1, ?_⟩
    have := hR'.2.1
    simp only [Value.slice.injEq] at this
    exact this.2.1)
  have HOK := hid (fun s' (h : allM s xs = .ok s') => show z = 0 ∧ SttM (fun k => k < w5.heap.size) W6 (.slice a1 n1 d1) (.slice a2 n2 d2) s' by
    have hR' := hR
    rw [h] at hR'
    obtain ⟨h0, vm, hO⟩ := hR'
    exact ⟨h0, (hO.stt (Q := fun k => k < w5.heap.size) (allM_may HM.out HXF.out h) (fun g hg => (hO.lt hg).2)).next hB6⟩)
  obtain ⟨t0, t1, _, _⟩ := box2f hT6
  have s0 := wcell_next s0 hB36
  have s1 := wcell_next s1 hB36
  have h15 : w1.heap.size < w5.heap.size + 1 := by have h2 : w1.heap.size < w3.heap.size := HW13.out; omega
  have h55 : w5.heap.size < w5.heap.size + 1 := by omega
  obtain ⟨q, hq⟩ : ∃ q, q = w5.heap.size + 1 := ⟨_, rfl⟩
  have HQ := hid hq
  have hWq : q ≤ W6.heap.size := by have := (Array.getElem?_eq_some_iff.1 hU6).1; omega
  rw [← hq] at HUI h15 h55
  have HST6 := hid HS6.out
  clear hA hb5 hR hW6 hB6 hT6 hU6 hB36 hne5
  go_upto_region 5 with fail
  rw [← HWE6.out, ← HQ.out]
  clear s0a s1a
  clear hq
  go_wp2
  go_loopw [10] (fun v wr => ∃ (k : Nat) (sk : Stt), k ≤ xs.length ∧ v = .int .i64 k ∧ Hid (allM s (xs.take k) = .ok sk) ∧ Hid (UI q q wr sk) ∧ Hid (Below q W6 wr)) (fun v _ => xs.length - (intOf v).toNat)
  case atStart => exact ⟨0, s, Nat.zero_le _, rfl, rfl, HUI, Below.refl _ _⟩
  case round =>
    obtain ⟨k, sk, hk, rfl, HA, HU, HB⟩ := hrel
    have s0 := (HB.out.cell (p := ⟨w1.heap.size, 0, none⟩) h15).trans s0
    have s1 := (HB.out.cell (p := ⟨w1.heap.size, 1, none⟩) h15).trans s1
    have t0 := (HB.out.cell (p := ⟨w5.heap.size, 0, none⟩) h55).trans t0
    have t1 := (HB.out.cell (p := ⟨w5.heap.size, 1, none⟩) h55).trans t1
    have hMk : May sk := allM_may HM.out (fun y hy => HXF.out y (List.mem_of_mem_take hy)) HA.out
    obtain ⟨eb, nb, db, ee, ns, ds, h1, h2, h3⟩ := HU.out
    obtain ⟨z0, z1, zf0, zf1⟩ := box2f h1
    have hqw : q < wr.heap.size := (Array.getElem?_eq_some_iff.1 h1).1
    have HXr := hid (show EntsM (fun k => k < w3.heap.size) wr (.slice ax xs.length cx) xs from HX6.out.imp (fun _ h => h) ⟨HB.out.size, fun b _ hb => HB.out.block b (by omega)⟩)
    have HSr := hid (show SttM (fun k => k < w3.heap.size) wr (.slice ab s.boxes.length cb) (.slice aq s.spool.length cq) s from HST6.out.imp (fun _ h => h) ⟨HB.out.size, fun b _ hb => HB.out.block b (by omega)⟩)
    have HBr := hid (show Below w.heap.size w wr from HB6.out.trans (HB.out.mono (by have := HB3.out.size; omega)))
    by_cases hlt : k < xs.length
    · have k1 : (k : Int) < (xs.length : Int) := by omega
      have k0 : (0 : Int) ≤ (k : Int) := by omega
      obtain ⟨x, hx⟩ : ∃ x, xs[k]? = some x := ⟨_, List.getElem?_eq_getElem hlt⟩
      obtain ⟨b, o, rfl, _, e0, e1, e2, e3, e4, e5⟩ := HXr.out.at hx
      have hne0 : q ≠ wr.heap.size := by omega
      have hneb : b ≠ wr.heap.size := Nat.ne_of_lt (World.block_lt_of_cell? _ _ e0)
      have hFx := HXF.out x (List.mem_of_getElem? hx)
      have HAP := hid (fun u (hu : Below wr.heap.size wr u) => apply_any sk (.slice eb nb db) (.slice ee ns ds) x u _ (h2.next hu) hMk hFx)
      have HBA := hid (show Below wr.heap.size wr (wr.alloc (.cells #[.slice none 0 0, .slice none 0 0] 26)).drew from ((Below.refl wr.heap.size wr).alloc (Nat.le_refl _) _).drew)
      have HNA := hid (show (wr.alloc (.cells #[.slice none 0 0, .slice none 0 0] 26)).drew.heap[wr.heap.size]? = some (.cells #[.slice none 0 0, .slice none 0 0] 26) from heap_alloc_new wr _)
      have HNX := hid (fun s' (h : doM sk x = .ok s') => (allM_step HA.out hx).trans h)
      have HSTP := hid (fun y (h : doM sk x = .error y) => allM_stop HA.out hx h)
      have HMx := hid (fun s' (h : doM sk x = .ok s') => doM_may hMk hFx h)
      clear hx h1 h2 hMk hFx
      go_wp2
      go_cut [11, 12] (fun p v wx => NxP wr (doM sk x) p v wx)
      case first =>
        go_region_held3 (fun w' => w'.cell? ⟨q, 0, none⟩ = some (.slice eb nb db) ∧ w'.cell? ⟨q, 1, none⟩ = some (.slice ee ns ds) ∧ w'.cell? ⟨b, o + k * 6, none⟩ = some (.int .i64 x.kind) ∧ w'.cell? ⟨b, o + k * 6 + 1, none⟩ = some (.string (S x.box)) ∧ w'.cell? ⟨b, o + k * 6 + 2, none⟩ = some (.int .i64 x.uid) ∧ w'.cell? ⟨b, o + k * 6 + 3, none⟩ = some (.int .i64 x.flags) ∧ w'.cell? ⟨b, o + k * 6 + 4, none⟩ = some (.string (S x.goal)) ∧ w'.cell? ⟨b, o + k * 6 + 5, none⟩ = some (.string (S x.text)))
          (first | (go_keep; done) | exact ⟨far2 hne0 r0, far2 hne0 r1, far2 hneb r2, far2 hneb r3, far2 hneb r4, far2 hneb r5, far2 hneb r6, far2 hneb r7⟩ | fail)
          (first
            | (go_at_call 8
               with_reducible refine (HAP.out wr.drew ((Below.refl _ _).drew)).mono ?_
               intro e w3' hA
               have hb := (Below.refl wr.heap.size wr).drew.trans hA.1
               obtain ⟨b1, m1, c1, b2, m2, c2, zz, rfl, hR⟩ := hA.form
               have HAR := hid hR
               have HBf := hid hb
               have HFst := hid (show wr.drew.heap.size = wr.heap.size from rfl)
               have r0 := wcell_next z0 hb
               have r1 := wcell_next z1 hb
               have r2 := wcell_next e0 hb
               have r3 := wcell_next e1 hb
               have r4 := wcell_next e2 hb
               have r5 := wcell_next e3 hb
               have r6 := wcell_next e4 hb
               have r7 := wcell_next e5 hb
               clear hA hb hR)
            | (go_at_call 8
               with_reducible refine (HAP.out ((wr.alloc (.cells #[.slice none 0 0, .slice none 0 0] 26)).drew) HBA.out).mono ?_
               intro e w3' hA
               have hb := HBA.out.trans (hA.1.mono HBA.out.size)
               obtain ⟨b1, m1, c1, b2, m2, c2, zz, rfl, hR⟩ := hA.form
               have HAR := hid hR
               have HBf := hid hb
               have HPe := hid (low_obj hA.1 HNA.out)
               obtain ⟨t0', t1', f0', f1'⟩ := box2f HPe.out
               have r0 := wcell_next z0 hb
               have r1 := wcell_next z1 hb
               have r2 := wcell_next e0 hb
               have r3 := wcell_next e1 hb
               have r4 := wcell_next e2 hb
               have r5 := wcell_next e3 hb
               have r6 := wcell_next e4 hb
               have r7 := wcell_next e5 hb
               clear hA hb hR)
            | fail)
        all_goals
          go_wp2_with fail
          go_meet
          first
            | exact nx_end (p := w3'.heap.size) (heap_alloc_new w3' _) (fun k hk _ => heap_alloc_old w3' _ hk) (HBf.out.alloc HBf.out.size _) HAR.out (Nat.le_refl _) HBf.out.size (fun vm s' hO hg => by have := (hO.lt hg).2; omega)
            | exact nx_end (p := wr.heap.size) (set2_block HPe.out) (fun k hk hne => (set_other hne).trans (set_other hne)) ((HBf.out.setCell (Nat.le_refl _) _).setCell (Nat.le_refl _) _) HAR.out HBA.out.size (Nat.le_refl _) (fun vm s' hO hg => by have h1 := (hO.lt hg).1; simp at h1; omega)
            | fail
      case rest =>
        obtain ⟨pn, b1, m1, c1, b2, m2, c2, zz, rfl, rfl, hp, hpn, hb, hr⟩ := hcut
        obtain ⟨y0, y1, _, _⟩ := box2f hp
        cases hd : doM sk x with
        | error er =>
          rw [hd] at hr
          have hz : zz = er := hr
          subst hz
          have hzn : ¬ zz = 0 := doM_err hd
          have hz' : (zz == 0) = false := by simp [hzn]
          obtain ⟨hze, hn1⟩ := HER.out zz (HSTP.out zz hd)
          subst hze
          subst hn1
          have t0 := wcell_next t0 hb
          have HE := hid (show Below w.heap.size w wc from HBr.out.trans (hb.mono HBr.out.size))
          clear hb hp hd hr HER HOK
          go_wp2
          go_ret
          exact ⟨ret_bool (by first | rfl | simp), HE.out⟩
        | ok s' =>
          rw [hd] at hr
          obtain ⟨hz, vm, hO⟩ := hr
          subst hz
          have HA2 := hid (HNX.out s' hd)
          have HU2 := hid (show UI q q ((wc.setCell ⟨q, 0, none⟩ (.slice b1 m1 c1)).setCell ⟨q, 1, none⟩ (.slice b2 m2 c2)) s' from HU.out.step (HMx.out s' hd) hb hO)
          have HB2 := hid (show Below q W6 ((wc.setCell ⟨q, 0, none⟩ (.slice b1 m1 c1)).setCell ⟨q, 1, none⟩ (.slice b2 m2 c2)) from low_set2 (HB.out.trans (hb.mono (by omega))) (Nat.le_refl _))
          obtain ⟨gb, gn, gd, ge, gs, gc, g1, _⟩ := HU.out
          obtain ⟨d0, d1', df0, df1⟩ := box2f (low_obj hb g1)
          clear hb hp hd hO g1
          go_wp2
          go_roundw
          case rel => first | exact ⟨k + 1, s', by omega, by go_num, HA2, HU2, HB2⟩ | ((repeat apply Exists.intro); exact ⟨⟨k + 1, s', by omega, by go_num, HA2, HU2, HB2⟩, rfl⟩)
          case measure => simp [intOf]; omega
    · have k1 : ¬ (k : Int) < (xs.length : Int) := by omega
      have hAk := HA.out
      rw [List.take_of_length_le (by omega)] at hAk
      obtain ⟨hz, hT⟩ := HOK.out sk hAk
      subst hz
      have HT := hid (show SttM (fun k => k < w5.heap.size) wr (.slice a1 n1 d1) (.slice a2 n2 d2) sk from hT.imp (fun _ h => h) ⟨HB.out.size, fun b _ hb => HB.out.block b (by omega)⟩)
      have HUk := hid h2
      have HLG := hid (fun u (p : Addr) (hu : Below wr.heap.size wr u) => all_long s _ _ (some p) 11 11 u _ (HSr.out.next hu) HM.out (by decide))
      obtain ⟨O11, hmk⟩ := make11
      clear hAk hT h1 h2 hMk HER HOK
      go_wp2
      go_cut [14] (fun v wx => v = .int .i64 1 ∧ Below wr.heap.size wr wx)
      case first =>
        have hz1 : w1.heap.size < wr.heap.size := World.block_lt_of_cell? _ _ s0
        have hne1 : w1.heap.size ≠ wr.heap.size := by omega
        have hne2 : w1.heap.size ≠ wr.heap.size + 1 := by omega
        have A1 : Hid (Below wr.heap.size wr (wr.alloc O11).drew) := ((Below.refl wr.heap.size wr).alloc (Nat.le_refl _) _).drew
        have A2 : Hid (Below wr.heap.size wr ((wr.alloc O11).drew.alloc (.cells #[.slice none 0 0, .slice none 0 0] 26))) := ((Below.refl wr.heap.size wr).alloc (Nat.le_refl _) _).drew.alloc (by simp) _
        have A3 : Hid (Below wr.heap.size wr ((wr.alloc O11).alloc (.cells #[.slice none 0 0, .slice none 0 0] 26)).drew) := (((Below.refl wr.heap.size wr).alloc (Nat.le_refl _) _).alloc (by simp) _).drew
        have A4 : Hid (Below wr.heap.size wr ((wr.alloc (.cells #[.slice none 0 0, .slice none 0 0] 26)).alloc O11).drew) := (((Below.refl wr.heap.size wr).alloc (Nat.le_refl _) _).alloc (by simp) _).drew
        have A5 : Hid (Below wr.heap.size wr ((wr.alloc (.cells #[.slice none 0 0, .slice none 0 0] 26)).drew.alloc O11)) := ((Below.refl wr.heap.size wr).alloc (Nat.le_refl _) _).drew.alloc (by simp) _
        have A6 : Hid (Below wr.heap.size wr (wr.drew.alloc O11)) := (Below.refl wr.heap.size wr).drew.alloc (Nat.le_refl _) _
        have A7 : Hid (Below wr.heap.size wr ((wr.drew.alloc O11).alloc (.cells #[.slice none 0 0, .slice none 0 0] 26))) := ((Below.refl wr.heap.size wr).drew.alloc (Nat.le_refl _) _).alloc (by simp) _
        have A8 : Hid (Below wr.heap.size wr ((wr.drew.alloc (.cells #[.slice none 0 0, .slice none 0 0] 26)).alloc O11)) := ((Below.refl wr.heap.size wr).drew.alloc (Nat.le_refl _) _).alloc (by simp) _
        have N3 : Hid (((wr.alloc O11).alloc (.cells #[.slice none 0 0, .slice none 0 0] 26)).drew.heap[wr.heap.size + 1]? = some (.cells #[.slice none 0 0, .slice none 0 0] 26)) := by
          have h1 := heap_alloc_new (wr.alloc O11) (.cells #[.slice none 0 0, .slice none 0 0] 26)
          have h2 : (wr.alloc O11).heap.size = wr.heap.size + 1 := by simp
          rw [h2] at h1
          exact h1
        have N4 : Hid (((wr.alloc (.cells #[.slice none 0 0, .slice none 0 0] 26)).alloc O11).drew.heap[wr.heap.size]? = some (.cells #[.slice none 0 0, .slice none 0 0] 26)) := by show ((wr.alloc (.cells #[.slice none 0 0, .slice none 0 0] 26)).alloc O11).heap[wr.heap.size]? = _; rw [heap_alloc_old _ _ (by simp), heap_alloc_new]
        go_region_held3 (fun w' => w'.cell? ⟨w1.heap.size, 0, none⟩ = some (.slice ab s.boxes.length cb) ∧ w'.cell? ⟨w1.heap.size, 1, none⟩ = some (.slice aq s.spool.length cq))
          (first | (go_keep; done) | exact ⟨far2 hne1 r0, far2 hne1 r1⟩ | exact ⟨far2 hne2 r0, far2 hne2 r1⟩ | fail)
          (first
            | (go_at_call 7
               with_reducible refine (HLG.out ((wr.alloc O11).drew) _ A1.out).mono ?_
               rintro e w9 ⟨hb, rfl⟩
               have HB9 := hid (A1.out.trans (hb.mono A1.out.size))
               have r0 := wcell_next s0 HB9.out
               have r1 := wcell_next s1 HB9.out
               clear hb)
            | (go_at_call 7
               with_reducible refine (HLG.out (wr.drew.alloc O11) _ A6.out).mono ?_
               rintro e w9 ⟨hb, rfl⟩
               have HB9 := hid (A6.out.trans (hb.mono A6.out.size))
               have r0 := wcell_next s0 HB9.out
               have r1 := wcell_next s1 HB9.out
               clear hb)
            | (go_at_call 7
               with_reducible refine (HLG.out (((wr.alloc O11).alloc (.cells #[.slice none 0 0, .slice none 0 0] 26)).drew) _ A3.out).mono ?_
               rintro e w9 ⟨hb, rfl⟩
               have HB9 := hid (A3.out.trans (hb.mono A3.out.size))
               have HPe := hid (low_obj hb N3.out)
               obtain ⟨t0', t1', f0', f1'⟩ := box2f HPe.out
               have r0 := wcell_next s0 HB9.out
               have r1 := wcell_next s1 HB9.out
               clear hb)
            | (go_at_call 7
               with_reducible refine (HLG.out (((wr.alloc (.cells #[.slice none 0 0, .slice none 0 0] 26)).alloc O11).drew) _ A4.out).mono ?_
               rintro e w9 ⟨hb, rfl⟩
               have HB9 := hid (A4.out.trans (hb.mono A4.out.size))
               have HPe := hid (low_obj hb N4.out)
               obtain ⟨t0', t1', f0', f1'⟩ := box2f HPe.out
               have r0 := wcell_next s0 HB9.out
               have r1 := wcell_next s1 HB9.out
               clear hb)
            | (go_at_call 7
               with_reducible refine (HLG.out ((wr.alloc O11).drew.alloc (.cells #[.slice none 0 0, .slice none 0 0] 26)) _ A2.out).mono ?_
               rintro e w9 ⟨hb, rfl⟩
               have HB9 := hid (A2.out.trans (hb.mono A2.out.size))
               have HPe := hid (low_obj hb N3.out)
               obtain ⟨t0', t1', f0', f1'⟩ := box2f HPe.out
               have r0 := wcell_next s0 HB9.out
               have r1 := wcell_next s1 HB9.out
               clear hb)
            | (go_at_call 7
               with_reducible refine (HLG.out ((wr.alloc (.cells #[.slice none 0 0, .slice none 0 0] 26)).drew.alloc O11) _ A5.out).mono ?_
               rintro e w9 ⟨hb, rfl⟩
               have HB9 := hid (A5.out.trans (hb.mono A5.out.size))
               have HPe := hid (low_obj hb N4.out)
               obtain ⟨t0', t1', f0', f1'⟩ := box2f HPe.out
               have r0 := wcell_next s0 HB9.out
               have r1 := wcell_next s1 HB9.out
               clear hb)
            | (go_at_call 7
               with_reducible refine (HLG.out ((wr.drew.alloc O11).alloc (.cells #[.slice none 0 0, .slice none 0 0] 26)) _ A7.out).mono ?_
               rintro e w9 ⟨hb, rfl⟩
               have HB9 := hid (A7.out.trans (hb.mono A7.out.size))
               have HPe := hid (low_obj hb N3.out)
               obtain ⟨t0', t1', f0', f1'⟩ := box2f HPe.out
               have r0 := wcell_next s0 HB9.out
               have r1 := wcell_next s1 HB9.out
               clear hb)
            | (go_at_call 7
               with_reducible refine (HLG.out ((wr.drew.alloc (.cells #[.slice none 0 0, .slice none 0 0] 26)).alloc O11) _ A8.out).mono ?_
               rintro e w9 ⟨hb, rfl⟩
               have HB9 := hid (A8.out.trans (hb.mono A8.out.size))
               have HPe := hid (low_obj hb N4.out)
               obtain ⟨t0', t1', f0', f1'⟩ := box2f HPe.out
               have r0 := wcell_next s0 HB9.out
               have r1 := wcell_next s1 HB9.out
               clear hb)
            | fail)
        all_goals
          go_wp2_with fail
          go_meet
          first
            | exact ⟨rfl, HB9.out.alloc HB9.out.size _⟩
            | exact ⟨rfl, (HB9.out.setCell (by first | exact Nat.le_refl _ | simp) _).setCell (by first | exact Nat.le_refl _ | simp) _⟩
            | fail
      case rest =>
        obtain ⟨rfl, hb⟩ := hcut
        have t0 := wcell_next t0 hb
        have t1 := wcell_next t1 hb
        have u0 := wcell_next z0 hb
        have u1 := wcell_next z1 hb
        have HSA := hid (sameState_any sk _ _ _ _ wc _ _ (HT.out.next hb) (HUk.out.next hb))
        have HBc := hid (show Below w.heap.size w wc from HBr.out.trans (hb.mono HBr.out.size))
        clear hb
        go_wp2_with fail
        refine HSA.out.mono ?_
        rintro e w11 ⟨rfl, hb11⟩
        have HB11 := hid (show Below w.heap.size w w11 from HBc.out.trans (hb11.mono HBc.out.size))
        clear hb11
        simp only
        go_wp2
        go_ret
        exact ⟨ret_bool (by first | rfl | simp), HB11.out⟩
end Go.Proofs.YtilhjgdmolgmdabDoor
