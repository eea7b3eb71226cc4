/-
  The reader of a batch's bytes: batches: the walk.
-/
import Derived.Test.YtaaenhjhjclilabDoorBkRe
import Derived.Test.YtaaenhjhjclilabDoorBkCk
namespace Go.Proofs.YtaaenhjhjclilabDoor
open Go.RowKit Go.Proofs

/-- What batch hands back: its entries lie in memory that is new. -/
def RbP (b : Nat) (w : World) (x : Bat × (List UInt8 × Bool)) (e : Ending) (w' : World) : Prop := ∃ a c, e = .returned (.agg #[.int .i64 x.1.user, .slice a x.1.ents.length c]) ∧ EntsM (fun k => w.heap.size ≤ k) w' (.slice a x.1.ents.length c) x.1.ents ∧ RdB w' b x.2 ∧ But b w w'
/-- The entries that are read so far, and the reader behind them. -/
def rdE (r : List UInt8 × Bool) : Nat → List UInt8 × Bool
  | 0 => r
  | k + 1 => (entR (rdE r k)).2
def rdL (r : List UInt8 × Bool) : Nat → List Ent
  | 0 => []
  | k + 1 => rdL r k ++ [(entR (rdE r k)).1]
theorem rdL_len (r : List UInt8 × Bool) (k : Nat) : (rdL r k).length = k := by
  induction k with
  | zero => rfl
  | succ k ih => simp [rdL, ih]
theorem rdE_zero (r : List UInt8 × Bool) : rdE r 0 = r := by simp only [rdE]
theorem rdL_zero (r : List UInt8 × Bool) : rdL r 0 = [] := by simp only [rdL]
theorem rdE_succ (r : List UInt8 × Bool) (k : Nat) : rdE r (k + 1) = (entR (rdE r k)).2 := by simp only [rdE]
theorem rdL_succ (r : List UInt8 × Bool) (k : Nat) : rdL r (k + 1) = rdL r k ++ [(entR (rdE r k)).1] := by simp only [rdL]
theorem rdE_shift (r : List UInt8 × Bool) (k : Nat) : rdE r (k + 1) = rdE (entR r).2 k := by
  induction k with
  | zero => rw [rdE_succ, rdE_zero, rdE_zero]
  | succ k ih => rw [rdE_succ, ih, rdE_succ]
theorem rdL_shift (r : List UInt8 × Bool) (k : Nat) : rdL r (k + 1) = (entR r).1 :: rdL (entR r).2 k := by
  induction k with
  | zero => rw [rdL_succ, rdL_zero, rdE_zero, rdL_zero]; simp only [List.nil_append]
  | succ k ih => rw [rdL_succ, ih, rdE_shift, rdL_succ, List.cons_append]
theorem entsR_eq : ∀ (n : Nat) (r : List UInt8 × Bool), entsR n r = (rdL r n, rdE r n) := by
  intro n
  induction n with
  | zero => intro r; rw [rdL_zero, rdE_zero]; simp only [entsR]
  | succ n ih => intro r; rw [entsR, ih, rdL_shift, rdE_shift]
theorem batR_eq (r : List UInt8 × Bool) : batR r = (⟨(numR 1 r).1, rdL (numR 1 (numR 1 r).2).2 (numR 1 (numR 1 r).2).1⟩, rdE (numR 1 (numR 1 r).2).2 (numR 1 (numR 1 r).2).1) := by
  simp only [batR]
  rw [entsR_eq]
theorem num1_lt (r : List UInt8 × Bool) : (numR 1 r).1 < 256 := by
  unfold numR takeR
  split
  · have h : (r.1.take 1).length ≤ 1 := by rw [List.length_take]; omega
    generalize r.1.take 1 = l at h
    match l, h with
    | [], _ => simp [beN]
    | [a], _ => have := a.toNat_lt; simp [beN]; omega
  · simp [beN]
set_option maxHeartbeats 4000000 in
set_option maxRecDepth 100000 in
theorem rbat_any (b : Nat) (r : List UInt8 × Bool) (w : World) (h : RdB w b r) :
    Calls Tryd.prog 60 #[.pointer (some ⟨b, 0, none⟩)] w (RbP b w (batR r)) := by
  obtain ⟨i0, hi, hz0, hz1, hz2⟩ := info_parts infoEn
  obtain ⟨y, hy⟩ : ∃ y, y = batR r := ⟨_, rfl⟩
  have hyy := hy
  rw [batR_eq] at hyy
  obtain ⟨k1, hk1⟩ : ∃ x, x = numR 1 r := ⟨_, rfl⟩
  rw [← hk1] at hyy
  have hkk := num1_lt k1.2
  obtain ⟨k2, hk2⟩ : ∃ x, x = numR 1 k1.2 := ⟨_, rfl⟩
  rw [← hk2] at hyy hkk
  have HY := hid hyy
  rw [← hy]
  have HN1 := hid (fun u (hu : RdB u b r) => rnum_any 1 b r u hu (by decide))
  rw [← hk1] at HN1
  have HN2 := hid (fun u (hu : RdB u b k1.2) => rnum_any 1 b k1.2 u hu (by decide))
  rw [← hk2] at HN2
  clear hy hk1 hk2 hyy
  obtain ⟨W1, hW1⟩ : ∃ W1, W1 = w.alloc (.cells #[.int .i64 0, .slice none 0 0] 34) := ⟨_, rfl⟩
  have HWE := hid hW1
  have hB1 : Below w.heap.size w W1 := by rw [hW1]; exact (Below.refl _ _).alloc (Nat.le_refl _) _
  have hp : W1.heap[w.heap.size]? = some (.cells #[.int .i64 0, .slice none 0 0] 34) := by rw [hW1]; exact heap_alloc_new w _
  have HP := hid hp
  have HBL := hid h.lt
  have HR1 := hid (HN1.out W1 (h.next hB1))
  have HU1 := hid (show But b w W1 from But.of hB1)
  clear h hW1 hB1 hp HN1
  go_enter Tryd.func60, Tryd.ntmps60
  go_wp2_with fail
  rw [← HWE.out]
  refine HR1.out.mono ?_
  rintro e w2 ⟨rfl, hr2, hu2⟩
  have HP2 := hid (hu2.obj HP.out (by have := HBL.out; omega))
  have HU2 := hid (HU1.out.trans hu2)
  obtain ⟨W3, hW3⟩ : ∃ W3, W3 = w2.alloc (.cells #[.int .i64 k1.1, .slice none 0 0] 34) := ⟨_, rfl⟩
  have HWE3 := hid hW3
  have hB3 : Below w2.heap.size w2 W3 := by rw [hW3]; exact (Below.refl _ _).alloc (Nat.le_refl _) _
  have hq : W3.heap[w2.heap.size]? = some (.cells #[.int .i64 k1.1, .slice none 0 0] 34) := by rw [hW3]; exact heap_alloc_new w2 _
  have HQ := hid hq
  have HP3 := hid (bk_low hB3 HP2.out)
  have HU3 := hid (HU2.out.trans (But.of hB3))
  have HR3 := hid (HN2.out W3 (hr2.next hB3))
  have HN := hid (show b < w2.heap.size from hr2.lt)
  have HN2' := hid (show w.heap.size < w2.heap.size from (Array.getElem?_eq_some_iff.1 HP2.out).1)
  clear hr2 hu2 hW3 hB3 hq HN2
  go_upto_region 2 with fail
  rw [← HWE3.out]
  go_wp2_with fail
  refine HR3.out.mono ?_
  rintro e w4 ⟨rfl, hr4, hu4⟩
  have HP4 := hid (hu4.obj HP3.out (by have := HBL.out; omega))
  have HQ4 := hid (hu4.obj HQ.out (by have := HN.out; omega))
  have HU4 := hid (HU3.out.trans hu4)
  have HR4 := hid (show RdB w4 b (rdE k2.2 0) by rw [rdE_zero]; exact hr4)
  clear hr4 hu4
  go_wp2
  go_loopw [9] (fun v wr => ∃ (k : Nat) (a9 : Option Addr) (c9 : Nat), k ≤ k2.1 ∧ v = .int .i64 (k : Int) ∧ Hid (RdB wr b (rdE k2.2 k)) ∧ Hid (wr.heap[w.heap.size]? = some (.cells #[.int .i64 0, .slice none 0 0] 34)) ∧ Hid (wr.heap[w2.heap.size]? = some (.cells #[.int .i64 k1.1, .slice a9 k c9] 34)) ∧ Hid (wr.ownsRow (w2.heap.size + 1) 61 6 (.slice a9 k c9) k ((rdL k2.2 k).map entC).flatten) ∧ Hid (But b w wr)) (fun v _ => k2.1 - (intOf v).toNat)
  case atStart => exact ⟨0, none, 0, Nat.zero_le _, rfl, HR4, HP4, HQ4, World.ownsRow_nil _ _ _ _, HU4⟩
  case round =>
    obtain ⟨k, a9, c9, hk, rfl, HR, HPX, HQX, HO, HU⟩ := hrel
    by_cases hlt : k < k2.1
    · have kk1 : (k : Int) < (k2.1 : Int) := by omega
      have kk0 : (0 : Int) ≤ (k : Int) := by omega
      have HRE := hid (fun u (hu : RdB u b (rdE k2.2 k)) => rent_any b (rdE k2.2 k) u hu)
      have HL := hid (show rdL k2.2 (k + 1) = rdL k2.2 k ++ [(entR (rdE k2.2 k)).1] from rdL_succ _ _)
      have HE := hid (show rdE k2.2 (k + 1) = (entR (rdE k2.2 k)).2 from rdE_succ _ _)
      generalize entR (rdE k2.2 k) = E at *
      obtain ⟨x0, x1, f0, f1⟩ := bk_box2 HQX.out
      have hnb : w2.heap.size ≠ b := by have := HN.out; omega
      have HNB := hid hnb
      have HRD := hid (show RdB wr.drew b (rdE k2.2 k) from HR.out.next (Below.refl _ _).drew)
      clear hnb
      go_upto_region 4 with fail
      go_region_law
        (first
          | (refine step_append_lies _ (by rfl) _ _ _ (by rfl) (w2.heap.size + 1) 61 i0 _ 6 72 Tryd.underlying27 hi hz0 hz1 hz2 rfl (by omega) (.slice a9 k c9) k (((rdL k2.2 k).map entC).flatten) (by rfl) (World.ownsRow.alloc HO5.out _)
              ⟨w5.heap.size, 0, none⟩ 1 1 (entC E.1) (by rfl) (by rfl) (hex_new w5 _ _ _ _ _ _ _) (by simp [entC, Value.oneCell']) (by omega) (by unfold maxLen; omega) (by omega) (by have := HS5.out; simp; omega) _ rfl ?_
             intro g2 cap w6 hown hgrow hat hlt6
             have hb6 : Below (w2.heap.size + 1) w5 w6 := ((Below.refl (w2.heap.size + 1) w5).alloc (by have := HS5.out; omega) _).grown hgrow (by have := HS5.out; simp; omega) (fun j hj => (World.ownsRow.lt HO5.out j hj).1)
             have HB6 := hid hb6
             have HQ6 := hid ((hb6.block w2.heap.size (by omega)).trans HQ5.out)
             obtain ⟨z0, z1, g0, g1⟩ := bk_box2 HQ6.out
             have HO6 := hid hown
             clear hown hgrow hat hb6)
          | (go_simp
             go_at_call 66
             refine (HRE.out wr.drew HRD.out).mono ?_
             rintro e w5 ⟨rfl, hr5, hu5⟩
             have HR5 := hid hr5
             have HU5 := hid hu5
             have HQ5 := hid (hu5.obj (show wr.drew.heap[w2.heap.size]? = _ from HQX.out) HNB.out)
             have HO5 := hid (own_but (show wr.drew.ownsRow _ _ _ _ _ _ from HO.out) hu5 (by have := HN.out; omega))
             have HS5 := hid (Array.getElem?_eq_some_iff.1 HQ5.out).1
             obtain ⟨y0, y1, _, _⟩ := bk_box2 HQ5.out
             have y2 : ∀ o : Obj, (w5.alloc o).cell? ⟨w2.heap.size, 1, none⟩ = some (.slice a9 k c9) := fun o => wcell_more y1 o
             clear hr5 hu5)
          | fail)
      all_goals
        have HF1 := hid (show RdB (w6.setCell ⟨w2.heap.size, 1, none⟩ (.slice (some ⟨g2, 0, none⟩) (k + 1) cap)) b (rdE k2.2 (k + 1)) by
          rw [HE.out]
          exact HR5.out.far ((HB6.out.mono (by have := HN.out; omega)).setCell (by have := HN.out; simp; omega) _))
        have HF2 := hid (show (w6.setCell ⟨w2.heap.size, 1, none⟩ (.slice (some ⟨g2, 0, none⟩) (k + 1) cap)).heap[w.heap.size]? = _ from (bk_other (by have := HN2'.out; omega)).trans ((HB6.out.block w.heap.size (by have := HN2'.out; omega)).trans (HU5.out.obj (show wr.drew.heap[w.heap.size]? = _ from HPX.out) (by have := HBL.out; omega))))
        have HF3 := hid (bk_put1 (u := .slice (some ⟨g2, 0, none⟩) (k + 1) cap) HQ6.out)
        have HF4 := hid (show (w6.setCell ⟨w2.heap.size, 1, none⟩ (.slice (some ⟨g2, 0, none⟩) (k + 1) cap)).ownsRow (w2.heap.size + 1) 61 6 (.slice (some ⟨g2, 0, none⟩) (k + 1) cap) (k + 1) ((rdL k2.2 (k + 1)).map entC).flatten by
          rw [HL.out, own_app]
          exact bk_keep HO6.out fun q hq => bk_other (by have := (World.ownsRow.lt HO6.out q hq).1; omega))
        have HF5 := hid (show But b w (w6.setCell ⟨w2.heap.size, 1, none⟩ (.slice (some ⟨g2, 0, none⟩) (k + 1) cap)) by
          have h1 := HU.out.trans (show But b wr w5 from (But.of (Below.refl _ _).drew).trans HU5.out)
          refine ⟨HB6.out.os.trans h1.os, HB6.out.tape.trans h1.tape, HB6.out.output.trans h1.output, Nat.le_trans h1.size (by have := HB6.out.size; simpa [World.setCell] using this), fun q hq hn => ?_⟩
          have := HN2'.out
          exact (bk_other (by omega)).trans ((HB6.out.block q (by omega)).trans (h1.block q hq hn)))
        clear HO6 HR5 HU5 HQ5 HO5
        go_wp2
        go_roundw
        case rel => first | exact ⟨k + 1, _, cap, by omega, by go_num, HF1, HF2, HF3, HF4, HF5⟩ | ((repeat apply Exists.intro); exact ⟨⟨k + 1, _, cap, by omega, by go_num, HF1, HF2, HF3, HF4, HF5⟩, rfl⟩)
        case measure => simp [intOf]; omega
    · have kk1 : ¬ (k : Int) < (k2.1 : Int) := by omega
      have hkk2 : k = k2.1 := by omega
      obtain ⟨x0, x1, _, _⟩ := bk_box2 HQX.out
      obtain ⟨p0, p1, q0, q1⟩ := bk_box2 HPX.out
      obtain ⟨s0, s1, _, _⟩ := bk_box2 (bk_put (u0 := .int .i64 k1.1) (u1 := .slice a9 k c9) HPX.out)
      have HE := hid (show RbP b w y (.returned (.agg #[.int .i64 k1.1, .slice a9 k c9])) ((wr.setCell ⟨w.heap.size, 0, none⟩ (.int .i64 k1.1)).setCell ⟨w.heap.size, 1, none⟩ (.slice a9 k c9)) by
        rw [HY.out, ← hkk2]
        have hlen := rdL_len k2.2 k
        have hb2 := HN.out
        have hw2 := HN2'.out
        refine ⟨a9, c9, by rw [hlen], ?_, ?_, ?_⟩
        · rw [hlen]
          have h1 : EntsM (fun q => w2.heap.size + 1 ≤ q) wr (.slice a9 k c9) (rdL k2.2 k) := own_row HO.out hlen.symm (by unfold maxLen; omega) (by simp) (map_flat_len (k := 6) entC (fun _ => rfl) _) (fun q y cs hy hc => by rw [List.getElem?_map, hy] at hc; cases hc; rfl) (fun g hg => (World.ownsRow.lt HO.out g hg).1)
          refine h1.imp (fun q (hq : w2.heap.size + 1 ≤ q) => (by omega : w.heap.size ≤ q)) ⟨by simp [World.setCell], fun q _ hq => ?_⟩
          exact (bk_other (by omega)).trans (bk_other (by omega))
        · exact HR.out.far (((Below.refl _ _).setCell (by have := HBL.out; simp; omega) _).setCell (by have := HBL.out; simp; omega) _)
        · have h1 := HU.out
          refine ⟨h1.os, h1.tape, h1.output, by have := h1.size; simpa [World.setCell] using this, fun q hq hn => ?_⟩
          exact (bk_other (by omega)).trans ((bk_other (by omega)).trans (h1.block q hq hn)))
      clear hkk2
      go_wp2
      refine bodyPost_ret (v := .agg #[.int .i64 k1.1, .slice a9 k c9]) (by simp [results, Tryd.results60, go_sem, *]) rfl ?_
      exact HE.out
end Go.Proofs.YtaaenhjhjclilabDoor
