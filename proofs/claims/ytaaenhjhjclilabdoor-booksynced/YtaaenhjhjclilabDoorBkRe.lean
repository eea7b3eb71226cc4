/-
  The reader of a batch's bytes: entries: the walk.
-/
import Derived.Test.YtaaenhjhjclilabDoorBkRd
import Derived.Test.YtaaenhjhjclilabDoorBoxMem
import Derived.Test.YtaaenhjhjclilabDoorBoxDo
import Derived.RegionTactic
import Derived.BigRegion
namespace Go.Proofs.YtaaenhjhjclilabDoor
open Go.RowKit Go.Proofs

theorem But.obj {b p : Nat} {w w' : World} {o : Obj} (h : But b w w') (hp : w.heap[p]? = some o) (hn : p ≠ b) : w'.heap[p]? = some o := (h.block p (Array.getElem?_eq_some_iff.1 hp).1 hn).trans hp
theorem RdB.far {w w' : World} {b : Nat} {r : List UInt8 × Bool} (h : RdB w b r) (hb : Below (b + 1) w w') : RdB w' b r := by
  obtain ⟨v, h1, h2⟩ := h
  exact ⟨v, (hb.block b (by omega)).trans h1, h2.imp (fun _ h => h) fun k _ hk => hb.block k (by omega)⟩
/-- The reader's states, text by text, and the texts so far. -/
def rdS (r : List UInt8 × Bool) : Nat → List UInt8 × Bool
  | 0 => r
  | i + 1 => (txR (rdS r i)).2
theorem rdS_succ (r : List UInt8 × Bool) (i : Nat) : rdS r (i + 1) = (txR (rdS r i)).2 := by simp only [rdS]
def rdX (r : List UInt8 × Bool) (i : Nat) : ByteArray := S (txR (rdS r i)).1
def rdC (r : List UInt8 × Bool) : Nat → Array Value
  | 0 => #[.string ⟨#[]⟩, .string ⟨#[]⟩, .string ⟨#[]⟩]
  | 1 => #[.string (rdX r 0), .string ⟨#[]⟩, .string ⟨#[]⟩]
  | 2 => #[.string (rdX r 0), .string (rdX r 1), .string ⟨#[]⟩]
  | _ => #[.string (rdX r 0), .string (rdX r 1), .string (rdX r 2)]
/-- What entry hands back. -/
def ReP (b : Nat) (w : World) (x : Ent × (List UInt8 × Bool)) (e : Ending) (w' : World) : Prop := e = .returned (.agg #[.int .i64 x.1.kind, .string (S x.1.box), .int .i64 x.1.uid, .int .i64 x.1.flags, .string (S x.1.goal), .string (S x.1.text)]) ∧ RdB w' b x.2 ∧ But b w w'
theorem bk_box3 {w : World} {p : Nat} {v0 v1 v2 : Value} {t : TypeId} (h : w.heap[p]? = some (.cells #[v0, v1, v2] t)) : w.cell? ⟨p, 0, none⟩ = some v0 ∧ w.cell? ⟨p, 1, none⟩ = some v1 ∧ w.cell? ⟨p, 2, none⟩ = some v2 ∧ w.frozen? ⟨p, 0, none⟩ = false ∧ w.frozen? ⟨p, 1, none⟩ = false ∧ w.frozen? ⟨p, 2, none⟩ = false := by
  refine ⟨?_, ?_, ?_, ?_, ?_, ?_⟩ <;> simp [World.cell?, World.frozen?, h]
theorem bk_put3 {w : World} {p j : Nat} {cs : Array Value} {u : Value} {t : TypeId} (h : w.heap[p]? = some (.cells cs t)) : (w.setCell ⟨p, j, none⟩ u).heap[p]? = some (.cells (cs.setIfInBounds j u) t) := heap_setCell_same w p j cs t u h
theorem bk_box6f {w : World} {p : Nat} {v0 v1 v2 v3 v4 v5 : Value} {t : TypeId} (h : w.heap[p]? = some (.cells #[v0, v1, v2, v3, v4, v5] t)) : w.frozen? ⟨p, 0, none⟩ = false ∧ w.frozen? ⟨p, 1, none⟩ = false ∧ w.frozen? ⟨p, 2, none⟩ = false ∧ w.frozen? ⟨p, 3, none⟩ = false ∧ w.frozen? ⟨p, 4, none⟩ = false ∧ w.frozen? ⟨p, 5, none⟩ = false := by
  refine ⟨?_, ?_, ?_, ?_, ?_, ?_⟩ <;> simp [World.frozen?, h]
theorem low6 {B p : Nat} (W : World) (v0 v1 v2 v3 v4 v5 : Value) (hp : B ≤ p) : Below B W ((((((W.setCell ⟨p, 0, none⟩ v0).setCell ⟨p, 1, none⟩ v1).setCell ⟨p, 2, none⟩ v2).setCell ⟨p, 3, none⟩ v3).setCell ⟨p, 4, none⟩ v4).setCell ⟨p, 5, none⟩ v5) := by
  have h0 := (Below.refl B W).setCell (p := ⟨p, 0, none⟩) hp v0
  have h1 := h0.setCell (p := ⟨p, 1, none⟩) hp v1
  have h2 := h1.setCell (p := ⟨p, 2, none⟩) hp v2
  have h3 := h2.setCell (p := ⟨p, 3, none⟩) hp v3
  have h4 := h3.setCell (p := ⟨p, 4, none⟩) hp v4
  exact h4.setCell (p := ⟨p, 5, none⟩) hp v5
theorem ReP.fin {b : Nat} {w W : World} {k u f : Int} {B0 B1 B2 : List UInt8} {R : List UInt8 × Bool} {y : Ent × (List UInt8 × Bool)} (hy : y = (⟨k, B0, u, f, B1, B2⟩, R)) (hr : RdB W b R) (hu : But b w W) (hb : b < w.heap.size) :
    ReP b w y (.returned (.agg #[.int .i64 k, .string (S B0), .int .i64 u, .int .i64 f, .string (S B1), .string (S B2)])) ((((((W.setCell ⟨w.heap.size, 0, none⟩ (.int .i64 k)).setCell ⟨w.heap.size, 1, none⟩ (.string (S B0))).setCell ⟨w.heap.size, 2, none⟩ (.int .i64 u)).setCell ⟨w.heap.size, 3, none⟩ (.int .i64 f)).setCell ⟨w.heap.size, 4, none⟩ (.string (S B1))).setCell ⟨w.heap.size, 5, none⟩ (.string (S B2))) := by
  subst hy
  have h := low6 (B := w.heap.size) W (.int .i64 k) (.string (S B0)) (.int .i64 u) (.int .i64 f) (.string (S B1)) (.string (S B2)) (Nat.le_refl _)
  exact ⟨rfl, hr.far (h.mono (by omega)), h.os.trans hu.os, h.tape.trans hu.tape, h.output.trans hu.output, Nat.le_trans hu.size h.size, fun q hq hn => (h.block q hq).trans (hu.block q hq hn)⟩
theorem six_put {W : World} {p : Nat} {u0 u1 u2 u3 u4 u5 v0 v1 v2 v3 v4 v5 : Value} {t : TypeId} (h : W.heap[p]? = some (.cells #[u0, u1, u2, u3, u4, u5] t)) : ((((((W.setCell ⟨p, 0, none⟩ v0).setCell ⟨p, 1, none⟩ v1).setCell ⟨p, 2, none⟩ v2).setCell ⟨p, 3, none⟩ v3).setCell ⟨p, 4, none⟩ v4).setCell ⟨p, 5, none⟩ v5).heap[p]? = some (.cells #[v0, v1, v2, v3, v4, v5] t) := by
  have := bk_put3 (j := 5) (u := v5) (bk_put3 (j := 4) (u := v4) (bk_put3 (j := 3) (u := v3) (bk_put3 (j := 2) (u := v2) (bk_put3 (j := 1) (u := v1) (bk_put3 (j := 0) (u := v0) h)))))
  simp only [List.setIfInBounds_toArray, List.set_cons_succ, List.set_cons_zero] at this
  exact this
set_option maxHeartbeats 1000000 in
set_option maxRecDepth 100000 in
theorem rent_any (b : Nat) (r : List UInt8 × Bool) (w : World) (h : RdB w b r) :
    Calls Tryd.prog 66 #[.pointer (some ⟨b, 0, none⟩)] w (ReP b w (entR r)) := by
  obtain ⟨y, hy⟩ : ∃ y, y = entR r := ⟨_, rfl⟩
  obtain ⟨k1, hk1⟩ : ∃ x, x = numR 1 r := ⟨_, rfl⟩
  obtain ⟨k2, hk2⟩ : ∃ x, x = numR 1 k1.2 := ⟨_, rfl⟩
  obtain ⟨k3, hk3⟩ : ∃ x, x = numR 3 k2.2 := ⟨_, rfl⟩
  have HY := bhid (show y = (⟨k1.1, (txR (rdS k3.2 0)).1, k3.1, k2.1, (txR (rdS k3.2 1)).1, (txR (rdS k3.2 2)).1⟩, rdS k3.2 3) by
    rw [hy, hk3, hk2, hk1]
    simp only [entR, rdS])
  obtain ⟨B0, hB0⟩ : ∃ z, z = (txR (rdS k3.2 0)).1 := ⟨_, rfl⟩
  obtain ⟨B1, hB1⟩ : ∃ z, z = (txR (rdS k3.2 1)).1 := ⟨_, rfl⟩
  obtain ⟨B2, hB2⟩ : ∃ z, z = (txR (rdS k3.2 2)).1 := ⟨_, rfl⟩
  obtain ⟨R3, hR3⟩ : ∃ z, z = rdS k3.2 3 := ⟨_, rfl⟩
  rw [← hB0, ← hB1, ← hB2, ← hR3] at HY
  have HB0 := bhid hB0
  have HB1 := bhid hB1
  have HB2 := bhid hB2
  have HR3 := bhid hR3
  clear hB0 hB1 hB2 hR3
  rw [← hy]
  have HN1 := bhid (fun u (hu : RdB u b r) => rnum_any 1 b r u hu (by decide))
  rw [← hk1] at HN1
  have HN2 := bhid (fun u (hu : RdB u b k1.2) => rnum_any 1 b k1.2 u hu (by decide))
  rw [← hk2] at HN2
  have HN3 := bhid (fun u (hu : RdB u b k2.2) => rnum_any 3 b k2.2 u hu (by decide))
  rw [← hk3] at HN3
  clear hy hk1 hk2 hk3
  obtain ⟨W1, hW1⟩ : ∃ W1, W1 = w.alloc (.cells #[.int .i64 0, .string ⟨#[]⟩, .int .i64 0, .int .i64 0, .string ⟨#[]⟩, .string ⟨#[]⟩] 61) := ⟨_, rfl⟩
  have HWE := bhid hW1
  have hB1 : Below w.heap.size w W1 := by rw [hW1]; exact (Below.refl _ _).alloc (Nat.le_refl _) _
  have hp : W1.heap[w.heap.size]? = some (.cells #[.int .i64 0, .string ⟨#[]⟩, .int .i64 0, .int .i64 0, .string ⟨#[]⟩, .string ⟨#[]⟩] 61) := by rw [hW1]; exact heap_alloc_new w _
  have HP := bhid hp
  have HBL := bhid h.lt
  have HR1 := bhid (HN1.out W1 (h.next hB1))
  have HU1 := bhid (show But b w W1 from But.of hB1)
  clear h hW1 hB1 hp HN1
  go_enter Tryd.func66, Tryd.ntmps66
  go_wp2_with fail
  rw [← HWE.out]
  refine HR1.out.mono ?_
  rintro e w2 ⟨rfl, hr2, hu2⟩
  have HP2 := bhid (hu2.obj HP.out (by have := HBL.out; omega))
  have HU2 := bhid (HU1.out.trans hu2)
  have HR2 := bhid (HN2.out w2 hr2)
  clear hr2 hu2
  go_wp2_with fail
  refine HR2.out.mono ?_
  rintro e w3 ⟨rfl, hr3, hu3⟩
  have HP3 := bhid (hu3.obj HP2.out (by have := HBL.out; omega))
  have HU3 := bhid (HU2.out.trans hu3)
  have HRq := bhid (HN3.out w3 hr3)
  clear hr3 hu3
  go_wp2_with fail
  refine HRq.out.mono ?_
  rintro e w4 ⟨rfl, hr4, hu4⟩
  have HP4 := bhid (hu4.obj HP3.out (by have := HBL.out; omega))
  have HU4 := bhid (HU3.out.trans hu4)
  obtain ⟨W5, hW5⟩ : ∃ W5, W5 = (w4.alloc (.cells #[.int .i64 k1.1, .string ⟨#[]⟩, .int .i64 k3.1, .int .i64 k2.1, .string ⟨#[]⟩, .string ⟨#[]⟩] 61)).alloc (.cells #[.string ⟨#[]⟩, .string ⟨#[]⟩, .string ⟨#[]⟩] 119) := ⟨_, rfl⟩
  have HWE5 := bhid hW5
  have hB5 : Below w4.heap.size w4 W5 := by rw [hW5]; exact ((Below.refl _ _).alloc (Nat.le_refl _) _).alloc (by simp) _
  have hx5 : W5.heap[w4.heap.size]? = some (.cells #[.int .i64 k1.1, .string ⟨#[]⟩, .int .i64 k3.1, .int .i64 k2.1, .string ⟨#[]⟩, .string ⟨#[]⟩] 61) := by
    rw [hW5, Below.heap_alloc _ _ _ (by simp)]
    exact heap_alloc_new w4 _
  have ht5 : W5.heap[w4.heap.size + 1]? = some (.cells (rdC k3.2 0) 119) := by
    rw [hW5]
    have := heap_alloc_new (w4.alloc (.cells #[.int .i64 k1.1, .string ⟨#[]⟩, .int .i64 k3.1, .int .i64 k2.1, .string ⟨#[]⟩, .string ⟨#[]⟩] 61)) (.cells #[.string ⟨#[]⟩, .string ⟨#[]⟩, .string ⟨#[]⟩] 119)
    simpa [rdC] using this
  have HX5 := bhid hx5
  have HT5 := bhid ht5
  have HP5 := bhid (bk_low hB5 HP4.out)
  have HR5 := bhid (show RdB W5 b (rdS k3.2 0) from hr4.next hB5)
  have HU5 := bhid (HU4.out.trans (But.of hB5))
  have HN := bhid (show b < w4.heap.size from hr4.lt)
  have HN2' := bhid (show w.heap.size < w4.heap.size from (Array.getElem?_eq_some_iff.1 HP4.out).1)
  clear hr4 hu4 hW5 hB5 hx5 ht5
  go_upto_region 3 with fail
  rw [← HWE5.out]
  go_wp2
  go_loopw [13] (fun v wr => ∃ (i : Nat), i ≤ 3 ∧ v = .int .i64 (i : Int) ∧ Hid (RdB wr b (rdS k3.2 i)) ∧ Hid (wr.heap[w4.heap.size + 1]? = some (.cells (rdC k3.2 i) 119)) ∧ Hid (wr.heap[w.heap.size]? = some (.cells #[.int .i64 0, .string ⟨#[]⟩, .int .i64 0, .int .i64 0, .string ⟨#[]⟩, .string ⟨#[]⟩] 61)) ∧ Hid (wr.heap[w4.heap.size]? = some (.cells #[.int .i64 k1.1, .string ⟨#[]⟩, .int .i64 k3.1, .int .i64 k2.1, .string ⟨#[]⟩, .string ⟨#[]⟩] 61)) ∧ Hid (But b w wr)) (fun v _ => (3 - intOf v).toNat)
  case atStart => exact ⟨0, by omega, rfl, HR5, HT5, HP5, HX5, HU5⟩
  case round =>
    obtain ⟨i, hi3, rfl, HR, HA, HPX, HXX, HU⟩ := hrel
    by_cases hi : i = 3
    · subst hi
      have HRX := bhid (show RdB wr b R3 by have h := HR.out; rw [← HR3.out] at h; exact h)
      obtain ⟨t0, t1, t2, _, _, _⟩ := bk_box3 (show wr.heap[w4.heap.size + 1]? = some (.cells #[.string (S B0), .string (S B1), .string (S B2)] 119) by
        have h := HA.out
        simp only [rdC, rdX] at h
        rw [← HB0.out, ← HB1.out, ← HB2.out] at h
        exact h)
      clear HR HA
      have hne1 : w4.heap.size ≠ w4.heap.size + 1 := by omega
      have hne2 : w4.heap.size + 1 ≠ w4.heap.size := by omega
      obtain ⟨x0, x1, x2, x3, x4, x5⟩ := box6' HXX.out
      obtain ⟨_, q1, _, _, q4, q5⟩ := bk_box6f HXX.out
      go_upto_region 8 with fail
      go_region_held3 (fun w' => w'.cell? ⟨w4.heap.size + 1, 0, none⟩ = some (.string (S B0)) ∧ w'.cell? ⟨w4.heap.size + 1, 1, none⟩ = some (.string (S B1)) ∧ w'.cell? ⟨w4.heap.size + 1, 2, none⟩ = some (.string (S B2)) ∧ w'.frozen? ⟨w4.heap.size, 1, none⟩ = false ∧ w'.frozen? ⟨w4.heap.size, 4, none⟩ = false ∧ w'.frozen? ⟨w4.heap.size, 5, none⟩ = false) (go_keep) (fail)
      all_goals
        obtain ⟨W8, hW8⟩ : ∃ W8, W8 = (((wr.setCell ⟨w4.heap.size, 1, none⟩ (.string (S B0))).setCell ⟨w4.heap.size, 4, none⟩ (.string (S B1))).setCell ⟨w4.heap.size, 5, none⟩ (.string (S B2))).drew := ⟨_, rfl⟩
        have HWE8 := bhid hW8
        have hb8a := (Below.refl w4.heap.size wr).setCell (p := ⟨w4.heap.size, 1, none⟩) (Nat.le_refl w4.heap.size) (.string (S B0))
        have hb8b := hb8a.setCell (p := ⟨w4.heap.size, 4, none⟩) (Nat.le_refl w4.heap.size) (.string (S B1))
        have hb8c := (hb8b.setCell (p := ⟨w4.heap.size, 5, none⟩) (Nat.le_refl w4.heap.size) (.string (S B2))).drew
        rw [← hW8] at hb8c
        have hb8 : Below w4.heap.size wr W8 := hb8c
        clear hb8a hb8b hb8c
        have hx8 : W8.heap[w4.heap.size]? = some (.cells #[.int .i64 k1.1, .string (S B0), .int .i64 k3.1, .int .i64 k2.1, .string (S B1), .string (S B2)] 61) := by
          rw [hW8]
          have := bk_put3 (j := 5) (u := .string (S B2)) (bk_put3 (j := 4) (u := .string (S B1)) (bk_put3 (j := 1) (u := .string (S B0)) HXX.out))
          simp only [List.setIfInBounds_toArray, List.set_cons_succ, List.set_cons_zero] at this
          exact this
        have hp8 := (hb8.block w.heap.size HN2'.out).trans HPX.out
        have HP8 := bhid hp8
        have HR8 := bhid (show RdB W8 b R3 from HRX.out.far (hb8.mono (by have := HN.out; omega)))
        have HU8 := bhid (show But b w W8 from ⟨hb8.os.trans HU.out.os, hb8.tape.trans HU.out.tape, hb8.output.trans HU.out.output, Nat.le_trans HU.out.size hb8.size, fun k hk hn => (hb8.block k (by have := HN2'.out; omega)).trans (HU.out.block k hk hn)⟩)
        obtain ⟨y0, y1, y2, y3, y4, y5⟩ := box6' hx8
        obtain ⟨z0, z1, z2, z3, z4, z5⟩ := bk_box6f hp8
        obtain ⟨v0, v1, v2, v3, v4, v5⟩ := box6' hp8
        clear hx8 hp8 hb8 hW8 x0 x1 x2 x3 x4 x5 q1 q4 q5 t0 t1 t2
        go_upto_region 9 with fail
        rw [← HWE8.out]
        have HE := bhid (ReP.fin HY.out HR8.out HU8.out HBL.out)
        have hfin := six_put (v0 := .int .i64 k1.1) (v1 := .string (S B0)) (v2 := .int .i64 k3.1) (v3 := .int .i64 k2.1) (v4 := .string (S B1)) (v5 := .string (S B2)) HP8.out
        obtain ⟨m0, m1, m2, m3, m4, m5⟩ := box6' hfin
        clear hfin
        go_wp2
        refine bodyPost_ret (v := .agg #[.int .i64 k1.1, .string (S B0), .int .i64 k3.1, .int .i64 k2.1, .string (S B1), .string (S B2)]) (by simp [results, Tryd.results66, go_sem, *]) rfl ?_
        exact HE.out
    · have h3 : i < 3 := by omega
      clear hi hi3
      obtain rfl | rfl | rfl : i = 0 ∨ i = 1 ∨ i = 2 := by omega
      · 
        have HC := bhid (show wr.heap[w4.heap.size + 1]? = some (.cells (rdC k3.2 0) 119) from HA.out)
        obtain ⟨_, _, _, f0, f1, f2⟩ := bk_box3 (show wr.heap[w4.heap.size + 1]? = some (.cells #[_, _, _] 119) from HC.out)
        have HRN := bhid (rnum_any 2 b (rdS k3.2 0) wr HR.out (by decide))
        have HTK := bhid (fun u (hu : RdB u b (numR 2 (rdS k3.2 0)).2) => bktake_any (numR 2 (rdS k3.2 0)).1 b (numR 2 (rdS k3.2 0)).2 u hu)
        have HTX := bhid (show takeR (numR 2 (rdS k3.2 0)).1 (numR 2 (rdS k3.2 0)).2 = txR (rdS k3.2 0) by simp only [txR])
        rw [HTX.out] at HTK
        have HX0 := bhid (show rdX k3.2 0 = S (txR (rdS k3.2 0)).1 by simp only [rdX])
        have HS1 := bhid (show rdS k3.2 (0 + 1) = (txR (rdS k3.2 0)).2 from rdS_succ _ _)
        generalize txR (rdS k3.2 0) = tx at *
        generalize numR 2 (rdS k3.2 0) = n2 at *
        go_wp2_with fail
        refine HRN.out.mono ?_
        rintro e w6 ⟨rfl, hr6, hu6⟩
        have HTK6 := bhid (HTK.out w6 hr6)
        have HU6 := bhid hu6
        clear hr6 hu6 HTK
        go_wp2_with fail
        refine HTK6.out.mono ?_
        rintro e w7 ⟨a7, c7, rfl, hb7, hr7, hu7⟩
        have t7 := by_text hb7
        have hU7 : But b wr w7 := HU6.out.trans hu7
        have HQ := bhid (hU7.obj HC.out (by have := HN.out; omega))
        have HP7 := bhid (hU7.obj HPX.out (by have := HBL.out; omega))
        have HX7 := bhid (hU7.obj HXX.out (by have := HN.out; omega))
        obtain ⟨_, _, _, g0, g1, g2⟩ := bk_box3 (show w7.heap[w4.heap.size + 1]? = some (.cells #[_, _, _] 119) from HQ.out)
        have HE1 := bhid (show RdB (w7.setCell ⟨w4.heap.size + 1, 0, none⟩ (.string (S tx.1))) b (rdS k3.2 (0 + 1)) by
          rw [HS1.out]
          exact hr7.far ((Below.refl _ _).setCell (by have := HN.out; simp; omega) _))
        have HE2 := bhid (show (w7.setCell ⟨w4.heap.size + 1, 0, none⟩ (.string (S tx.1))).heap[w4.heap.size + 1]? = some (.cells (rdC k3.2 (0 + 1)) 119) by
          have h := bk_put3 (j := 0) (u := .string (S tx.1)) HQ.out
          rw [← HX0.out] at h ⊢
          exact h)
        have HE3 := bhid (show (w7.setCell ⟨w4.heap.size + 1, 0, none⟩ (.string (S tx.1))).heap[w.heap.size]? = _ from (bk_other (by have := HN2'.out; omega)).trans HP7.out)
        have HE4 := bhid (show (w7.setCell ⟨w4.heap.size + 1, 0, none⟩ (.string (S tx.1))).heap[w4.heap.size]? = _ from (bk_other (by omega)).trans HX7.out)
        have HE5 := bhid (show But b w (w7.setCell ⟨w4.heap.size + 1, 0, none⟩ (.string (S tx.1))) by
          have h1 := HU.out.trans hU7
          refine ⟨h1.os, h1.tape, h1.output, by have := h1.size; simpa [World.setCell] using this, fun k hk hn => ?_⟩
          exact (bk_other (by have := HN2'.out; omega)).trans (h1.block k hk hn))
        clear hb7 hr7 hu7 hU7
        go_wp2
        go_roundw
        case rel => first | exact ⟨0 + 1, by omega, by first | rfl | go_num, HE1, HE2, HE3, HE4, HE5⟩ | ((repeat apply Exists.intro); exact ⟨⟨0 + 1, by omega, by first | rfl | go_num, HE1, HE2, HE3, HE4, HE5⟩, rfl⟩)
        case measure => simp [intOf]
      · 
        have HC := bhid (show wr.heap[w4.heap.size + 1]? = some (.cells (rdC k3.2 1) 119) from HA.out)
        obtain ⟨_, _, _, f0, f1, f2⟩ := bk_box3 (show wr.heap[w4.heap.size + 1]? = some (.cells #[_, _, _] 119) from HC.out)
        have HRN := bhid (rnum_any 2 b (rdS k3.2 1) wr HR.out (by decide))
        have HTK := bhid (fun u (hu : RdB u b (numR 2 (rdS k3.2 1)).2) => bktake_any (numR 2 (rdS k3.2 1)).1 b (numR 2 (rdS k3.2 1)).2 u hu)
        have HTX := bhid (show takeR (numR 2 (rdS k3.2 1)).1 (numR 2 (rdS k3.2 1)).2 = txR (rdS k3.2 1) by simp only [txR])
        rw [HTX.out] at HTK
        have HX0 := bhid (show rdX k3.2 1 = S (txR (rdS k3.2 1)).1 by simp only [rdX])
        have HS1 := bhid (show rdS k3.2 (1 + 1) = (txR (rdS k3.2 1)).2 from rdS_succ _ _)
        generalize txR (rdS k3.2 1) = tx at *
        generalize numR 2 (rdS k3.2 1) = n2 at *
        go_wp2_with fail
        refine HRN.out.mono ?_
        rintro e w6 ⟨rfl, hr6, hu6⟩
        have HTK6 := bhid (HTK.out w6 hr6)
        have HU6 := bhid hu6
        clear hr6 hu6 HTK
        go_wp2_with fail
        refine HTK6.out.mono ?_
        rintro e w7 ⟨a7, c7, rfl, hb7, hr7, hu7⟩
        have t7 := by_text hb7
        have hU7 : But b wr w7 := HU6.out.trans hu7
        have HQ := bhid (hU7.obj HC.out (by have := HN.out; omega))
        have HP7 := bhid (hU7.obj HPX.out (by have := HBL.out; omega))
        have HX7 := bhid (hU7.obj HXX.out (by have := HN.out; omega))
        obtain ⟨_, _, _, g0, g1, g2⟩ := bk_box3 (show w7.heap[w4.heap.size + 1]? = some (.cells #[_, _, _] 119) from HQ.out)
        have HE1 := bhid (show RdB (w7.setCell ⟨w4.heap.size + 1, 1, none⟩ (.string (S tx.1))) b (rdS k3.2 (1 + 1)) by
          rw [HS1.out]
          exact hr7.far ((Below.refl _ _).setCell (by have := HN.out; simp; omega) _))
        have HE2 := bhid (show (w7.setCell ⟨w4.heap.size + 1, 1, none⟩ (.string (S tx.1))).heap[w4.heap.size + 1]? = some (.cells (rdC k3.2 (1 + 1)) 119) by
          have h := bk_put3 (j := 1) (u := .string (S tx.1)) HQ.out
          rw [← HX0.out] at h ⊢
          exact h)
        have HE3 := bhid (show (w7.setCell ⟨w4.heap.size + 1, 1, none⟩ (.string (S tx.1))).heap[w.heap.size]? = _ from (bk_other (by have := HN2'.out; omega)).trans HP7.out)
        have HE4 := bhid (show (w7.setCell ⟨w4.heap.size + 1, 1, none⟩ (.string (S tx.1))).heap[w4.heap.size]? = _ from (bk_other (by omega)).trans HX7.out)
        have HE5 := bhid (show But b w (w7.setCell ⟨w4.heap.size + 1, 1, none⟩ (.string (S tx.1))) by
          have h1 := HU.out.trans hU7
          refine ⟨h1.os, h1.tape, h1.output, by have := h1.size; simpa [World.setCell] using this, fun k hk hn => ?_⟩
          exact (bk_other (by have := HN2'.out; omega)).trans (h1.block k hk hn))
        clear hb7 hr7 hu7 hU7
        go_wp2
        go_roundw
        case rel => first | exact ⟨1 + 1, by omega, by first | rfl | go_num, HE1, HE2, HE3, HE4, HE5⟩ | ((repeat apply Exists.intro); exact ⟨⟨1 + 1, by omega, by first | rfl | go_num, HE1, HE2, HE3, HE4, HE5⟩, rfl⟩)
        case measure => simp [intOf]
      · 
        have HC := bhid (show wr.heap[w4.heap.size + 1]? = some (.cells (rdC k3.2 2) 119) from HA.out)
        obtain ⟨_, _, _, f0, f1, f2⟩ := bk_box3 (show wr.heap[w4.heap.size + 1]? = some (.cells #[_, _, _] 119) from HC.out)
        have HRN := bhid (rnum_any 2 b (rdS k3.2 2) wr HR.out (by decide))
        have HTK := bhid (fun u (hu : RdB u b (numR 2 (rdS k3.2 2)).2) => bktake_any (numR 2 (rdS k3.2 2)).1 b (numR 2 (rdS k3.2 2)).2 u hu)
        have HTX := bhid (show takeR (numR 2 (rdS k3.2 2)).1 (numR 2 (rdS k3.2 2)).2 = txR (rdS k3.2 2) by simp only [txR])
        rw [HTX.out] at HTK
        have HX0 := bhid (show rdX k3.2 2 = S (txR (rdS k3.2 2)).1 by simp only [rdX])
        have HS1 := bhid (show rdS k3.2 (2 + 1) = (txR (rdS k3.2 2)).2 from rdS_succ _ _)
        generalize txR (rdS k3.2 2) = tx at *
        generalize numR 2 (rdS k3.2 2) = n2 at *
        go_wp2_with fail
        refine HRN.out.mono ?_
        rintro e w6 ⟨rfl, hr6, hu6⟩
        have HTK6 := bhid (HTK.out w6 hr6)
        have HU6 := bhid hu6
        clear hr6 hu6 HTK
        go_wp2_with fail
        refine HTK6.out.mono ?_
        rintro e w7 ⟨a7, c7, rfl, hb7, hr7, hu7⟩
        have t7 := by_text hb7
        have hU7 : But b wr w7 := HU6.out.trans hu7
        have HQ := bhid (hU7.obj HC.out (by have := HN.out; omega))
        have HP7 := bhid (hU7.obj HPX.out (by have := HBL.out; omega))
        have HX7 := bhid (hU7.obj HXX.out (by have := HN.out; omega))
        obtain ⟨_, _, _, g0, g1, g2⟩ := bk_box3 (show w7.heap[w4.heap.size + 1]? = some (.cells #[_, _, _] 119) from HQ.out)
        have HE1 := bhid (show RdB (w7.setCell ⟨w4.heap.size + 1, 2, none⟩ (.string (S tx.1))) b (rdS k3.2 (2 + 1)) by
          rw [HS1.out]
          exact hr7.far ((Below.refl _ _).setCell (by have := HN.out; simp; omega) _))
        have HE2 := bhid (show (w7.setCell ⟨w4.heap.size + 1, 2, none⟩ (.string (S tx.1))).heap[w4.heap.size + 1]? = some (.cells (rdC k3.2 (2 + 1)) 119) by
          have h := bk_put3 (j := 2) (u := .string (S tx.1)) HQ.out
          rw [← HX0.out] at h ⊢
          exact h)
        have HE3 := bhid (show (w7.setCell ⟨w4.heap.size + 1, 2, none⟩ (.string (S tx.1))).heap[w.heap.size]? = _ from (bk_other (by have := HN2'.out; omega)).trans HP7.out)
        have HE4 := bhid (show (w7.setCell ⟨w4.heap.size + 1, 2, none⟩ (.string (S tx.1))).heap[w4.heap.size]? = _ from (bk_other (by omega)).trans HX7.out)
        have HE5 := bhid (show But b w (w7.setCell ⟨w4.heap.size + 1, 2, none⟩ (.string (S tx.1))) by
          have h1 := HU.out.trans hU7
          refine ⟨h1.os, h1.tape, h1.output, by have := h1.size; simpa [World.setCell] using this, fun k hk hn => ?_⟩
          exact (bk_other (by have := HN2'.out; omega)).trans (h1.block k hk hn))
        clear hb7 hr7 hu7 hU7
        go_wp2
        go_roundw
        case rel => first | exact ⟨2 + 1, by omega, by first | rfl | go_num, HE1, HE2, HE3, HE4, HE5⟩ | ((repeat apply Exists.intro); exact ⟨⟨2 + 1, by omega, by first | rfl | go_num, HE1, HE2, HE3, HE4, HE5⟩, rfl⟩)
        case measure => simp [intOf]
end Go.Proofs.YtaaenhjhjclilabDoor
