/-
  A state that may be is found so: the walks.
-/
import Derived.Test.YtkkkbggbeihbnaaDoorBoxFm
namespace Go.Proofs.YtkkkbggbeihbnaaDoor
open Go.RowKit Go.Proofs

theorem BoxsM.take {Q : Nat → Prop} {w : World} {a : Option Addr} {n c : Nat} {l : List Bx} (h : BoxsM Q w (.slice a n c) l) (i : Nat) (hi : i ≤ l.length) : BoxsM Q w (.slice a (l.take i).length c) (l.take i) := by
  obtain ⟨a', c', hv, hm, hr⟩ := h
  simp only [Value.slice.injEq] at hv
  obtain ⟨rfl, _, rfl⟩ := hv
  refine ⟨_, _, rfl, by rw [List.length_take]; omega, fun j x hx => ?_⟩
  have hj : j < i := by have := (List.getElem?_eq_some_iff.1 hx).1; rw [List.length_take] at this; omega
  rw [List.getElem?_take_of_lt hj] at hx
  exact hr j x hx
theorem no_name {l : List Bx} {i : Nat} {b : Bx} (hn : (l.map Bx.name).Nodup) (hb : l[i]? = some b) : idxZ (isName b.name) (l.take i) = -1 := by
  refine idxZ_miss fun (j : Nat) y hj hy => ?_
  have hj' : j < i := by rw [List.length_take] at hj; omega
  rw [List.getElem?_take_of_lt hj'] at hy
  unfold isName
  rw [decide_eq_false_iff_not]
  intro e
  have h1 : (l.map Bx.name)[j]? = some b.name := by rw [List.getElem?_map, hy]; simp [e]
  have h2 : (l.map Bx.name)[i]? = some b.name := by rw [List.getElem?_map, hb]; rfl
  have hil : i < (l.map Bx.name).length := (List.getElem?_eq_some_iff.1 h2).1
  have := (List.getElem?_inj (by omega) hn).1 (h1.trans h2.symm)
  omega
set_option maxHeartbeats 1000000 in
set_option maxRecDepth 100000 in
theorem conEn (l : List Ent) (p : Ent → Bool) (a : Option Addr) (c f : Nat) (cap : Array Value) (eg : ∀ args w, (callFunc f args).run Tryd.prog w = .ok (.enter f args) w) (w : World) (Q : Nat → Prop) (hL : EntsM Q w (.slice a l.length c) l)
    (hf : ∀ (x : Ent) u, x ∈ l → Below w.heap.size w u → Calls Tryd.prog f (#[.agg #[.int .i64 x.kind, .string (S x.box), .int .i64 x.uid, .int .i64 x.flags, .string (S x.goal), .string (S x.text)]] ++ cap) u fun e u' => e = .returned (.bool (p x)) ∧ Below u.heap.size u u') :
    Calls Tryd.prog 59 #[.slice a l.length c, .func (.func f) #[] cap] w fun e w' => e = .returned (.bool (decide (0 ≤ idxZ p l))) ∧ Below w.heap.size w w' := by
  have HI := hid (idxEn l p a c f cap eg w Q hL hf)
  generalize idxZ p l = z at *
  clear hL hf
  go_enter Tryd.func59, Tryd.ntmps59
  go_wp2_with fail
  refine HI.out.mono ?_
  rintro e w1 ⟨rfl, hb⟩
  simp only
  have HB := hid hb
  clear hb
  go_wp2
  go_ret
  exact ⟨by first | rfl | simp, HB.out⟩
set_option maxHeartbeats 1000000 in
set_option maxRecDepth 100000 in
theorem noSpool_any (x : Ent) (w : World) (hk : x.kind = 6) (hx : Formed x) :
    Calls Tryd.prog 60 #[.agg #[.int .i64 x.kind, .string (S x.box), .int .i64 x.uid, .int .i64 x.flags, .string (S x.goal), .string (S x.text)]] w fun e w' => e = .returned (.bool false) ∧ Below w.heap.size w w' := by
  obtain ⟨k, bx, u, f, g, t⟩ := x
  simp only at hk
  subst hk
  obtain ⟨W1, hW1⟩ : ∃ W1, W1 = w.alloc (.cells #[.int .i64 6, .string (S bx), .int .i64 u, .int .i64 f, .string (S g), .string (S t)] 70) := ⟨_, rfl⟩
  have HWE := hid hW1
  have HB1 := hid (show Below w.heap.size w W1 by rw [hW1]; exact (Below.refl _ _).alloc (Nat.le_refl _) _)
  have HC : Hid (Calls Tryd.prog 28 #[.agg #[.int .i64 6, .string (S bx), .int .i64 u, .int .i64 f, .string (S g), .string (S t)]] W1 fun e w' => e = .returned (.int .i64 0) ∧ Below W1.heap.size W1 w') := form_ok ⟨6, bx, u, f, g, t⟩ W1 hx
  simp only
  clear hW1 hx
  go_enter Tryd.func60, Tryd.ntmps60
  go_wp2_with fail
  rw [← HWE.out]
  refine HC.out.mono ?_
  rintro e w2 ⟨rfl, hb⟩
  have HB2 := hid (HB1.out.trans (hb.mono HB1.out.size))
  clear hb
  go_wp2
  go_ret
  exact ⟨by first | rfl | simp, HB2.out⟩
set_option maxHeartbeats 1000000 in
set_option maxRecDepth 100000 in
theorem mayBe_ok (s : Stt) (vb vs : Value) (w : World) (Q : Nat → Prop) (hS : SttM Q w vb vs s) (hM : May s) :
    Calls Tryd.prog 37 #[.agg #[vb, vs]] w fun e w' => e = .returned (.bool true) ∧ Below w.heap.size w w' := by
  obtain ⟨ab, cb, rfl⟩ := RowM.slice hS.1
  obtain ⟨aq, cs, rfl⟩ := RowM.slice hS.2.1
  have hcap := hS.2.2 _ _ _ rfl
  obtain ⟨W1, hW1⟩ : ∃ W1, W1 = w.alloc (.cells #[.slice ab s.boxes.length cb, .slice aq s.spool.length cs] 29) := ⟨_, rfl⟩
  have HWE := hid hW1
  have hB1 : Below w.heap.size w W1 := by rw [hW1]; exact (Below.refl _ _).alloc (Nat.le_refl _) _
  have HB1 := hid hB1
  have hX : W1.heap[w.heap.size]? = some (.cells #[.slice ab s.boxes.length cb, .slice aq s.spool.length cs] 29) := by rw [hW1]; exact heap_alloc_new w _
  have x0 : W1.cell? ⟨w.heap.size, 0, none⟩ = some (.slice ab s.boxes.length cb) := by simp [World.cell?, hX]
  have x1 : W1.cell? ⟨w.heap.size, 1, none⟩ = some (.slice aq s.spool.length cs) := by simp [World.cell?, hX]
  have HS := hid (hS.next hB1)
  have HM := hid hM
  have n1 : ¬ (5 : Int) < (s.boxes.length : Int) := by have := hM.boxes; omega
  have n2 : ¬ (20 : Int) < (s.spool.length : Int) := by have := hM.spool; omega
  have nz : (sizeB s.boxes : Int) ≤ 6000 := by have := hM.size; omega
  have eg : ∀ args w, (callFunc 60 args).run Tryd.prog w = .ok (.enter 60 args) w := enters_of Tryd.func60 (by kernel_rfl) rfl
  have HEG := hid eg
  clear hS hM hW1 hX hB1 eg
  go_enter Tryd.func37, Tryd.ntmps37
  go_wp2
  rw [← HWE.out]
  go_loopw [18] (fun v wr => ∃ i : Nat, i ≤ s.boxes.length ∧ v = .int .i64 i ∧ Hid (Below W1.heap.size W1 wr)) (fun v _ => s.boxes.length - (intOf v).toNat)
  case atStart => exact ⟨0, Nat.zero_le _, rfl, Below.refl _ _⟩
  case round =>
    obtain ⟨i, hi, rfl, HB⟩ := hrel
    have y0 := wcell_next x0 HB.out
    have y1 := wcell_next x1 HB.out
    by_cases hlt : i < s.boxes.length
    · have i1 : (i : Int) < (s.boxes.length : Int) := by omega
      have i0 : (0 : Int) ≤ (i : Int) := by omega
      have i2 : (i : Int) ≤ (cb : Int) := by omega
      obtain ⟨b, hb⟩ : ∃ b, s.boxes[i]? = some b := ⟨_, List.getElem?_eq_getElem hlt⟩
      have hBS := HS.out.1.next HB.out
      obtain ⟨p, o, v, rfl, _, e0, e1, e2, hm⟩ := hBS.at hb
      obtain ⟨am, cm, rfl⟩ := RowM.slice hm
      obtain ⟨W2, hW2⟩ : ∃ W2, W2 = wr.alloc (.cells #[.string (S b.name), .int .i64 b.next, .slice am b.mails.length cm] 65) := ⟨_, rfl⟩
      have HWE2 := hid hW2
      have hB2 : Below wr.heap.size wr W2 := by rw [hW2]; exact (Below.refl _ _).alloc (Nat.le_refl _) _
      have hX2 : W2.heap[wr.heap.size]? = some (.cells #[.string (S b.name), .int .i64 b.next, .slice am b.mails.length cm] 65) := by rw [hW2]; exact heap_alloc_new wr _
      obtain ⟨m0, m1, m2⟩ := box3 hX2
      have z0 := wcell_next y0 hB2
      have HBM := hid (fun u (hu : Below W2.heap.size W2 u) => boxMayBe_ok b (.slice am b.mails.length cm) u Q ((hm.next hB2).next hu) (HM.out.each b (List.mem_of_getElem? hb)))
      have HNN := hid (no_name HM.out.names hb)
      have hlen : (s.boxes.take i).length = i := by rw [List.length_take]; omega
      have HIX := hid (fun u (hu : Below W2.heap.size W2 u) => by
        have := indexOfBox_any (s.boxes.take i) b.name (some ⟨p, o, none⟩) cb u Q (((hBS.next hB2).next hu).take i (by omega))
        rw [hlen, HNN.out] at this
        exact this)
      have HB3 := hid (show Below W1.heap.size W1 W2 from HB.out.trans (hB2.mono HB.out.size))
      clear hb hW2 hX2 hB2 hm hBS hlen
      go_wp2
      rw [← HWE2.out]
      go_cut [35] (fun c wx => c = .bool false ∧ Below W2.heap.size W2 wx)
      case first =>
        go_region_held3 (fun w' => w'.cell? ⟨wr.heap.size, 0, none⟩ = some (.string (S b.name)) ∧ w'.cell? ⟨wr.heap.size, 1, none⟩ = some (.int .i64 b.next) ∧ w'.cell? ⟨wr.heap.size, 2, none⟩ = some (.slice am b.mails.length cm) ∧ w'.cell? ⟨w.heap.size, 0, none⟩ = some (.slice (some ⟨p, o, none⟩) s.boxes.length cb)) (go_keep)
          (first
            | (go_at_call 46
               with_reducible refine (HIX.out _ HB4.out).mono ?_
               rintro e w4 ⟨rfl, hb⟩
               have HB5 := hid (HB4.out.trans (hb.mono HB4.out.size))
               have q0 := wcell_next k0 hb
               have q1 := wcell_next k1 hb
               have q2 := wcell_next k2 hb
               have q3 := wcell_next k3 hb
               clear hb)
            | (go_at_call 57
               with_reducible refine (HBM.out W2.drew ((Below.refl _ _).drew)).mono ?_
               rintro e w3 ⟨rfl, hb⟩
               have hb2 : Below W2.heap.size W2 w3 := (Below.refl _ _).drew.trans hb
               have HB4 := hid hb2
               have k0 := wcell_next m0 hb2
               have k1 := wcell_next m1 hb2
               have k2 := wcell_next m2 hb2
               have k3 := wcell_next z0 hb2
               clear hb hb2))
        all_goals
          go_wp2_with fail
          go_meet
          exact ⟨by first | rfl | simp, HB5.out⟩
      case rest =>
        obtain ⟨rfl, hb⟩ := hcut
        have HB6 := hid (show Below W1.heap.size W1 wc from HB3.out.trans (hb.mono HB3.out.size))
        clear hb
        go_wp2
        go_roundw
        case rel => first | exact ⟨i + 1, by omega, by go_num, HB6⟩ | ((repeat apply Exists.intro); exact ⟨⟨i + 1, by omega, by go_num, HB6⟩, rfl⟩)
        case measure => simp [intOf]; omega
    · have i1 : ¬ (i : Int) < (s.boxes.length : Int) := by omega
      have HSZ := hid (sizeOf_any s.boxes ab cb wr Q (HS.out.1.next HB.out) HM.out.size)
      have HCF := hid (fun u (hu : Below wr.heap.size wr u) => conEn s.spool (fun _ => false) aq cs 60 #[] HEG.out u Q ((HS.out.2.1.next HB.out).next hu) (fun x u' hx _ => noSpool_any x u' (HM.out.out x hx).1 (HM.out.out x hx).2))
      have HIZ := hid (show decide (0 ≤ idxZ (fun _ : Ent => false) s.spool) = false by rw [idxZ_miss (fun _ _ _ _ => rfl)]; rfl)
      go_wp2_with fail
      refine HSZ.out.mono ?_
      rintro e w2 ⟨rfl, hb⟩
      have HB2 := hid (show Below w.heap.size w w2 from (HB1.out.trans (HB.out.mono HB1.out.size)).trans (hb.mono (Nat.le_trans HB1.out.size HB.out.size)))
      have q1 := wcell_next y1 hb
      have HC2 := hid (HCF.out w2 hb)
      clear hb
      go_wp2_with fail
      refine HC2.out.mono ?_
      rw [HIZ.out]
      rintro e w3 ⟨rfl, hb⟩
      have HB3 := hid (HB2.out.trans (hb.mono HB2.out.size))
      clear hb
      go_wp2
      go_ret
      exact ⟨by first | rfl | simp, HB3.out⟩
set_option maxHeartbeats 1000000 in
set_option maxRecDepth 100000 in
theorem check_ok (s : Stt) (vb vs : Value) (w : World) (Q : Nat → Prop) (hS : SttM Q w vb vs s) (hM : May s) :
    Calls Tryd.prog 26 #[.agg #[vb, vs]] w fun e w' => e = .returned (.int .i64 0) ∧ Below w.heap.size w w' := by
  obtain ⟨W1, hW1⟩ : ∃ W1, W1 = w.alloc (.cells #[vb, vs] 29) := ⟨_, rfl⟩
  have HWE := hid hW1
  have hB1 : Below w.heap.size w W1 := by rw [hW1]; exact (Below.refl _ _).alloc (Nat.le_refl _) _
  have HB1 := hid hB1
  have HC := hid (mayBe_ok s vb vs W1 Q (hS.next hB1) hM)
  clear hS hM hW1 hB1
  go_enter Tryd.func26, Tryd.ntmps26
  go_wp2_with fail
  rw [← HWE.out]
  refine HC.out.mono ?_
  rintro e w2 ⟨rfl, hb⟩
  have HB2 := hid (HB1.out.trans (hb.mono HB1.out.size))
  clear hb
  go_wp2
  go_ret
  exact ⟨rfl, HB2.out⟩
end Go.Proofs.YtkkkbggbeihbnaaDoor
