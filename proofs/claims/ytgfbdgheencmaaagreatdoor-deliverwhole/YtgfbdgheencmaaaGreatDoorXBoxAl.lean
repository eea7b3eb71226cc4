/-
  A batch is done whole, or not at all: the walks of All and Apply.
-/
import Derived.Test.YtgfbdgheencmaaaGreatDoorXQBoxDo4
namespace Go.Proofs.YtgfbdgheencmaaaGreatDoor
open Go.RowKit Go.Proofs
def AllP (w : World) (r : Except Int Stt) (e : Ending) (w' : World) : Prop := Below w.heap.size w w' ∧ match r with
 | .error z => e = .returned (.tuple #[.agg #[.slice none 0 0, .slice none 0 0], .int .i64 z])
 | .ok s' => ∃ vb vs vm, e = .returned (.tuple #[.agg #[vb, vs], .int .i64 0]) ∧ OwnS w.heap.size w' vb vs vm s'
theorem jdr : ∀ (a b : List Ent) (s : Stt), allM s (a ++ b) = match allM s a with | .error e => .error e | .ok s' => allM s' b := by
 intro a
 induction a with
 | nil => intro b s; rfl
 | cons x a ih =>
   intro b s; simp only [List.cons_append, allM]; cases doM s x with
   | error e => rfl
   | ok s' => exact ih b s'
theorem jds (s : Stt) (x : Ent) : allM s [x] = doM s x := by
 simp only [allM]; cases doM s x <;> rfl
theorem jeb {s s' : Stt} {l : List Ent} {k : Nat} {x : Ent} (h : allM s (l.take k) = .ok s') (hx : l[k]? = some x) : allM s (l.take (k + 1)) = doM s' x := by
 have hk : k < l.length := (List.getElem?_eq_some_iff.1 hx).1; rw [List.take_succ_eq_append_getElem hk, (List.getElem?_eq_some_iff.1 hx).2, jdr, h]; exact jds s' x
theorem jir {s s' : Stt} {l : List Ent} {k : Nat} {x : Ent} {z : Int} (h : allM s (l.take k) = .ok s') (hx : l[k]? = some x) (hd : doM s' x = .error z) : allM s l = .error z := by
 have h1 := jeb h hx; rw [hd] at h1; have h2 := jdr (l.take (k + 1)) (l.drop (k + 1)) s; rw [List.take_append_drop, h1] at h2; exact h2
theorem jkH {s : Stt} {i : Nat} {f : Int} {t : List UInt8} {z : Int} (h : addM s i f t = .error z) : z ≠ 0 := by
 unfold addM at h; split at h
 · cases h; decide
 · split at h
   · cases h; decide
   · cases h
theorem jfA {s : Stt} {x : Ent} {z : Int} (h : doM s x = .error z) : z ≠ 0 := by
 unfold doM at h
 repeat' (first | (cases h; done) | (cases h; decide) | exact jkH h | split at h)
theorem Sto.base {B B' p : Nat} {w : World} {s : Stt} (h : Sto B' p w s) (hB : B ≤ B') : Sto B p w s := by
 obtain ⟨vb, vs, vm, h1, h2, h3, h4⟩ := h; exact ⟨vb, vs, vm, h1, h2.base hB, h3, by omega⟩
set_option maxHeartbeats 1000000 in
set_option maxRecDepth 100000 in
theorem jfh (s : Stt) (vb vs : Value) (l : List Ent) (a : Option Addr) (c : Nat) (w : World) (Q : Nat → Prop) (hS : SttM Q w vb vs s) (hM : May s) (hL : EntsM Q w (.slice a l.length c) l) (hl : l.length ≤ 10) (hF : ∀ x ∈ l, Formed x) :
 Calls Tryz.prog 8 #[.agg #[vb, vs], .slice a l.length c] w (AllP w (allM s l)) := by
 obtain ⟨ab, cb, rfl⟩ := RowM.slice hS.1; obtain ⟨aq, cq, rfl⟩ := RowM.slice hS.2.1; obtain ⟨r, hr⟩ : ∃ r, r = allM s l := ⟨_, rfl⟩; rw [← hr]; have HRE := hid hr; obtain ⟨W0, hW0⟩ : ∃ W0, W0 = (w.alloc (.cells #[.slice ab s.boxes.length cb, .slice aq s.spool.length cq] 32)).alloc (.cells #[.slice none 0 0, .slice none 0 0] 32) := ⟨_, rfl⟩; have HWE := hid hW0; have hB0 : Below w.heap.size w W0 := by rw [hW0]; exact (nb0 _ _).alloc (by simp) _
 have HB0 := hid hB0; have HZ0 := hid (show W0.heap.size = w.heap.size + 2 by rw [hW0]; simp); have hR : W0.heap[w.heap.size + 1]? = some (.cells #[.slice none 0 0, .slice none 0 0] 32) := by rw [hW0]; have := heap_alloc_new (w.alloc (.cells #[.slice ab s.boxes.length cb, .slice aq s.spool.length cq] 32)) (.cells #[.slice none 0 0, .slice none 0 0] 32); simpa using this
 have HR := hid hR; have x0 : W0.cell? ⟨w.heap.size, 0, none⟩ = some (.slice ab s.boxes.length cb) := by rw [hW0]; exact jz (by simp) _
 have x1 : W0.cell? ⟨w.heap.size, 1, none⟩ = some (.slice aq s.spool.length cq) := by rw [hW0]; exact jz (by simp) _
 have HC := hid (jge s _ _ W0 Q (hS.next hB0) hM); have HSO := hid (fun u (hu : Below W0.heap.size W0 u) => jh9 s _ _ u Q ((hS.next hB0).next hu) hM); have HL := hid (hL.next hB0); have HF := hid hF; have HM := hid hM; have n1 : ¬ (10 : Int) < (l.length : Int) := by omega
 clear hS hM hW0 hB0 hR hL hF hr; go_enter Tryz.func8, Tryz.ntmps8; go_wp2_with fail; rw [← HWE.out]; refine HC.out.mono ?_; rintro e w1 ⟨rfl, hb1⟩; have y0 := jb x0 hb1; have y1 := jb x1 hb1; have HB1 := hid hb1; have HSO1 := hid (HSO.out w1 hb1); clear hb1; go_wp2_with fail; refine HSO1.out.mono ?_; rintro e w2 ⟨vb, vs, vm, rfl, hO, hb2⟩; obtain ⟨a1, c1, rfl⟩ := js hO.boxes; obtain ⟨a2, c2, rfl⟩ := js hO.spool; simp only; obtain ⟨W3, hW3⟩ : ∃ W3, W3 = w2.alloc (.cells #[.slice a1 s.boxes.length c1, .slice a2 s.spool.length c2] 88) := ⟨_, rfl⟩; have HWE3 := hid hW3; have hb3 : Below w2.heap.size w2 W3 := by rw [hW3]; exact nb0 _ _
 have HB3 := hid (show Below W0.heap.size W0 W3 from (HB1.out.trans (hb2.mono HB1.out.size)).trans (hb3.mono (Nat.le_trans HB1.out.size hb2.size))); have HST := hid (show Sto W0.heap.size w2.heap.size W3 s from ⟨_, _, vm, by rw [hW3]; exact heap_alloc_new w2 _, (hO.base HB1.out.size).next hb3, fun h => by have := (hO.lt h).2; omega, Nat.le_trans HB1.out.size hb2.size⟩); clear hO hb2 hW3 hb3; go_wp2; rw [← HWE3.out]; obtain ⟨p, hp⟩ : ∃ p, p = w2.heap.size := ⟨_, rfl⟩; rw [← hp] at HST ⊢; clear hp
 go_loopw [26] (fun v wr => ∃ (k : Nat) (sk : Stt), k ≤ l.length ∧ v = .int .i64 k ∧ Hid (allM s (l.take k) = .ok sk) ∧ Hid (Sto W0.heap.size p wr sk) ∧ Hid (Below W0.heap.size W0 wr)) (fun v _ => l.length - (intOf v).toNat)
 case atStart => exact ⟨0, s, Nat.zero_le _, rfl, rfl, HST, HB3⟩
 case round =>
  obtain ⟨k, sk, hk, rfl, HA, HS, HB⟩ := hrel; have hR1 := jY HB.out HR.out; have HR1 := hid hR1
  by_cases hlt : k < l.length
  · have k1 : (k : Int) < (l.length : Int) := by omega
    have k0 : (0 : Int) ≤ (k : Int) := by omega
    obtain ⟨x, hx⟩ : ∃ x, l[k]? = some x := ⟨_, List.getElem?_eq_getElem hlt⟩; obtain ⟨b, o, rfl, _, e0, e1, e2, e3, e4, e5⟩ := (HL.out.next HB.out).at hx; have hFx := HF.out x (List.mem_of_getElem? hx); have hMk : May sk := jbF HM.out (fun y hy => HF.out y (List.mem_of_mem_take hy)) HA.out; obtain ⟨W4, hW4⟩ : ∃ W4, W4 = wr.alloc (.cells #[.int .i64 x.kind, .string (S x.box), .int .i64 x.uid, .int .i64 x.flags, .string (S x.goal), .string (S x.text)] 48) := ⟨_, rfl⟩; have HWE4 := hid hW4; have hb4 : Below wr.heap.size wr W4 := by rw [hW4]; exact nb0 _ _
    have hX4 : W4.heap[wr.heap.size]? = some (.cells #[.int .i64 x.kind, .string (S x.box), .int .i64 x.uid, .int .i64 x.flags, .string (S x.goal), .string (S x.text)] 48) := by rw [hW4]; exact heap_alloc_new wr _
    have HX4 := hid hX4; have HB4 := hid (show Below W0.heap.size W0 W4 from HB.out.trans (hb4.mono HB.out.size)); have HFO := hid (ji8 x W4 hFx); have HDO := hid (fun u (hu : Below W4.heap.size W4 u) => jmU W0.heap.size p sk x u ((HS.out.next hb4).next hu) hMk hFx); have HNX := hid (fun s' (h : doM sk x = .ok s') => (jeb HA.out hx).trans h); have HST2 := hid (fun z (h : doM sk x = .error z) => jir HA.out hx h); clear hx hFx hMk hW4 hX4 hb4 hR1; go_wp2_with fail; rw [← HWE4.out]; refine HFO.out.mono ?_; rintro e w5 ⟨rfl, hb5⟩; obtain ⟨z0, z1, z2, z3, z4, z5⟩ := jdw (jY hb5 HX4.out); have HDO5 := hid (HDO.out w5 hb5); have HB5 := hid (show Below W0.heap.size W0 w5 from HB4.out.trans (hb5.mono HB4.out.size)); clear hb5; go_wp2_with fail; refine HDO5.out.mono ?_; intro e w6 hd; have HB6 := hid (show Below W0.heap.size W0 w6 from HB5.out.trans hd.1); cases hdo : doM sk x with
    | ok s' =>
      rw [hdo] at hd; obtain ⟨_, rfl, hS6⟩ := hd; have HS6 := hid hS6; have HA6 := hid (HNX.out s' hdo); clear hdo hS6; simp only; go_wp2
      go_roundw
      case rel => first | exact ⟨k + 1, s', by omega, by go_num, HA6, HS6, HB6⟩ | ((repeat apply Exists.intro); exact ⟨⟨k + 1, s', by omega, by go_num, HA6, HS6, HB6⟩, rfl⟩)
      case measure => simp [intOf]; omega
    | error z =>
      rw [hdo] at hd; obtain ⟨_, rfl⟩ := hd; have HZ := hid (HST2.out z hdo); have hzn := jfA hdo; have hz' : ¬ z = 0 := hzn; have hz'' : (z == 0) = false := by simp [hzn]
      have hR6 := jY HB6.out HR.out; obtain ⟨u0, u1, h0, h1⟩ := zr hR6; obtain ⟨v0, v1, j0, j1⟩ := zr (jW (u0 := .slice none 0 0) (u1 := .slice none 0 0) hR6); have HE := hid (show AllP w r (.returned (.tuple #[.agg #[.slice none 0 0, .slice none 0 0], .int .i64 z])) ((w6.setCell ⟨w.heap.size + 1, 0, none⟩ (.slice none 0 0)).setCell ⟨w.heap.size + 1, 1, none⟩ (.slice none 0 0)) by
       rw [HRE.out, HZ.out]; exact ⟨((HB0.out.trans (HB6.out.mono HB0.out.size)).setCell (Nat.le_succ _) _).setCell (Nat.le_succ _) _, rfl⟩)
      clear hdo hR6 hzn; simp only; go_wp2; refine bodyPost_ret (v := .tuple #[.agg #[.slice none 0 0, .slice none 0 0], .int .i64 z]) (by simp [results, Tryz.results8, go_sem, *]) rfl ?_; exact HE.out
  · have k1 : ¬ (k : Int) < (l.length : Int) := by omega
    obtain ⟨vb', vs', vm', hp', hO', hn', hBp'⟩ := HS.out; obtain ⟨a5, c5, rfl⟩ := js hO'.boxes; obtain ⟨a6, c6, rfl⟩ := js hO'.spool; obtain ⟨s0, s1, _, _⟩ := zr hp'; obtain ⟨u0, u1, h0, h1⟩ := zr hR1; obtain ⟨v0, v1, j0, j1⟩ := zr (jW (u0 := .slice a5 sk.boxes.length c5) (u1 := .slice a6 sk.spool.length c6) hR1); have HE := hid (show AllP w r (.returned (.tuple #[.agg #[.slice a5 sk.boxes.length c5, .slice a6 sk.spool.length c6], .int .i64 0])) ((wr.setCell ⟨w.heap.size + 1, 0, none⟩ (.slice a5 sk.boxes.length c5)).setCell ⟨w.heap.size + 1, 1, none⟩ (.slice a6 sk.spool.length c6)) by
        have hA := HA.out; rw [List.take_of_length_le (by omega)] at hA; rw [HRE.out, hA]; refine ⟨((HB0.out.trans (HB.out.mono HB0.out.size)).setCell (Nat.le_succ _) _).setCell (Nat.le_succ _) _, _, _, vm', rfl, (hO'.base HB0.out.size).keep fun q hq => ?_⟩; have hq' : q ≠ w.heap.size + 1 := by have := (hO'.lt hq).1; have := HZ0.out; omega
        exact (jk hq').trans (jk hq'))
    clear hp' hO' hn' hR1; go_wp2; refine bodyPost_ret (v := .tuple #[.agg #[.slice a5 sk.boxes.length c5, .slice a6 sk.spool.length c6], .int .i64 0]) (by simp [results, Tryz.results8, go_sem, *]) rfl ?_; exact HE.out
end Go.Proofs.YtgfbdgheencmaaaGreatDoor
