/-
  What the reader's tests does, over what its test does: the walk.
-/
import Derived.Test.YtlfgemnmfhknfaaGreatDoorYQScrNum6
import Derived.Test.YtlfgemnmfhknfaaGreatDoorYScrCk
namespace Go.Proofs.YtlfgemnmfhknfaaGreatDoor
open Go.RowKit Go.Proofs
def TstR (Q : Nat → Prop) (n : Nat) (t : Tst) (w : World) (v : Value) : Prop := ∃ cs : List Value, v = .agg cs.toArray ∧ TstM Q n w t cs
def RdT (n : Nat) : Prop := ∀ (d : Nat) (b : Nat) (A : Option Addr) (C : Nat) (L r : List Tok) (w : World), RdS w b A C L r → WordsAt w → 3 < b → r.length < n → d ≤ 7 →
    Calls Tryz.prog 196 #[.pointer (some ⟨b, 0, none⟩), .int .i64 d] w (Rp b w A C L (fun t w' v => TstR (newB w.heap.size) n t w' v) (jw n d r))
set_option maxHeartbeats 8000000 in
set_option maxRecDepth 100000 in
theorem jen (n : Nat) (ih : RdT n) (d b : Nat) (A : Option Addr) (C : Nat) (L r : List Tok) (w : World) (h : RdS w b A C L r) (hw : WordsAt w) (hG : 3 < b) (hn : r.length ≤ n) (hd : d ≤ 7) :
    Calls Tryz.prog 230 #[.pointer (some ⟨b, 0, none⟩), .int .i64 d] w (Rp b w A C L (fun l w' v => TstsM (newB w.heap.size) n w' v l ∧ l ≠ []) (zD (jw n d) r)) := by
  have H := hid h; have HW := hid hw; have HIH := hid ih; have hbl := h.lt; have hsm := h.small; obtain ⟨i0, hi, hz0, hz1, hz2⟩ := info_parts jlR; clear h hw ih; go_enter Tryz.func230, Tryz.ntmps230; go_wp2_with fail; refine (j5 b A C L r 5 [40] w H.out (by omega)).mono ?_; cases h40 : ju 5 [40] r with
  | error m =>
    have HE := hid (show zD (jw n d) r = .error m by unfold zD; rw [h40]; rfl); clear h40; rintro e w1 ⟨rfl, hB1⟩; have HB1 := hid hB1; clear hB1; go_wp2; rw [HE.out]; exact ⟨rfl, rfl, HB1.out⟩
  | ok y =>
    obtain ⟨u0, q0⟩ := y; have hq0 := jG (zv h40); rintro e w1 ⟨v, rfl, rfl, hR1, hB1⟩; have HR1 := hid hR1; have HB1 := hid hB1; have HW1 := hid (HW.out.but hB1 hG); clear hR1 hB1; go_wp2_with fail; refine (HIH.out d b A C L q0 w1 HR1.out HW1.out hG (by omega) hd).mono ?_; cases hx : jw n d q0 with
    | error m =>
      have HE := hid (show zD (jw n d) r = .error m by unfold zD; rw [h40]; unfold jl; simp only; rw [hx]); clear h40 hx; rintro e w2 ⟨rfl, hB2⟩; have HB2 := hid (HB1.out.trans hB2); clear hB2; go_wp2; rw [HE.out]; exact ⟨rfl, rfl, HB2.out⟩
    | ok y =>
      obtain ⟨x, q1⟩ := y; have hq1 := jaK _ _ _ _ _ hx; have HL := hid (show zD (jw n d) r = jl (vr (jw n d) q1.length [x] q1) fun l q => jl (ju 5 [41] q) fun _ q => .ok (l, q) by
        unfold zD; rw [h40]; unfold jl; simp only; rw [hx])
      clear h40 hx; rintro e w2 ⟨v, rfl, ⟨cs, rfl, hT⟩, hR2, hB2⟩; obtain ⟨an, cn, ak, ck, at', ct, m0, _, rfl, _⟩ := zF hT; have HB2 := hid (HB1.out.trans hB2); have hsz := HB2.out.size; have hsz1 := HB1.out.size; have hsz2 := hB2.size; obtain ⟨W0, hW0⟩ : ∃ W0, W0 = w2.alloc (.cells ([.int .i64 x.kind, .int .i64 x.mat, .int .i64 x.part, .slice an x.names.length cn, .slice ak x.keys.length ck, .bool x.over, .int .i64 x.limit, .slice at' x.tests.length ct] : List Value).toArray 211) := ⟨_, rfl⟩; have hal : Below w2.heap.size w2 W0 := by rw [hW0]; exact (Below.refl _ _).alloc (Nat.le_refl _) _
      have hz0' : W0.heap.size = w2.heap.size + 1 := by rw [hW0]; simp
      have HO0 := hid (show OwnTs w.heap.size n W0 (.slice (some ⟨w2.heap.size, 0, none⟩) [x].length 1) [x] by
        refine ⟨[[.int .i64 x.kind, .int .i64 x.mat, .int .i64 x.part, .slice an x.names.length cn, .slice ak x.keys.length ck, .bool x.over, .int .i64 x.limit, .slice at' x.tests.length ct]], ?_, rfl, fun c hc => by simp at hc; rw [hc]; exact jjr hT, fun i y c hy hc => ?_⟩
        · rw [hW0]; exact ⟨by rfl, .inr ⟨w2.heap.size, 1, ([.int .i64 x.kind, .int .i64 x.mat, .int .i64 x.part, .slice an x.names.length cn, .slice ak x.keys.length ck, .bool x.over, .int .i64 x.limit, .slice at' x.tests.length ct] : List Value).toArray, rfl, hsz, heap_alloc_new w2 _, by simp, by unfold maxLen; omega, by rfl, by rfl⟩⟩
        · cases i with
          | succ i => simp at hy
          | zero =>
            simp at hy hc
            subst hy; subst hc; refine TstM.imp (fun k hk => ?_) (Keeps.of_below hal) _ _ _ (TstM.both _ _ _ hT); have h1 : w1.heap.size ≤ k := hk.1; have h2 : k < w2.heap.size := hk.2; exact ⟨by omega, by omega, fun e => by simp [Value.ownBlock] at e; omega⟩)
      have HR0 := hid (hR2.next hal); have HB0 := hid (show But b w W0 from HB2.out.trans (But.of hal)); have HWE := hid hW0; clear hR2 hB2 hW0 hal hT; go_wp2; rw [← HWE.out]
      go_loopw [5] (fun v wr => ∃ (acc : List Tst) (q : List Tok) (a0 : Option Addr) (c0 m : Nat), v = .slice a0 acc.length c0 ∧ OwnTs w.heap.size n wr (.slice a0 acc.length c0) acc ∧ RdS wr b A C L q ∧ q.length ≤ m ∧ q.length < n ∧ acc.length + q.length ≤ 401 ∧ acc ≠ [] ∧
          Hid (zD (jw n d) r = jl (vr (jw n d) m acc q) fun l q2 => jl (ju 5 [41] q2) fun _ q3 => .ok (l, q3)) ∧ But b w wr) (fun _ wr => vJ b L.length wr)
      case atStart => exact ⟨[x], q1, _, _, q1.length, rfl, HO0.out, HR0.out, Nat.le_refl _, by omega, by have := HR0.out.len; simp; omega, by simp, HL, HB0.out⟩
      case round =>
        obtain ⟨acc, q, a0, c0, m, rfl, hO, hRr, hqm, hqn, hacc, hne, hN, hBr⟩ := hrel; have HO := hid hO; have HRr := hid hRr; have HBr := hid hBr; have HM := hid (zT hRr); have HNE := hid hne; clear hO hRr hBr hne; go_wp2_with fail; refine (qt b A C L q 5 [44] wr HRr.out (by omega)).mono ?_; cases hs : zi 5 [44] q with
        | none =>
          have HE := hid (show zD (jw n d) r = jl (ju 5 [41] q) fun _ q3 => .ok (acc, q3) by rw [hN.out, jdX hs]; rfl); clear hs; rintro e w3 ⟨rfl, hR3, hB3⟩; have HR3 := hid hR3; have HB3 := hid (HBr.out.trans hB3); have HO3 := hid (HO.out.keep (vW n) hB3 hbl); clear hR3 hB3; go_wp2_with fail; refine (j5 b A C L q 5 [41] w3 HR3.out (by omega)).mono ?_; cases ht : ju 5 [41] q with
          | error mm =>
            have HF := hid (show zD (jw n d) r = .error mm by rw [HE.out, ht]; rfl); clear ht; rintro e w4 ⟨rfl, hB4⟩; have HB4 := hid (HB3.out.trans hB4); clear hB4; go_wp2; rw [HF.out]; exact ⟨rfl, rfl, HB4.out⟩
          | ok y =>
            obtain ⟨u, q3⟩ := y; have HF := hid (show zD (jw n d) r = .ok (acc, q3) by rw [HE.out, ht]; rfl); clear ht; rintro e w4 ⟨v, rfl, rfl, hR4, hB4⟩; have HR4 := hid hR4; have HB4 := hid (HB3.out.trans hB4); have HV := hid (show TstsM (newB w.heap.size) n w4 (.slice a0 acc.length c0) acc from (HO3.out.keep (vW n) hB4 hbl).rowM (vW n) (by unfold maxLen; omega)); clear hR4 hB4; go_wp2; go_ret; rw [HF.out]; exact ⟨_, rfl, ⟨HV.out, HNE.out⟩, HR4.out, HB4.out⟩
        | some q' =>
          have hql := jG hs; obtain ⟨m', rfl⟩ : ∃ m', m = m' + 1 := ⟨m - 1, by omega⟩; have HE := hid (show zD (jw n d) r = jl (jl (jw n d q') fun x q2 => vr (jw n d) m' (acc ++ [x]) q2) fun l q2 => jl (ju 5 [41] q2) fun _ q3 => .ok (l, q3) by rw [hN.out, jf4 hs]); clear hs; rintro e w3 ⟨rfl, hR3, hB3⟩; have HR3 := hid hR3; have HB3 := hid (HBr.out.trans hB3); have HO3 := hid (HO.out.keep (vW n) hB3 hbl); have HW3 := hid (HW.out.but HB3.out hG); clear hR3 hB3; go_wp2_with fail; refine (HIH.out d b A C L q' w3 HR3.out HW3.out hG (by omega) hd).mono ?_; cases ht : jw n d q' with
          | error mm =>
            have HF := hid (show zD (jw n d) r = .error mm by rw [HE.out, ht]; rfl); clear ht; rintro e w4 ⟨rfl, hB4⟩; have HB4 := hid (HB3.out.trans hB4); clear hB4; go_wp2; rw [HF.out]; exact ⟨rfl, rfl, HB4.out⟩
          | ok y =>
            obtain ⟨x2, q2⟩ := y; have hq2 := jaK _ _ _ _ _ ht; have HF := hid (show zD (jw n d) r = jl (vr (jw n d) m' (acc ++ [x2]) q2) fun l q2 => jl (ju 5 [41] q2) fun _ q3 => .ok (l, q3) by rw [HE.out, ht]; rfl); clear ht; rintro e w4 ⟨v, rfl, ⟨cs2, rfl, hT4⟩, hR4, hB4⟩; obtain ⟨an2, cn2, ak2, ck2, at2, ct2, m02, _, rfl, _⟩ := zF hT4; have HR4 := hid hR4; have HB4 := hid (HB3.out.trans hB4); obtain ⟨css, h1, h2, h3, h4⟩ := HO3.out.keep (vW n) hB4 hbl; have hrow3 : ∀ k, (Value.slice a0 acc.length c0).ownBlock = some k → k < w3.heap.size := fun k hk => by
              obtain ⟨_, g1, _⟩ := HO3.out; exact (World.ownsRow.lt g1 k hk).2
            have hsz4 := HB4.out.size; have hsz34 := hB4.size; have hsz3 := HB3.out.size; have HX := hid (show TstM (rowQ w.heap.size w4 (.slice a0 acc.length c0)) n w4 x2 [.int .i64 x2.kind, .int .i64 x2.mat, .int .i64 x2.part, .slice an2 x2.names.length cn2, .slice ak2 x2.keys.length ck2, .bool x2.over, .int .i64 x2.limit, .slice at2 x2.tests.length ct2] from TstM.imp (fun k hk => by
              have e1 : w3.heap.size ≤ k := hk.1; have e2 : k < w4.heap.size := hk.2; exact ⟨by omega, e2, fun e => by have := hrow3 k e.symm; omega⟩) (Keeps.refl _ _) _ _ _ (TstM.both _ _ _ hT4))
            have hlen2 := jjr hT4; have hone2 := jlN hT4; have H2 := hid h2; have H3 := hid h3; have H4 := hid h4; clear hR4 hB4 hT4 h2 h3 h4
            go_wp2_with (at_builtin; refine wpList_append_lies _ rfl _ _ 209 rfl w.heap.size 211 i0 _ 8 112 Tryz.underlying209 hi hz0 hz1 hz2 rfl (by decide) (.slice a0 acc.length c0) acc.length css.flatten rfl (World.ownsRow.alloc h1 _) ⟨w4.heap.size, 0, none⟩ 1 1 [.int .i64 x2.kind, .int .i64 x2.mat, .int .i64 x2.part, .slice an2 x2.names.length cn2, .slice ak2 x2.keys.length ck2, .bool x2.over, .int .i64 x2.limit, .slice at2 x2.tests.length ct2] rfl rfl (jmc _ _ _) hone2 (by omega) ?c3 ?c4 ?c5 _ rfl ?_)
            case c3 => unfold maxLen; omega
            case c4 => omega
            case c5 => simp; omega
            intro g cap w5 hown' hgrow hat hlt5; have hgal : w4.grownBy w5 (Value.slice a0 acc.length c0).ownBlock := ⟨hgrow.os, hgrow.tape, hgrow.output, by have := hgrow.size; simp at this; omega, fun k hk hn => (hgrow.block k (by simp; omega) hn).trans (by
              show (w4.heap.push _)[k]? = _
              rw [Array.getElem?_push_lt hk, Array.getElem?_eq_getElem hk])⟩
            have HO5 := hid (show OwnTs w.heap.size n w5 (.slice (some ⟨g, 0, none⟩) (acc.length + 1) cap) (acc ++ [x2]) from
              OwnRow.more (vW n) (v := .slice a0 acc.length c0) (H := w4.heap.size + 1) H2.out H3.out H4.out HX.out rfl hown' hgal (by
                rcases hat with e | e
                · exact .inl e.symm
                · exact .inr (by rw [e]; simp [Value.ownBlock])) (by omega))
            have hBb : Below w.heap.size w4 w5 := ((Below.refl _ _).alloc hsz4 _).grown hgrow (by simp; omega) (fun j hj => (World.ownsRow.lt h1 j hj).1); have HR5 := hid (HR4.out.under hBb hbl); have HB5 := hid (HB4.out.low hBb); have HD := hid (show vJ b L.length w5 < vJ b L.length wr by rw [zT HR5.out, HM.out]; omega); clear hown' hgrow hBb h1 hgal hat; go_wp2; exact ⟨⟨acc ++ [x2], q2, some ⟨g, 0, none⟩, cap, m', by first | rfl | simp, by simpa using HO5.out, HR5.out, by omega, by omega, by simp; omega, by simp, HF, HB5.out⟩, HD.out⟩
end Go.Proofs.YtlfgemnmfhknfaaGreatDoor
