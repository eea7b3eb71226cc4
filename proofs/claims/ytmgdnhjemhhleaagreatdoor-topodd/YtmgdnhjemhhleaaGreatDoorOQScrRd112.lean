/-
  What the reader's branches does: the walk.
-/
import Derived.Test.YtmgdnhjemhhleaaGreatDoorOQScrRd92
set_option maxHeartbeats 16000000
set_option maxRecDepth 100000
namespace Go.Proofs.YtmgdnhjemhhleaaGreatDoor
open Go.RowKit Go.Proofs
theorem jbx (W : World) (o : Obj) {k : Nat} (hk : k < W.heap.size) : (W.alloc o).heap[k]? = W.heap[k]? := by
 show (W.heap.push o)[k]? = _
 rw [Array.getElem?_push_lt hk, Array.getElem?_eq_getElem hk]
theorem Keeps.sub {Q Q' : Nat → Prop} {w w' : World} (h : Keeps Q w w') (hq : ∀ b, Q' b → Q b) : Keeps Q' w w' := ⟨h.size, fun b hb hQ => h.block b hb (hq b hQ)⟩
theorem jkL (c0 c1 c2 c3 c4 c5 c6 c7 c8 c9 c10 c11 a0 a1 a2 a3 a4 a5 a6 a7 : Value) : qz #[c0, c1, c2, c3, c4, c5, c6, c7, c8, c9, c10, c11] 2 [a0, a1, a2, a3, a4, a5, a6, a7] = #[c0, c1, a0, a1, a2, a3, a4, a5, a6, a7, c10, c11] := by simp [qz]
theorem jkN (n : Nat) (ic : RdC n) (ib : RdBr n) : RdBr (n + 1) := by
 intro d b A C L r w h hw hG hn hd; have H := hid h; have HW := hid hw; have HIC := hid ic; have HIB := hid ib; have hbl := h.lt; have hsm := h.small; clear h hw ic ib; obtain ⟨V, hV⟩ : ∃ V, V = (w.alloc (.cells #[.int .i64 0, .slice none 0 0, .int .i64 0, .int .i64 0, .int .i64 0, .slice none 0 0, .slice none 0 0, .bool false, .int .i64 0, .slice none 0 0, .slice none 0 0, .slice none 0 0] 207)).alloc (.cells #[.int .i64 2, .slice none 0 0, .int .i64 0, .int .i64 0, .int .i64 0, .slice none 0 0, .slice none 0 0, .bool false, .int .i64 0, .slice none 0 0, .slice none 0 0, .slice none 0 0] 207) := ⟨_, rfl⟩; have hzV : V.heap.size = w.heap.size + 2 := by rw [hV]; simp
 have hal : Below w.heap.size w V := by rw [hV]; exact (nb0 _ _).alloc (by simp) _
 have H4V := hid (show V.heap[w.heap.size]? = some (.cells vQ 207) by rw [hV, jbx _ _ (by simp)]; exact heap_alloc_new w _); have H5V := hid (show V.heap[w.heap.size + 1]? = some (.cells #[.int .i64 2, .slice none 0 0, .int .i64 0, .int .i64 0, .int .i64 0, .slice none 0 0, .slice none 0 0, .bool false, .int .i64 0, .slice none 0 0, .slice none 0 0, .slice none 0 0] 207) by
  rw [hV]; have := heap_alloc_new (w.alloc (.cells #[.int .i64 0, .slice none 0 0, .int .i64 0, .int .i64 0, .int .i64 0, .slice none 0 0, .slice none 0 0, .bool false, .int .i64 0, .slice none 0 0, .slice none 0 0, .slice none 0 0] 207)) (.cells #[.int .i64 2, .slice none 0 0, .int .i64 0, .int .i64 0, .int .i64 0, .slice none 0 0, .slice none 0 0, .bool false, .int .i64 0, .slice none 0 0, .slice none 0 0, .slice none 0 0] 207)
  simpa using this)
 have HVE := hid hV; have HRV := hid (H.out.next hal); have HBV := hid (show But b w V from But.of hal); have HWV := hid (HW.out.next hal); have hnb : w.heap.size ≠ b := by omega
 have hn5 : w.heap.size ≠ w.heap.size + 1 := by omega
 have hn5b : w.heap.size + 1 ≠ b := by omega
 have hd1 : (d : Int) ≤ 6 := by omega
 have hd0 : (0 : Int) ≤ (d : Int) := by omega
 clear hV hal; go_enter Tryz.func158, Tryz.ntmps158; go_wp2_with fail; rw [← HVE.out]; refine (jhu n 1 b A C L r V HRV.out HWV.out hG (by omega) (by omega)).mono ?_; cases hx : jA n 1 r with
 | error m =>
   have HE := hid (show cmdP (n + 1) false d r = .error m by rw [cmdP, hx]; rfl); clear hx; rintro e w1 ⟨rfl, hB1⟩; have HB1 := hid (HBV.out.trans hB1); clear hB1; go_wp2; rw [HE.out]; exact ⟨rfl, rfl, HB1.out⟩
 | ok y =>
   obtain ⟨t, q1⟩ := y; have hq1 := jaR _ _ _ _ _ hx; have HQ1 := hid (show cmdP (n + 1) false d r = jm (zo (cmdP n true (d + 1)) q1) fun th q =>
        match zd 1 vC q with
        | some q => jm (cmdP n false d q) fun c q => .ok (⟨2, [], t, th, [c]⟩, q)
        | none => match zd 1 jcp q with
          | some q => jm (zo (cmdP n true (d + 1)) q) fun el q => .ok (⟨2, [], t, th, el⟩, q)
          | none => .ok (⟨2, [], t, th, []⟩, q) by rw [cmdP, hx]; rfl)
   clear hx; rintro e w1 ⟨v, rfl, ⟨cs1, rfl, hT⟩, hR1, hB1⟩; obtain ⟨an, cn, ak, ck, at', ct, m01, _, rfl, _⟩ := zF hT; have h41 := (hB1.block _ (by omega) hnb).trans H4V.out; have h51 := (hB1.block _ (by omega) hn5b).trans H5V.out; have hs1 := hB1.size; obtain ⟨g0, g1, g2, g3, g4, g5, g6, g7, g8, g9, g10, g11⟩ := qC h51; have y2 := qw h51 2; have y3 := qw h51 3; have y4 := qw h51 4; have y5 := qw h51 5; have y6 := qw h51 6; have y7 := qw h51 7; have y8 := qw h51 8; have y9 := qw h51 9; obtain ⟨X1, hX1⟩ : ∃ X1, X1 = setAll w1 (w.heap.size + 1) 2 [.int .i64 t.kind, .int .i64 t.mat, .int .i64 t.part, .slice an t.names.length cn, .slice ak t.keys.length ck, .bool t.over, .int .i64 t.limit, .slice at' t.tests.length ct] := ⟨_, rfl⟩; have h4X : X1.heap[w.heap.size]? = some (.cells vQ 207) := by rw [hX1]; exact (za hn5 _ _ _).trans h41
   have h5X : X1.heap[w.heap.size + 1]? = some (.cells #[.int .i64 2, .slice none 0 0, .int .i64 t.kind, .int .i64 t.mat, .int .i64 t.part, .slice an t.names.length cn, .slice ak t.keys.length ck, .bool t.over, .int .i64 t.limit, .slice at' t.tests.length ct, .slice none 0 0, .slice none 0 0] 207) := by rw [hX1]; have := jt [.int .i64 t.kind, .int .i64 t.mat, .int .i64 t.part, .slice an t.names.length cn, .slice ak t.keys.length ck, .bool t.over, .int .i64 t.limit, .slice at' t.tests.length ct] 2 w1 _ h51; rwa [jkL] at this
   have hBX : Below (w.heap.size + 1) w1 X1 := by rw [hX1]; exact jf (Nat.le_refl _) _ _ _ _ (Below.refl _ _)
   have hsX : X1.heap.size = w1.heap.size := by rw [hX1]; exact zc _ _ _
   have hKX : Keeps (newB V.heap.size) w1 X1 := by rw [hX1]; exact jk (fun k hk => by have : V.heap.size ≤ k := hk; omega) _ _ _ _ (Keeps.refl _ _)
   have HTX := hid (TstM.imp (fun _ h => h) hKX _ _ _ hT); have HRX := hid (hR1.under hBX (by omega)); have HBX := hid ((HBV.out.trans hB1).low (hBX.mono (by omega))); have HWX := hid (HW.out.but HBX.out hG); simp only [setAll] at hX1; have HXE := hid hX1; have H4X := hid h4X; have H5X := hid h5X; clear hR1 hB1 h41 h51 hT hX1 h4X h5X hBX hKX; go_wp2_with fail; rw [← HXE.out]; rw [show ((d : Int) + 1) = ((d + 1 : Nat) : Int) from rfl]; refine (jeu n HIC.out (d + 1) b A C L q1 X1 HRX.out HWX.out hG (by omega) (by omega)).mono ?_; clear g0 g1 g2 g3 g4 g5 g6 g7 g8 g9 g10 g11 y2 y3 y4 y5 y6 y7 y8 y9; cases hx : zo (cmdP n true (d + 1)) q1 with
   | error m =>
     have HE := hid (show cmdP (n + 1) false d r = .error m by rw [HQ1.out, hx]; rfl); clear hx; rintro e w2 ⟨rfl, hB2⟩; have HB2 := hid (HBX.out.trans hB2); clear hB2; go_wp2; rw [HE.out]; exact ⟨rfl, rfl, HB2.out⟩
   | ok y =>
     obtain ⟨th, q2⟩ := y; have hq2 := jaX (fun _ _ _ h => Nat.le_of_lt (jdk _ _ _ _ _ _ h)) hx; have HQ2 := hid (show cmdP (n + 1) false d r =
      match zd 1 vC q2 with
      | some q => jm (cmdP n false d q) fun c q => .ok (⟨2, [], t, th, [c]⟩, q)
      | none => match zd 1 jcp q2 with
        | some q => jm (zo (cmdP n true (d + 1)) q) fun el q => .ok (⟨2, [], t, th, el⟩, q)
        | none => .ok (⟨2, [], t, th, []⟩, q2) by rw [HQ1.out, hx]; rfl)
     clear hx; rintro e w2 ⟨v, rfl, hT, hR2, hB2⟩; obtain ⟨aa, ca, rfl⟩ := hT.slice; have h42 := (hB2.block _ (by omega) hnb).trans H4X.out; have h52 := (hB2.block _ (by omega) hn5b).trans H5X.out; have hs2 := hB2.size; have g10 := (qC h52).2.2.2.2.2.2.2.2.2.2.1; have y10 := qw h52 10; obtain ⟨X2, hX2⟩ : ∃ X2, X2 = setAll w2 (w.heap.size + 1) 10 [.slice aa th.length ca] := ⟨_, rfl⟩; have h4Y : X2.heap[w.heap.size]? = some (.cells vQ 207) := by rw [hX2]; exact (za hn5 _ _ _).trans h42
     have h5Y : X2.heap[w.heap.size + 1]? = some (.cells #[.int .i64 2, .slice none 0 0, .int .i64 t.kind, .int .i64 t.mat, .int .i64 t.part, .slice an t.names.length cn, .slice ak t.keys.length ck, .bool t.over, .int .i64 t.limit, .slice at' t.tests.length ct, .slice aa th.length ca, .slice none 0 0] 207) := by rw [hX2]; have := jt [.slice aa th.length ca] 10 w2 _ h52; simpa [qz] using this
     have hBY : Below (w.heap.size + 1) w2 X2 := by rw [hX2]; exact jf (Nat.le_refl _) _ _ _ _ (Below.refl _ _)
     have hsY : X2.heap.size = w2.heap.size := by rw [hX2]; exact zc _ _ _
     have hKY : Keeps (newB V.heap.size) w2 X2 := by rw [hX2]; exact jk (fun k hk => by have : V.heap.size ≤ k := hk; omega) _ _ _ _ (Keeps.refl _ _)
     have hup : ∀ k, newB X1.heap.size k → newB V.heap.size k := fun k hk => by have : X1.heap.size ≤ k := hk; show V.heap.size ≤ k; omega
     have HTY := hid (TstM.imp (fun _ h => h) ((Keeps.of_but hB2 (fun k hk => by have : V.heap.size ≤ k := hk; omega)).trans hKY) _ _ _ HTX.out); have HAY := hid (show CmdsM (newB V.heap.size) (n + 1) X2 (.slice aa th.length ca) th from RowM.imp (RowM.imp hT hup (Keeps.refl _ _) (fun _ _ h => CmdM.imp hup (Keeps.refl _ _) _ _ _ h)) (fun _ h => h) hKY (fun _ _ h => CmdM.imp (fun _ h => h) hKY _ _ _ h)); have HRY := hid (hR2.under hBY (by omega)); have HBY := hid ((HBX.out.trans hB2).low (hBY.mono (by omega))); have HWY := hid (HW.out.but HBY.out hG); simp only [setAll] at hX2; have HYE := hid hX2; have H4Y := hid h4Y; have H5Y := hid h5Y; clear hR2 hB2 h42 h52 hT hX2 h4Y h5Y hBY hKY; go_wp2_with fail; rw [← HYE.out]; refine (qq b A C L q2 1 vC X2 HRY.out (by omega)).mono ?_; clear g10 y10; cases hs : zd 1 vC q2 with
     | some q3 =>
       have hq3 := jC hs; have HQ3 := hid (show cmdP (n + 1) false d r = jm (cmdP n false d q3) fun c q => .ok (⟨2, [], t, th, [c]⟩, q) by rw [HQ2.out, hs]); clear hs; rintro e w3 ⟨rfl, hR3, hB3⟩; have H43 := hid ((hB3.block _ (by omega) hnb).trans H4Y.out); have H53 := hid ((hB3.block _ (by omega) hn5b).trans H5Y.out); have hs3 := hB3.size; have HR3 := hid hR3; have HB3 := hid (HBY.out.trans hB3); have HW3 := hid (HW.out.but HB3.out hG); have HK3 := hid (show Keeps (newB V.heap.size) X2 w3 from Keeps.of_but hB3 (fun k hk => by have : V.heap.size ≤ k := hk; omega)); clear hR3 hB3; go_wp2_with fail; refine (HIB.out d b A C L q3 w3 HR3.out HW3.out hG (by omega) hd).mono ?_; cases hx : cmdP n false d q3 with
       | error m =>
         have HE := hid (show cmdP (n + 1) false d r = .error m by rw [HQ3.out, hx]; rfl); clear hx; rintro e w4 ⟨rfl, hB4⟩; have HB4 := hid (HB3.out.trans hB4); clear hB4; go_wp2; rw [HE.out]; exact ⟨rfl, rfl, HB4.out⟩
       | ok y =>
         obtain ⟨x2, q4⟩ := y; have HE := hid (show cmdP (n + 1) false d r = .ok (⟨2, [], t, th, [x2]⟩, q4) by rw [HQ3.out, hx]; rfl); clear hx; rintro e w4 ⟨v, rfl, ⟨cs2, rfl, hT⟩, hR4, hB4⟩; obtain ⟨ax2, cx2, an2, cn2, ak2, ck2, at2, ct2, aa2, ca2, ae2, ce2, m02, _, rfl, _⟩ := zA hT; have h44 := (hB4.block _ (by omega) hnb).trans H43.out; have h54 := (hB4.block _ (by omega) hn5b).trans H53.out; have hs4 := hB4.size; have hl4 : w.heap.size < w4.heap.size := by omega
         have hl5 : w.heap.size + 1 < w4.heap.size := by omega
         have hn44 : w.heap.size ≠ w4.heap.size := by omega
         have hn54 : w.heap.size + 1 ≠ w4.heap.size := by omega
         have HR4 := hid hR4; have HB4 := hid (HB3.out.trans hB4); have HT := hid hT; have HK4 := hid (HK3.out.trans (Keeps.of_but hB4 (fun k hk => by have : V.heap.size ≤ k := hk; omega))); have H4F := hid (show (w4.setCell ⟨w.heap.size + 1, 11, none⟩ (.slice (some ⟨w4.heap.size, 0, none⟩) 1 1)).heap[w.heap.size]? = some (.cells vQ 207) from (Below.heap_setCell _ _ _ _ hn5).trans h44); have HUb := hid (show Below w.heap.size w4 (w4.setCell ⟨w.heap.size + 1, 11, none⟩ (.slice (some ⟨w4.heap.size, 0, none⟩) 1 1)) from (Below.refl _ _).setCell (p := ⟨w.heap.size + 1, 11, none⟩) (show w.heap.size ≤ w.heap.size + 1 by omega) _); have HKF := hid (show Keeps (newB V.heap.size) w4 (w4.setCell ⟨w.heap.size + 1, 11, none⟩ (.slice (some ⟨w4.heap.size, 0, none⟩) 1 1)) from Keeps.set w4 (p := ⟨w.heap.size + 1, 11, none⟩) _ (fun k hk => by have : V.heap.size ≤ k := hk; show k ≠ w.heap.size + 1; omega)); have HZF := hid (show (w4.setCell ⟨w.heap.size + 1, 11, none⟩ (.slice (some ⟨w4.heap.size, 0, none⟩) 1 1)).heap.size = w4.heap.size by simp [World.setCell]); obtain ⟨a0, a1, a2, a3, a4, a5, a6, a7, a8, a9, a10, a11⟩ := bx12 h44; obtain ⟨z0, z1, z2, z3, z4, z5, z6, z7, z8, z9, z10, z11⟩ := bz12 h44; obtain ⟨g0, g1, g2, g3, g4, g5, g6, g7, g8, g9, g10, g11⟩ := qC h54; obtain ⟨y0, y1, y2, y3, y4, y5, y6, y7, y8, y9, y10, y11⟩ := bz12 h54; clear hR4 hB4 h44 h54 hT; go_wp2; have b1 : ((setAll (w4.setCell ⟨w.heap.size + 1, 11, none⟩ (.slice (some ⟨w4.heap.size, 0, none⟩) 1 1)) w.heap.size 0 [.int .i64 2, .slice none 0 0, .int .i64 t.kind, .int .i64 t.mat, .int .i64 t.part, .slice an t.names.length cn, .slice ak t.keys.length ck, .bool t.over, .int .i64 t.limit, .slice at' t.tests.length ct, .slice aa th.length ca, .slice (some ⟨w4.heap.size, 0, none⟩) 1 1]).alloc (.cells #[.int .i64 x2.kind, .slice ax2 x2.texts.length cx2, .int .i64 x2.test.kind, .int .i64 x2.test.mat, .int .i64 x2.test.part, .slice an2 x2.test.names.length cn2, .slice ak2 x2.test.keys.length ck2, .bool x2.test.over, .int .i64 x2.test.limit, .slice at2 x2.test.tests.length ct2, .slice aa2 x2.thn.length ca2, .slice ae2 x2.els.length ce2] 207)).heap[w.heap.size]? = some (.cells #[.int .i64 2, .slice none 0 0, .int .i64 t.kind, .int .i64 t.mat, .int .i64 t.part, .slice an t.names.length cn, .slice ak t.keys.length ck, .bool t.over, .int .i64 t.limit, .slice at' t.tests.length ct, .slice aa th.length ca, .slice (some ⟨w4.heap.size, 0, none⟩) 1 1] 207) := (jjU 0 [.int .i64 2, .slice none 0 0, .int .i64 t.kind, .int .i64 t.mat, .int .i64 t.part, .slice an t.names.length cn, .slice ak t.keys.length ck, .bool t.over, .int .i64 t.limit, .slice at' t.tests.length ct, .slice aa th.length ca, .slice (some ⟨w4.heap.size, 0, none⟩) 1 1] (.cells #[.int .i64 x2.kind, .slice ax2 x2.texts.length cx2, .int .i64 x2.test.kind, .int .i64 x2.test.mat, .int .i64 x2.test.part, .slice an2 x2.test.names.length cn2, .slice ak2 x2.test.keys.length ck2, .bool x2.test.over, .int .i64 x2.test.limit, .slice at2 x2.test.tests.length ct2, .slice aa2 x2.thn.length ca2, .slice ae2 x2.els.length ce2] 207) H4F.out HUb.out (Nat.le_refl _) _ (jet _ _ _ _ _ _ _ _ _ _ _ _)).1; have b4 := (jjU 0 [.int .i64 2, .slice none 0 0, .int .i64 t.kind, .int .i64 t.mat, .int .i64 t.part, .slice an t.names.length cn, .slice ak t.keys.length ck, .bool t.over, .int .i64 t.limit, .slice at' t.tests.length ct, .slice aa th.length ca, .slice (some ⟨w4.heap.size, 0, none⟩) 1 1] (.cells #[.int .i64 x2.kind, .slice ax2 x2.texts.length cx2, .int .i64 x2.test.kind, .int .i64 x2.test.mat, .int .i64 x2.test.part, .slice an2 x2.test.names.length cn2, .slice ak2 x2.test.keys.length ck2, .bool x2.test.over, .int .i64 x2.test.limit, .slice at2 x2.test.tests.length ct2, .slice aa2 x2.thn.length ca2, .slice ae2 x2.els.length ce2] 207) H4F.out HUb.out (Nat.le_refl _) _ (jet _ _ _ _ _ _ _ _ _ _ _ _)).2.2.2.1; have kp := (jk (b := w.heap.size) (fun k hk => by have : V.heap.size ≤ k := hk; omega) [.int .i64 2, .slice none 0 0, .int .i64 t.kind, .int .i64 t.mat, .int .i64 t.part, .slice an t.names.length cn, .slice ak t.keys.length ck, .bool t.over, .int .i64 t.limit, .slice at' t.tests.length ct, .slice aa th.length ca, .slice (some ⟨w4.heap.size, 0, none⟩) 1 1] 0 (w4.setCell ⟨w.heap.size + 1, 11, none⟩ (.slice (some ⟨w4.heap.size, 0, none⟩) 1 1)) _ HKF.out).more (.cells #[.int .i64 x2.kind, .slice ax2 x2.texts.length cx2, .int .i64 x2.test.kind, .int .i64 x2.test.mat, .int .i64 x2.test.part, .slice an2 x2.test.names.length cn2, .slice ak2 x2.test.keys.length ck2, .bool x2.test.over, .int .i64 x2.test.limit, .slice at2 x2.test.tests.length ct2, .slice aa2 x2.thn.length ca2, .slice ae2 x2.els.length ce2] 207); have bn : ((setAll (w4.setCell ⟨w.heap.size + 1, 11, none⟩ (.slice (some ⟨w4.heap.size, 0, none⟩) 1 1)) w.heap.size 0 [.int .i64 2, .slice none 0 0, .int .i64 t.kind, .int .i64 t.mat, .int .i64 t.part, .slice an t.names.length cn, .slice ak t.keys.length ck, .bool t.over, .int .i64 t.limit, .slice at' t.tests.length ct, .slice aa th.length ca, .slice (some ⟨w4.heap.size, 0, none⟩) 1 1]).alloc (.cells #[.int .i64 x2.kind, .slice ax2 x2.texts.length cx2, .int .i64 x2.test.kind, .int .i64 x2.test.mat, .int .i64 x2.test.part, .slice an2 x2.test.names.length cn2, .slice ak2 x2.test.keys.length ck2, .bool x2.test.over, .int .i64 x2.test.limit, .slice at2 x2.test.tests.length ct2, .slice aa2 x2.thn.length ca2, .slice ae2 x2.els.length ce2] 207)).heap[(setAll (w4.setCell ⟨w.heap.size + 1, 11, none⟩ (.slice (some ⟨w4.heap.size, 0, none⟩) 1 1)) w.heap.size 0 [.int .i64 2, .slice none 0 0, .int .i64 t.kind, .int .i64 t.mat, .int .i64 t.part, .slice an t.names.length cn, .slice ak t.keys.length ck, .bool t.over, .int .i64 t.limit, .slice at' t.tests.length ct, .slice aa th.length ca, .slice (some ⟨w4.heap.size, 0, none⟩) 1 1]).heap.size]? = some (.cells #[.int .i64 x2.kind, .slice ax2 x2.texts.length cx2, .int .i64 x2.test.kind, .int .i64 x2.test.mat, .int .i64 x2.test.part, .slice an2 x2.test.names.length cn2, .slice ak2 x2.test.keys.length ck2, .bool x2.test.over, .int .i64 x2.test.limit, .slice at2 x2.test.tests.length ct2, .slice aa2 x2.thn.length ca2, .slice ae2 x2.els.length ce2] 207) := heap_alloc_new _ _; rw [zc] at bn; rw [HZF.out] at bn; simp only [setAll] at b1 b4 bn kp; obtain ⟨m0, m1, m2, m3, m4, m5, m6, m7, m8, m9, m10, m11⟩ := bx12 b1; refine bodyPost_ret (v := .agg #[.int .i64 2, .slice none 0 0, .int .i64 t.kind, .int .i64 t.mat, .int .i64 t.part, .slice an t.names.length cn, .slice ak t.keys.length ck, .bool t.over, .int .i64 t.limit, .slice at' t.tests.length ct, .slice aa th.length ca, .slice (some ⟨w4.heap.size, 0, none⟩) 1 1]) (by simp only [results, Tryz.results158]; simp [go_sem, m0, m1, m2, m3, m4, m5, m6, m7, m8, m9, m10, m11]) rfl ?_; rw [HE.out]; exact ⟨_, rfl, ⟨[.int .i64 2, .slice none 0 0, .int .i64 t.kind, .int .i64 t.mat, .int .i64 t.part, .slice an t.names.length cn, .slice ak t.keys.length ck, .bool t.over, .int .i64 t.limit, .slice at' t.tests.length ct, .slice aa th.length ca, .slice (some ⟨w4.heap.size, 0, none⟩) 1 1], rfl, ⟨_, _, _, _, _, _, rfl, jg _ _ _ _ _ _, TstM.more _ _ _ _ (by omega) (TstM.imp (fun k hk => by have : V.heap.size ≤ k := hk; show w.heap.size ≤ k; omega) (HK4.out.trans kp) _ _ _ HTY.out), RowM.imp HAY.out (fun k hk => by have : V.heap.size ≤ k := hk; show w.heap.size ≤ k; omega) (HK4.out.trans kp) (fun _ _ h => CmdM.imp (fun k hk => by have : V.heap.size ≤ k := hk; show w.heap.size ≤ k; omega) (HK4.out.trans kp) _ _ _ h), jbC (cs := [.int .i64 x2.kind, .slice ax2 x2.texts.length cx2, .int .i64 x2.test.kind, .int .i64 x2.test.mat, .int .i64 x2.test.part, .slice an2 x2.test.names.length cn2, .slice ak2 x2.test.keys.length ck2, .bool x2.test.over, .int .i64 x2.test.limit, .slice at2 x2.test.tests.length ct2, .slice aa2 x2.thn.length ca2, .slice ae2 x2.els.length ce2]) bn rfl (show w.heap.size ≤ w4.heap.size by omega) (CmdM.imp (fun k hk => by have : w3.heap.size ≤ k := hk; show w.heap.size ≤ k; omega) (kp.sub (fun k hk => by have : w3.heap.size ≤ k := hk; show V.heap.size ≤ k; omega)) _ _ _ HT.out)⟩⟩, HR4.out.under b4 hbl, HB4.out.low b4⟩
     | none =>
       rintro e w3 ⟨rfl, hR3, hB3⟩; have HQ3 := hid (show cmdP (n + 1) false d r = match zd 1 jcp q2 with
        | some q => jm (zo (cmdP n true (d + 1)) q) fun el q => .ok (⟨2, [], t, th, el⟩, q)
        | none => .ok (⟨2, [], t, th, []⟩, q2) by rw [HQ2.out, hs])
       clear hs; have H43 := hid ((hB3.block _ (by omega) hnb).trans H4Y.out); have H53 := hid ((hB3.block _ (by omega) hn5b).trans H5Y.out); have hs3 := hB3.size; have HR3 := hid hR3; have HB3 := hid (HBY.out.trans hB3); have HK3 := hid (show Keeps (newB V.heap.size) X2 w3 from Keeps.of_but hB3 (fun k hk => by have : V.heap.size ≤ k := hk; omega)); clear hR3 hB3; go_wp2_with fail; refine (qq b A C L q2 1 jcp w3 HR3.out (by omega)).mono ?_; cases hs : zd 1 jcp q2 with
       | none =>
         have HE := hid (show cmdP (n + 1) false d r = .ok (⟨2, [], t, th, []⟩, q2) by rw [HQ3.out, hs]); clear hs; rintro e w4 ⟨rfl, hR4, hB4⟩; have h44 := (hB4.block _ (by omega) hnb).trans H43.out; have h54 := (hB4.block _ (by omega) hn5b).trans H53.out; have hs4 := hB4.size; have H44 := hid h44; have HR4 := hid hR4; have HB4 := hid (HB3.out.trans hB4); have HK4 := hid (HK3.out.trans (Keeps.of_but hB4 (fun k hk => by have : V.heap.size ≤ k := hk; omega))); obtain ⟨a0, a1, a2, a3, a4, a5, a6, a7, a8, a9, a10, a11⟩ := bx12 h44; obtain ⟨z0, z1, z2, z3, z4, z5, z6, z7, z8, z9, z10, z11⟩ := bz12 h44; obtain ⟨g0, g1, g2, g3, g4, g5, g6, g7, g8, g9, g10, g11⟩ := qC h54; obtain ⟨y0, y1, y2, y3, y4, y5, y6, y7, y8, y9, y10, y11⟩ := bz12 h54; clear hR4 hB4 h44 h54; go_wp2; have b1 := jt [.int .i64 2, .slice none 0 0, .int .i64 t.kind, .int .i64 t.mat, .int .i64 t.part, .slice an t.names.length cn, .slice ak t.keys.length ck, .bool t.over, .int .i64 t.limit, .slice at' t.tests.length ct, .slice aa th.length ca, .slice none 0 0] 0 (w4) _ H44.out; rw [jet] at b1; have b4 := jf (Nat.le_refl w.heap.size) [.int .i64 2, .slice none 0 0, .int .i64 t.kind, .int .i64 t.mat, .int .i64 t.part, .slice an t.names.length cn, .slice ak t.keys.length ck, .bool t.over, .int .i64 t.limit, .slice at' t.tests.length ct, .slice aa th.length ca, .slice none 0 0] 0 (w4) _ (Below.refl w.heap.size w4); have kp := jk (b := w.heap.size) (fun k hk => by have : V.heap.size ≤ k := hk; omega) [.int .i64 2, .slice none 0 0, .int .i64 t.kind, .int .i64 t.mat, .int .i64 t.part, .slice an t.names.length cn, .slice ak t.keys.length ck, .bool t.over, .int .i64 t.limit, .slice at' t.tests.length ct, .slice aa th.length ca, .slice none 0 0] 0 (w4) _ HK4.out; simp only [setAll] at b1 b4 kp; obtain ⟨m0, m1, m2, m3, m4, m5, m6, m7, m8, m9, m10, m11⟩ := bx12 b1; refine bodyPost_ret (v := .agg #[.int .i64 2, .slice none 0 0, .int .i64 t.kind, .int .i64 t.mat, .int .i64 t.part, .slice an t.names.length cn, .slice ak t.keys.length ck, .bool t.over, .int .i64 t.limit, .slice at' t.tests.length ct, .slice aa th.length ca, .slice none 0 0]) (by simp only [results, Tryz.results158]; simp [go_sem, m0, m1, m2, m3, m4, m5, m6, m7, m8, m9, m10, m11]) rfl ?_; rw [HE.out]; exact ⟨_, rfl, ⟨[.int .i64 2, .slice none 0 0, .int .i64 t.kind, .int .i64 t.mat, .int .i64 t.part, .slice an t.names.length cn, .slice ak t.keys.length ck, .bool t.over, .int .i64 t.limit, .slice at' t.tests.length ct, .slice aa th.length ca, .slice none 0 0], rfl, ⟨_, _, _, _, _, _, rfl, jg _ _ _ _ _ _, TstM.more _ _ _ _ (by omega) (TstM.imp (fun k hk => by have : V.heap.size ≤ k := hk; show w.heap.size ≤ k; omega) kp _ _ _ HTY.out), RowM.imp HAY.out (fun k hk => by have : V.heap.size ≤ k := hk; show w.heap.size ≤ k; omega) kp (fun _ _ h => CmdM.imp (fun k hk => by have : V.heap.size ≤ k := hk; show w.heap.size ≤ k; omega) kp _ _ _ h), jg _ _ _ _ _ _⟩⟩, HR4.out.under b4 hbl, HB4.out.low b4⟩
       | some q3 =>
         have hq3 := jC hs; have HQ4 := hid (show cmdP (n + 1) false d r = jm (zo (cmdP n true (d + 1)) q3) fun el q => .ok (⟨2, [], t, th, el⟩, q) by rw [HQ3.out, hs]); clear hs; rintro e w4 ⟨rfl, hR4, hB4⟩; have H44 := hid ((hB4.block _ (by omega) hnb).trans H43.out); have H54 := hid ((hB4.block _ (by omega) hn5b).trans H53.out); have hs4 := hB4.size; have HR4 := hid hR4; have HB4 := hid (HB3.out.trans hB4); have HW4 := hid (HW.out.but HB4.out hG); have HK4 := hid (HK3.out.trans (Keeps.of_but hB4 (fun k hk => by have : V.heap.size ≤ k := hk; omega))); clear hR4 hB4; go_wp2_with fail; rw [show ((d : Int) + 1) = ((d + 1 : Nat) : Int) from rfl]; refine (jeu n HIC.out (d + 1) b A C L q3 w4 HR4.out HW4.out hG (by omega) (by omega)).mono ?_; cases hx : zo (cmdP n true (d + 1)) q3 with
         | error m =>
           have HE := hid (show cmdP (n + 1) false d r = .error m by rw [HQ4.out, hx]; rfl); clear hx; rintro e w5 ⟨rfl, hB5⟩; have HB5 := hid (HB4.out.trans hB5); clear hB5; go_wp2; rw [HE.out]; exact ⟨rfl, rfl, HB5.out⟩
         | ok y =>
           obtain ⟨el, q5⟩ := y; have HE := hid (show cmdP (n + 1) false d r = .ok (⟨2, [], t, th, el⟩, q5) by rw [HQ4.out, hx]; rfl); clear hx; rintro e w5 ⟨v, rfl, hT, hR5, hB5⟩; obtain ⟨ae, ce, rfl⟩ := hT.slice; have h45 := (hB5.block _ (by omega) hnb).trans H44.out; have h55 := (hB5.block _ (by omega) hn5b).trans H54.out; have hs5 := hB5.size; have HR5 := hid hR5; have HB5 := hid (HB4.out.trans hB5); have HT := hid hT; have HK5 := hid (HK4.out.trans (Keeps.of_but hB5 (fun k hk => by have : V.heap.size ≤ k := hk; omega))); have H4F := hid (show (w5.setCell ⟨w.heap.size + 1, 11, none⟩ (.slice ae el.length ce)).heap[w.heap.size]? = some (.cells vQ 207) from (Below.heap_setCell _ _ _ _ hn5).trans h45); have HUb := hid (show Below w.heap.size w5 (w5.setCell ⟨w.heap.size + 1, 11, none⟩ (.slice ae el.length ce)) from (Below.refl _ _).setCell (p := ⟨w.heap.size + 1, 11, none⟩) (show w.heap.size ≤ w.heap.size + 1 by omega) _); have HKF := hid (show Keeps (newB V.heap.size) w5 (w5.setCell ⟨w.heap.size + 1, 11, none⟩ (.slice ae el.length ce)) from Keeps.set w5 (p := ⟨w.heap.size + 1, 11, none⟩) _ (fun k hk => by have : V.heap.size ≤ k := hk; show k ≠ w.heap.size + 1; omega)); obtain ⟨a0, a1, a2, a3, a4, a5, a6, a7, a8, a9, a10, a11⟩ := bx12 h45; obtain ⟨z0, z1, z2, z3, z4, z5, z6, z7, z8, z9, z10, z11⟩ := bz12 h45; obtain ⟨g0, g1, g2, g3, g4, g5, g6, g7, g8, g9, g10, g11⟩ := qC h55; obtain ⟨y0, y1, y2, y3, y4, y5, y6, y7, y8, y9, y10, y11⟩ := bz12 h55; clear hR5 hB5 h45 h55 hT; go_wp2; have b1 := jt [.int .i64 2, .slice none 0 0, .int .i64 t.kind, .int .i64 t.mat, .int .i64 t.part, .slice an t.names.length cn, .slice ak t.keys.length ck, .bool t.over, .int .i64 t.limit, .slice at' t.tests.length ct, .slice aa th.length ca, .slice ae el.length ce] 0 (w5.setCell ⟨w.heap.size + 1, 11, none⟩ (.slice ae el.length ce)) _ H4F.out; rw [jet] at b1; have b4 := jf (Nat.le_refl w.heap.size) [.int .i64 2, .slice none 0 0, .int .i64 t.kind, .int .i64 t.mat, .int .i64 t.part, .slice an t.names.length cn, .slice ak t.keys.length ck, .bool t.over, .int .i64 t.limit, .slice at' t.tests.length ct, .slice aa th.length ca, .slice ae el.length ce] 0 (w5.setCell ⟨w.heap.size + 1, 11, none⟩ (.slice ae el.length ce)) _ HUb.out; have kp := jk (b := w.heap.size) (fun k hk => by have : V.heap.size ≤ k := hk; omega) [.int .i64 2, .slice none 0 0, .int .i64 t.kind, .int .i64 t.mat, .int .i64 t.part, .slice an t.names.length cn, .slice ak t.keys.length ck, .bool t.over, .int .i64 t.limit, .slice at' t.tests.length ct, .slice aa th.length ca, .slice ae el.length ce] 0 (w5.setCell ⟨w.heap.size + 1, 11, none⟩ (.slice ae el.length ce)) _ HKF.out; simp only [setAll] at b1 b4 kp; obtain ⟨m0, m1, m2, m3, m4, m5, m6, m7, m8, m9, m10, m11⟩ := bx12 b1; refine bodyPost_ret (v := .agg #[.int .i64 2, .slice none 0 0, .int .i64 t.kind, .int .i64 t.mat, .int .i64 t.part, .slice an t.names.length cn, .slice ak t.keys.length ck, .bool t.over, .int .i64 t.limit, .slice at' t.tests.length ct, .slice aa th.length ca, .slice ae el.length ce]) (by simp only [results, Tryz.results158]; simp [go_sem, m0, m1, m2, m3, m4, m5, m6, m7, m8, m9, m10, m11]) rfl ?_; rw [HE.out]; exact ⟨_, rfl, ⟨[.int .i64 2, .slice none 0 0, .int .i64 t.kind, .int .i64 t.mat, .int .i64 t.part, .slice an t.names.length cn, .slice ak t.keys.length ck, .bool t.over, .int .i64 t.limit, .slice at' t.tests.length ct, .slice aa th.length ca, .slice ae el.length ce], rfl, ⟨_, _, _, _, _, _, rfl, jg _ _ _ _ _ _, TstM.more _ _ _ _ (by omega) (TstM.imp (fun k hk => by have : V.heap.size ≤ k := hk; show w.heap.size ≤ k; omega) (HK5.out.trans kp) _ _ _ HTY.out), RowM.imp HAY.out (fun k hk => by have : V.heap.size ≤ k := hk; show w.heap.size ≤ k; omega) (HK5.out.trans kp) (fun _ _ h => CmdM.imp (fun k hk => by have : V.heap.size ≤ k := hk; show w.heap.size ≤ k; omega) (HK5.out.trans kp) _ _ _ h), RowM.imp HT.out (fun k hk => by have : w4.heap.size ≤ k := hk; show w.heap.size ≤ k; omega) (kp.sub (fun k hk => by have : w4.heap.size ≤ k := hk; show V.heap.size ≤ k; omega)) (fun _ _ h => CmdM.imp (fun k hk => by have : w4.heap.size ≤ k := hk; show w.heap.size ≤ k; omega) (kp.sub (fun k hk => by have : w4.heap.size ≤ k := hk; show V.heap.size ≤ k; omega)) _ _ _ h)⟩⟩, HR5.out.under b4 hbl, HB5.out.low b4⟩
theorem jjd (n : Nat) : RdC n ∧ RdBr n := by
 induction n with
 | zero => exact ⟨fun d b A C L r w _ _ _ h _ => by omega, fun d b A C L r w _ _ _ h _ => by omega⟩
 | succ n ih => exact ⟨jjb n ih.2, jkN n ih.1 ih.2⟩
def ja1 (n : Int) (b : Bool) : Int := if n ≠ 0 ∨ b = false then 3 else 0
def numN (t : Tok) : Int := if ¬ (0 ≤ t.num ∧ t.num ≤ 2147483647) then 6 else if t.text ≠ [] then 3 else 0
theorem vV (t : Tok) (b : Bool) (w : World) :
 Calls Tryz.prog 125 #[.agg #[.int .i64 t.kind, .string (S t.text), .int .i64 t.num], .bool b] w fun e w' => e = .returned (.int .i64 (ja1 t.num b)) ∧ Below w.heap.size w w' := by
 obtain ⟨k, x, n⟩ := t
 by_cases h : n = 0
 · subst h; cases b with
   | true =>
     have HR : Hid (ja1 0 true = 0) := by unfold Hid ja1; simp
     go_enter Tryz.func125, Tryz.ntmps125; go_wp2; go_ret; exact ⟨jc HR.out.symm, nb0 _ _⟩
   | false =>
     have HR : Hid (ja1 0 false = 3) := by unfold Hid ja1; simp
     go_enter Tryz.func125, Tryz.ntmps125; go_wp2; go_ret; exact ⟨jc HR.out.symm, nb0 _ _⟩
 · have HR : Hid (ja1 n b = 3) := by unfold Hid ja1; simp [h]
   go_enter Tryz.func125, Tryz.ntmps125; go_wp2; go_ret; exact ⟨jc HR.out.symm, nb0 _ _⟩
theorem jbS (t : Tok) (w : World) :
 Calls Tryz.prog 124 #[.agg #[.int .i64 t.kind, .string (S t.text), .int .i64 t.num]] w fun e w' => e = .returned (.int .i64 (numN t)) ∧ Below w.heap.size w w' := by
 obtain ⟨k, x, n⟩ := t
 by_cases h0 : n < 0
 · have HR : Hid (numN ⟨k, x, n⟩ = 6) := by unfold Hid numN; simp only; rw [if_pos (by omega)]
   go_enter Tryz.func124, Tryz.ntmps124; go_wp2; go_ret; exact ⟨jc HR.out.symm, nb0 _ _⟩
 · by_cases h1 : 2147483647 < n
   · have HR : Hid (numN ⟨k, x, n⟩ = 6) := by unfold Hid numN; simp only; rw [if_pos (by omega)]
     go_enter Tryz.func124, Tryz.ntmps124; go_wp2; go_ret; exact ⟨jc HR.out.symm, nb0 _ _⟩
   · cases x with
     | nil =>
       have he := jbH; have HR : Hid (numN ⟨k, [], n⟩ = 0) := by unfold Hid numN; simp only; rw [if_neg (by omega)]; rfl
       go_enter Tryz.func124, Tryz.ntmps124; go_wp2; go_ret; exact ⟨jc HR.out.symm, nb0 _ _⟩
     | cons c x =>
       have he := jbI c x; have HR : Hid (numN ⟨k, c :: x, n⟩ = 3) := by unfold Hid numN; simp only; rw [if_neg (by omega)]; rfl
       go_enter Tryz.func124, Tryz.ntmps124; go_wp2; go_ret; exact ⟨jc HR.out.symm, nb0 _ _⟩
theorem jfe {t : Tok} (h : t.kind = 3) : qe t = numN t := by
 unfold qe; rw [if_neg (by omega), if_pos h]; rfl
theorem jcQ {t : Tok} (h : t.kind = 1 ∨ t.kind = 2) : qe t = ja1 t.num (jbu t.text) := by
 unfold qe ja1; rw [if_neg (by omega), if_neg (by omega)]
 by_cases hn : t.num = 0
 · rw [if_neg (by simpa using hn), if_neg (by omega), if_neg (by omega)]; cases jbu t.text <;> simp [hn]
 · rw [if_pos hn, if_pos (Or.inl hn)]
theorem jik {t : Tok} (h : t.kind = 4) : qe t = ja1 t.num true := by
 unfold qe ja1; rw [if_neg (by omega), if_neg (by omega), if_neg (show ¬ t.kind = 5 by omega), if_pos h]
 simp
theorem jgO {t : Tok} (h : t.kind = 5) : qe t = ja1 t.num (ja3 t.text) := by
 unfold qe ja1; rw [if_neg (by omega), if_neg (by omega)]
 by_cases hn : t.num = 0
 · rw [if_neg (by simpa using hn), if_pos h]; have e : (t.text.length = 1 ∧ t.text.all ja4 = true) ↔ ja3 t.text = true := by
    match t.text with
    | [] => simp [ja3]
    | [c] => simp [ja3]
    | a :: b :: r => simp [ja3]
   cases hm : ja3 t.text with
   | true => rw [if_pos (e.2 hm), if_neg (by simp [hn])]
   | false => rw [if_neg (fun q => by have := e.1 q; rw [hm] at this; cases this), if_pos (Or.inr rfl)]
 · rw [if_pos hn, if_pos (Or.inl hn)]
theorem jgP {t : Tok} (h : ¬ (1 ≤ t.kind ∧ t.kind ≤ 5)) : qe t = 2 := by unfold qe; rw [if_pos h]
theorem hid' {p : Prop} (h : p) : Hid p := h
theorem jk8 (t : Tok) (w : World) (hs : t.kind = 1 ∨ t.kind = 2 → t.text.length ≤ maxLen) :
 Calls Tryz.prog 94 #[.agg #[.int .i64 t.kind, .string (S t.text), .int .i64 t.num]] w fun e w' => e = .returned (.int .i64 (qe t)) ∧ Below w.heap.size w w' := by
 have HS : Hid _ := hs; clear hs; obtain ⟨W0, hW0⟩ : ∃ W0, W0 = w.alloc (.cells #[.int .i64 t.kind, .string (S t.text), .int .i64 t.num] 164) := ⟨_, rfl⟩; have hT : TokB W0 w.heap.size t := by rw [hW0]; exact qX w t
 have HB0 : Hid (Below w.heap.size w W0) := by unfold Hid; rw [hW0]; exact nb0 _ _
 have HW : Hid _ := hW0; have k0 := hT.c0; have k1 := hT.c1; have k2 := hT.c2; clear hW0 hT
 by_cases h3 : t.kind = 3
 · have HF : Hid _ := jfe h3; have hq : (t.kind == 3) = true := by simp [h3]
   clear h3; go_enter Tryz.func94, Tryz.ntmps94; go_wp2_with fail; rw [← HW.out]; refine (jbS t _).mono ?_; rintro e u ⟨rfl, hb⟩; go_wp2; go_ret; exact ⟨jc (by rw [HF.out]), HB0.out.trans (hb.mono HB0.out.size)⟩
 have q3 : (t.kind == 3) = false := by simp [h3]
 by_cases h1 : t.kind = 1
 · have HF : Hid _ := jcQ (t := t) (Or.inl h1); have q1 : (t.kind == 1) = true := by simp [h1]
   have HS := hid' (HS.out (Or.inl h1)); clear h1 h3; go_enter Tryz.func94, Tryz.ntmps94; go_wp2; rw [← HW.out]
   go_region_held3 (fun w' => w'.cell? ⟨w.heap.size, 0, none⟩ = some (.int .i64 t.kind) ∧ w'.cell? ⟨w.heap.size, 1, none⟩ = some (.string (S t.text)) ∧ w'.cell? ⟨w.heap.size, 2, none⟩ = some (.int .i64 t.num)) (go_keep)
    (first
        | (go_at_call 126
           refine (jcV t.text _ HS.out).mono ?_; rintro e u ⟨rfl, hu⟩; have hu' := hu.symm; subst hu')
        | (go_at_call 125
           refine (vV t (jbu t.text) _).mono ?_; rintro e u2 ⟨rfl, hb⟩; have d0 : u2.cell? ⟨w.heap.size, 0, none⟩ = some (.int .i64 t.kind) := ja (w := W0.drew) k0 hb; have d1 : u2.cell? ⟨w.heap.size, 1, none⟩ = some (.string (S t.text)) := ja (w := W0.drew) k1 hb; have d2 : u2.cell? ⟨w.heap.size, 2, none⟩ = some (.int .i64 t.num) := ja (w := W0.drew) k2 hb))
   go_wp2; go_ret; exact ⟨jc (by rw [HF.out]), (HB0.out.drew).trans (hb.mono HB0.out.drew.size)⟩
 have q1 : (t.kind == 1) = false := by simp [h1]
 by_cases h2 : t.kind = 2
 · have HF : Hid _ := jcQ (t := t) (Or.inr h2); have q2 : (t.kind == 2) = true := by simp [h2]
   have HS := hid' (HS.out (Or.inr h2)); clear h1 h2 h3; go_enter Tryz.func94, Tryz.ntmps94; go_wp2; rw [← HW.out]
   go_region_held3 (fun w' => w'.cell? ⟨w.heap.size, 0, none⟩ = some (.int .i64 t.kind) ∧ w'.cell? ⟨w.heap.size, 1, none⟩ = some (.string (S t.text)) ∧ w'.cell? ⟨w.heap.size, 2, none⟩ = some (.int .i64 t.num)) (go_keep)
    (first
        | (go_at_call 126
           refine (jcV t.text _ HS.out).mono ?_; rintro e u ⟨rfl, hu⟩; have hu' := hu.symm; subst hu')
        | (go_at_call 125
           refine (vV t (jbu t.text) _).mono ?_; rintro e u2 ⟨rfl, hb⟩; have d0 : u2.cell? ⟨w.heap.size, 0, none⟩ = some (.int .i64 t.kind) := ja (w := W0.drew) k0 hb; have d1 : u2.cell? ⟨w.heap.size, 1, none⟩ = some (.string (S t.text)) := ja (w := W0.drew) k1 hb; have d2 : u2.cell? ⟨w.heap.size, 2, none⟩ = some (.int .i64 t.num) := ja (w := W0.drew) k2 hb))
   go_wp2; go_ret; exact ⟨jc (by rw [HF.out]), (HB0.out.drew).trans (hb.mono HB0.out.drew.size)⟩
 have q2 : (t.kind == 2) = false := by simp [h2]
 by_cases h4 : t.kind = 4
 · have HF : Hid _ := jik h4; have q4 : (t.kind == 4) = true := by simp [h4]
   clear h1 h2 h3 h4; go_enter Tryz.func94, Tryz.ntmps94; go_wp2_with fail; rw [← HW.out]; refine (vV t true _).mono ?_; rintro e u ⟨rfl, hb⟩; go_wp2; go_ret; exact ⟨jc (by rw [HF.out]), HB0.out.trans (hb.mono HB0.out.size)⟩
 have q4 : (t.kind == 4) = false := by simp [h4]
 by_cases h5 : t.kind = 5
 · have HF : Hid _ := jgO h5; have q5 : (t.kind == 5) = true := by simp [h5]
   clear h1 h2 h3 h4 h5; go_enter Tryz.func94, Tryz.ntmps94; go_wp2; rw [← HW.out]
   go_region_held3 (fun w' => w'.cell? ⟨w.heap.size, 0, none⟩ = some (.int .i64 t.kind) ∧ w'.cell? ⟨w.heap.size, 1, none⟩ = some (.string (S t.text)) ∧ w'.cell? ⟨w.heap.size, 2, none⟩ = some (.int .i64 t.num)) (go_keep)
    (first
        | (go_at_call 121
           refine (vZ t.text _).mono ?_; rintro e u ⟨rfl, hu⟩; have hu' := hu.symm; subst hu')
        | (go_at_call 125
           refine (vV t (ja3 t.text) _).mono ?_; rintro e u2 ⟨rfl, hb⟩; have d0 : u2.cell? ⟨w.heap.size, 0, none⟩ = some (.int .i64 t.kind) := ja (w := W0.drew) k0 hb; have d1 : u2.cell? ⟨w.heap.size, 1, none⟩ = some (.string (S t.text)) := ja (w := W0.drew) k1 hb; have d2 : u2.cell? ⟨w.heap.size, 2, none⟩ = some (.int .i64 t.num) := ja (w := W0.drew) k2 hb))
   go_wp2; go_ret; exact ⟨jc (by rw [HF.out]), (HB0.out.drew).trans (hb.mono HB0.out.drew.size)⟩
 have q5 : (t.kind == 5) = false := by simp [h5]
 have HF : Hid _ := jgP (t := t) (by omega); clear h1 h2 h3 h4 h5; go_enter Tryz.func94, Tryz.ntmps94; go_wp2; go_ret; exact ⟨jc (by rw [HF.out]), by first | exact HB0.out | exact nb0 _ _⟩
end Go.Proofs.YtmgdnhjemhhleaaGreatDoor
