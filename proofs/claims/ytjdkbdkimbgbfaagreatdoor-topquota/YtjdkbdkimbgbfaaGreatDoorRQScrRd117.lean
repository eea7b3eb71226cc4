/-
  What the reader's branches does: the walk.
-/
import Derived.Test.YtjdkbdkimbgbfaaGreatDoorRQScrRd56
import Derived.Defers
import Derived.Recover
import Derived.Tactics
import Derived.Tactics2
import Derived.Laws.Pointers
import Derived.Test.YtjdkbdkimbgbfaaGreatDoorRows
set_option maxHeartbeats 16000000
set_option maxRecDepth 100000
namespace Go.Proofs.YtjdkbdkimbgbfaaGreatDoor
open Go.RowKit Go.Proofs
variable {s : ByteArray} {l p : List UInt8} {b i k n : Nat} {t : Tok} {c : UInt8} {w w' : World}
theorem jcn (W : World) (o : Obj) (hk : k < W.heap.size) : (W.alloc o).heap[k]? = W.heap[k]? := by
 show (W.heap.push o)[k]? = _
 rw [bm hk, aY hk]
theorem Keeps.sub {Q Q' : Nat -> Prop} (h : Keeps Q w w') (hq : ∀ b, Q' b -> Q b) : Keeps Q' w w' := ⟨h.size, fun b hb hQ => h.block b hb (hq b hQ)⟩
theorem jnN (c0 c1 c2 c3 c4 c5 c6 c7 c8 c9 c10 c11 a0 a1 a2 a3 a4 a5 a6 a7 : Value) : qR #[c0, c1, c2, c3, c4, c5, c6, c7, c8, c9, c10, c11] 2 [a0, a1, a2, a3, a4, a5, a6, a7] = #[c0, c1, a0, a1, a2, a3, a4, a5, a6, a7, c10, c11] := by simp [qR]
theorem jnS (n : Nat) (ic : RdC n) (ib : RdBr n) : RdBr (n + 1) := by
 intro d b A C L r w h hw hG hn hd; have H := hid h; have HW := hid hw; have xf := hid ic; have AN := hid ib; have hbl := h.lt; have hsm := h.small; clear h hw ic ib; obtain ⟨V, hV⟩ : ∃ V, V = (w.alloc (.cells #[.int .i64 0, .slice none 0 0, .int .i64 0, .int .i64 0, .int .i64 0, .slice none 0 0, .slice none 0 0, .bool false, .int .i64 0, .slice none 0 0, .slice none 0 0, .slice none 0 0] 201)).alloc (.cells #[.int .i64 2, .slice none 0 0, .int .i64 0, .int .i64 0, .int .i64 0, .slice none 0 0, .slice none 0 0, .bool false, .int .i64 0, .slice none 0 0, .slice none 0 0, .slice none 0 0] 201) := ⟨_, rfl⟩; have DG : V.heap.size = w.heap.size + 2 := by rw [hV]; simp
 have cw : Below w.heap.size w V := by rw [hV]; exact (nb0 _ _).alloc (by simp) _
 have H4V := hid (show V.heap[w.heap.size]? = some (.cells jaC 201) by rw [hV, jcn _ _ (by simp)]; exact az w _); have H5V := hid (show V.heap[w.heap.size + 1]? = some (.cells #[.int .i64 2, .slice none 0 0, .int .i64 0, .int .i64 0, .int .i64 0, .slice none 0 0, .slice none 0 0, .bool false, .int .i64 0, .slice none 0 0, .slice none 0 0, .slice none 0 0] 201) by
  rw [hV]; have := az (w.alloc (.cells #[.int .i64 0, .slice none 0 0, .int .i64 0, .int .i64 0, .int .i64 0, .slice none 0 0, .slice none 0 0, .bool false, .int .i64 0, .slice none 0 0, .slice none 0 0, .slice none 0 0] 201)) (.cells #[.int .i64 2, .slice none 0 0, .int .i64 0, .int .i64 0, .int .i64 0, .slice none 0 0, .slice none 0 0, .bool false, .int .i64 0, .slice none 0 0, .slice none 0 0, .slice none 0 0] 201)
  simpa using this)
 have dT := hid hV; have eH := hid (H.out.next cw); have cU := hid (show But b w V from But.of cw); have fT := hid (HW.out.next cw); have dt : w.heap.size ≠ b := by omega
 have eG : w.heap.size ≠ w.heap.size + 1 := by omega
 have hn5b : w.heap.size + 1 ≠ b := by omega
 have mn : (d : Int) <= 6 := by omega
 have uP : (0 : Int) <= (d : Int) := by omega
 clear hV cw; go_enter Tryz.func156, Tryz.ntmps156; go_wp2_with fail; rw [<- dT.out]; refine (jjp n 1 b A C L r V eH.out fT.out hG (by omega) (by omega)).mono ?_; cases hx : jF n 1 r with
 | error m =>
   have HE := hid (show cmdP (n + 1) false d r = .error m by rw [cmdP, hx]; rfl); clear hx; rintro e w1 ⟨rfl, b8⟩; have bX := hid (cU.out.trans b8); clear b8; go_wp2; rw [HE.out]; exact ⟨rfl, rfl, bX.out⟩
 | ok y =>
   obtain ⟨t, q1⟩ := y; have dV := jbD _ _ _ _ _ hx; have xo := hid (show cmdP (n + 1) false d r = jo (zA (cmdP n true (d + 1)) q1) fun th q =>
        match zl 1 jab q with
        | some q => jo (cmdP n false d q) fun c q => .ok (⟨2, [], t, th, [c]⟩, q)
        | none => match zl 1 jc7 q with
          | some q => jo (zA (cmdP n true (d + 1)) q) fun el q => .ok (⟨2, [], t, th, el⟩, q)
          | none => .ok (⟨2, [], t, th, []⟩, q) by rw [cmdP, hx]; rfl)
   clear hx; rintro e w1 ⟨v, rfl, ⟨cs1, rfl, hT⟩, cz, b8⟩; obtain ⟨an, cn, ak, ck, at', ct, m01, _, rfl, _⟩ := zV hT; have kY := (b8.block _ (by omega) dt).trans H4V.out; have i9 := (b8.block _ (by omega) hn5b).trans H5V.out; have hs1 := b8.size; obtain ⟨g0, g1, g2, g3, g4, g5, g6, g7, g8, g9, g10, g11⟩ := qV i9; have y2 := qN i9 2; have y3 := qN i9 3; have y4 := qN i9 4; have y5 := qN i9 5; have y6 := qN i9 6; have y7 := qN i9 7; have y8 := qN i9 8; have y9 := qN i9 9; obtain ⟨X1, cI⟩ : ∃ X1, X1 = setAll w1 (w.heap.size + 1) 2 [.int .i64 t.kind, .int .i64 t.mat, .int .i64 t.part, .slice an t.names.length cn, .slice ak t.keys.length ck, .bool t.over, .int .i64 t.limit, .slice at' t.tests.length ct] := ⟨_, rfl⟩; have h4X : X1.heap[w.heap.size]? = some (.cells jaC 201) := by rw [cI]; exact (zg eG _ _ _).trans kY
   have h5X : X1.heap[w.heap.size + 1]? = some (.cells #[.int .i64 2, .slice none 0 0, .int .i64 t.kind, .int .i64 t.mat, .int .i64 t.part, .slice an t.names.length cn, .slice ak t.keys.length ck, .bool t.over, .int .i64 t.limit, .slice at' t.tests.length ct, .slice none 0 0, .slice none 0 0] 201) := by rw [cI]; have := jy [.int .i64 t.kind, .int .i64 t.mat, .int .i64 t.part, .slice an t.names.length cn, .slice ak t.keys.length ck, .bool t.over, .int .i64 t.limit, .slice at' t.tests.length ct] 2 w1 _ i9; rwa [jnN] at this
   have gZ : Below (w.heap.size + 1) w1 X1 := by rw [cI]; exact jg (ai _) _ _ _ _ (ay _ _)
   have yT : X1.heap.size = w1.heap.size := by rw [cI]; exact zk _ _ _
   have py : Keeps (newB V.heap.size) w1 X1 := by rw [cI]; exact jm (fun k hk => by have : V.heap.size <= k := hk; omega) _ _ _ _ (Keeps.refl _ _)
   have tO := hid (TstM.imp (fun _ h => h) py _ _ _ hT); have pc := hid (cz.under gZ (by omega)); have oG := hid ((cU.out.trans b8).low (gZ.mono (by omega))); have BE := hid (HW.out.but oG.out hG); simp only [setAll] at cI; have i6 := hid cI; have H4X := hid h4X; have H5X := hid h5X; clear cz b8 kY i9 hT cI h4X h5X gZ py; go_wp2_with fail; rw [<- i6.out]; rw [show ((d : Int) + 1) = ((d + 1 : Nat) : Int) from rfl]; refine (jfF n xf.out (d + 1) b A C L q1 X1 pc.out BE.out hG (by omega) (by omega)).mono ?_; clear g0 g1 g2 g3 g4 g5 g6 g7 g8 g9 g10 g11 y2 y3 y4 y5 y6 y7 y8 y9; cases hx : zA (cmdP n true (d + 1)) q1 with
   | error m =>
     have HE := hid (show cmdP (n + 1) false d r = .error m by rw [xo.out, hx]; rfl); clear hx; rintro e w2 ⟨rfl, b7⟩; have bY := hid (oG.out.trans b7); clear b7; go_wp2; rw [HE.out]; exact ⟨rfl, rfl, bY.out⟩
   | ok y =>
     obtain ⟨th, q2⟩ := y; have dW := jbL (fun _ _ _ h => bi (jd0 _ _ _ _ _ _ h)) hx; have dJ := hid (show cmdP (n + 1) false d r =
      match zl 1 jab q2 with
      | some q => jo (cmdP n false d q) fun c q => .ok (⟨2, [], t, th, [c]⟩, q)
      | none => match zl 1 jc7 q2 with
        | some q => jo (zA (cmdP n true (d + 1)) q) fun el q => .ok (⟨2, [], t, th, el⟩, q)
        | none => .ok (⟨2, [], t, th, []⟩, q2) by rw [xo.out, hx]; rfl)
     clear hx; rintro e w2 ⟨v, rfl, hT, cA, b7⟩; obtain ⟨aa, ca, rfl⟩ := hT.slice; have cZ := (b7.block _ (by omega) dt).trans H4X.out; have cW := (b7.block _ (by omega) hn5b).trans H5X.out; have hs2 := b7.size; have g10 := (qV cW).2.2.2.2.2.2.2.2.2.2.1; have y10 := qN cW 10; obtain ⟨X2, eA⟩ : ∃ X2, X2 = setAll w2 (w.heap.size + 1) 10 [.slice aa th.length ca] := ⟨_, rfl⟩; have h4Y : X2.heap[w.heap.size]? = some (.cells jaC 201) := by rw [eA]; exact (zg eG _ _ _).trans cZ
     have h5Y : X2.heap[w.heap.size + 1]? = some (.cells #[.int .i64 2, .slice none 0 0, .int .i64 t.kind, .int .i64 t.mat, .int .i64 t.part, .slice an t.names.length cn, .slice ak t.keys.length ck, .bool t.over, .int .i64 t.limit, .slice at' t.tests.length ct, .slice aa th.length ca, .slice none 0 0] 201) := by rw [eA]; have := jy [.slice aa th.length ca] 10 w2 _ cW; simpa [qR] using this
     have uk : Below (w.heap.size + 1) w2 X2 := by rw [eA]; exact jg (ai _) _ _ _ _ (ay _ _)
     have Dz : X2.heap.size = w2.heap.size := by rw [eA]; exact zk _ _ _
     have rZ : Keeps (newB V.heap.size) w2 X2 := by rw [eA]; exact jm (fun k hk => by have : V.heap.size <= k := hk; omega) _ _ _ _ (Keeps.refl _ _)
     have eV : ∀ k, newB X1.heap.size k -> newB V.heap.size k := fun k hk => by have : X1.heap.size <= k := hk; show V.heap.size <= k; omega
     have tP := hid (TstM.imp (fun _ h => h) ((Keeps.of_but b7 (fun k hk => by have : V.heap.size <= k := hk; omega)).trans rZ) _ _ _ tO.out); have sK := hid (show CmdsM (newB V.heap.size) (n + 1) X2 (.slice aa th.length ca) th from RowM.imp (RowM.imp hT eV (Keeps.refl _ _) (fun _ _ h => CmdM.imp eV (Keeps.refl _ _) _ _ _ h)) (fun _ h => h) rZ (fun _ _ h => CmdM.imp (fun _ h => h) rZ _ _ _ h)); have pd := hid (cA.under uk (by omega)); have sR := hid ((oG.out.trans b7).low (uk.mono (by omega))); have CX := hid (HW.out.but sR.out hG); simp only [setAll] at eA; have BG := hid eA; have H4Y := hid h4Y; have H5Y := hid h5Y; clear cA b7 cZ cW hT eA h4Y h5Y uk rZ; go_wp2_with fail; rw [<- BG.out]; refine (qE b A C L q2 1 jab X2 pd.out (by omega)).mono ?_; clear g10 y10; cases hs : zl 1 jab q2 with
     | some q3 =>
       have oy := jH hs; have gd := hid (show cmdP (n + 1) false d r = jo (cmdP n false d q3) fun c q => .ok (⟨2, [], t, th, [c]⟩, q) by rw [dJ.out, hs]); clear hs; rintro e w3 ⟨rfl, cB, cy⟩; have kH := hid ((cy.block _ (by omega) dt).trans H4Y.out); have rD := hid ((cy.block _ (by omega) hn5b).trans H5Y.out); have hs3 := cy.size; have cT := hid cB; have bZ := hid (sR.out.trans cy); have cP := hid (HW.out.but bZ.out hG); have fk := hid (show Keeps (newB V.heap.size) X2 w3 from Keeps.of_but cy (fun k hk => by have : V.heap.size <= k := hk; omega)); clear cB cy; go_wp2_with fail; refine (AN.out d b A C L q3 w3 cT.out cP.out hG (by omega) hd).mono ?_; cases hx : cmdP n false d q3 with
       | error m =>
         have HE := hid (show cmdP (n + 1) false d r = .error m by rw [gd.out, hx]; rfl); clear hx; rintro e w4 ⟨rfl, cf⟩; have ch := hid (bZ.out.trans cf); clear cf; go_wp2; rw [HE.out]; exact ⟨rfl, rfl, ch.out⟩
       | ok y =>
         obtain ⟨x2, q4⟩ := y; have HE := hid (show cmdP (n + 1) false d r = .ok (⟨2, [], t, th, [x2]⟩, q4) by rw [gd.out, hx]; rfl); clear hx; rintro e w4 ⟨v, rfl, ⟨cs2, rfl, hT⟩, cK, cf⟩; obtain ⟨ax2, cx2, an2, cn2, ak2, ck2, at2, ct2, aa2, ca2, ae2, ce2, m02, _, rfl, _⟩ := zN hT; have eX := (cf.block _ (by omega) dt).trans kH.out; have gf := (cf.block _ (by omega) hn5b).trans rD.out; have eT := cf.size; have hl4 : w.heap.size < w4.heap.size := by omega
         have Dm : w.heap.size + 1 < w4.heap.size := by omega
         have Cx : w.heap.size ≠ w4.heap.size := by omega
         have Cy : w.heap.size + 1 ≠ w4.heap.size := by omega
         have dm := hid cK; have ch := hid (bZ.out.trans cf); have HT := hid hT; have mP := hid (fk.out.trans (Keeps.of_but cf (fun k hk => by have : V.heap.size <= k := hk; omega))); have H4F := hid (show (w4.setCell ⟨w.heap.size + 1, 11, none⟩ (.slice (some ⟨w4.heap.size, 0, none⟩) 1 1)).heap[w.heap.size]? = some (.cells jaC 201) from (aC _ _ _ _ eG).trans eX); have fp := hid (show Below w.heap.size w4 (w4.setCell ⟨w.heap.size + 1, 11, none⟩ (.slice (some ⟨w4.heap.size, 0, none⟩) 1 1)) from (ay _ _).setCell (p := ⟨w.heap.size + 1, 11, none⟩) (show w.heap.size <= w.heap.size + 1 by omega) _); have tf := hid (show Keeps (newB V.heap.size) w4 (w4.setCell ⟨w.heap.size + 1, 11, none⟩ (.slice (some ⟨w4.heap.size, 0, none⟩) 1 1)) from Keeps.set w4 (p := ⟨w.heap.size + 1, 11, none⟩) _ (fun k hk => by have : V.heap.size <= k := hk; show k ≠ w.heap.size + 1; omega)); have BK := hid (show (w4.setCell ⟨w.heap.size + 1, 11, none⟩ (.slice (some ⟨w4.heap.size, 0, none⟩) 1 1)).heap.size = w4.heap.size by simp [World.setCell]); obtain ⟨a0, a1, a2, a3, a4, a5, a6, a7, a8, a9, a10, a11⟩ := bx12 eX; obtain ⟨z0, z1, z2, z3, z4, z5, z6, z7, z8, z9, z10, z11⟩ := bz12 eX; obtain ⟨g0, g1, g2, g3, g4, g5, g6, g7, g8, g9, g10, g11⟩ := qV gf; obtain ⟨y0, y1, y2, y3, y4, y5, y6, y7, y8, y9, y10, y11⟩ := bz12 gf; clear cK cf eX gf hT; go_wp2; have b1 : ((setAll (w4.setCell ⟨w.heap.size + 1, 11, none⟩ (.slice (some ⟨w4.heap.size, 0, none⟩) 1 1)) w.heap.size 0 [.int .i64 2, .slice none 0 0, .int .i64 t.kind, .int .i64 t.mat, .int .i64 t.part, .slice an t.names.length cn, .slice ak t.keys.length ck, .bool t.over, .int .i64 t.limit, .slice at' t.tests.length ct, .slice aa th.length ca, .slice (some ⟨w4.heap.size, 0, none⟩) 1 1]).alloc (.cells #[.int .i64 x2.kind, .slice ax2 x2.texts.length cx2, .int .i64 x2.test.kind, .int .i64 x2.test.mat, .int .i64 x2.test.part, .slice an2 x2.test.names.length cn2, .slice ak2 x2.test.keys.length ck2, .bool x2.test.over, .int .i64 x2.test.limit, .slice at2 x2.test.tests.length ct2, .slice aa2 x2.thn.length ca2, .slice ae2 x2.els.length ce2] 201)).heap[w.heap.size]? = some (.cells #[.int .i64 2, .slice none 0 0, .int .i64 t.kind, .int .i64 t.mat, .int .i64 t.part, .slice an t.names.length cn, .slice ak t.keys.length ck, .bool t.over, .int .i64 t.limit, .slice at' t.tests.length ct, .slice aa th.length ca, .slice (some ⟨w4.heap.size, 0, none⟩) 1 1] 201) := (jmL 0 [.int .i64 2, .slice none 0 0, .int .i64 t.kind, .int .i64 t.mat, .int .i64 t.part, .slice an t.names.length cn, .slice ak t.keys.length ck, .bool t.over, .int .i64 t.limit, .slice at' t.tests.length ct, .slice aa th.length ca, .slice (some ⟨w4.heap.size, 0, none⟩) 1 1] (.cells #[.int .i64 x2.kind, .slice ax2 x2.texts.length cx2, .int .i64 x2.test.kind, .int .i64 x2.test.mat, .int .i64 x2.test.part, .slice an2 x2.test.names.length cn2, .slice ak2 x2.test.keys.length ck2, .bool x2.test.over, .int .i64 x2.test.limit, .slice at2 x2.test.tests.length ct2, .slice aa2 x2.thn.length ca2, .slice ae2 x2.els.length ce2] 201) H4F.out fp.out (ai _) _ (jfE _ _ _ _ _ _ _ _ _ _ _ _)).1; have b4 := (jmL 0 [.int .i64 2, .slice none 0 0, .int .i64 t.kind, .int .i64 t.mat, .int .i64 t.part, .slice an t.names.length cn, .slice ak t.keys.length ck, .bool t.over, .int .i64 t.limit, .slice at' t.tests.length ct, .slice aa th.length ca, .slice (some ⟨w4.heap.size, 0, none⟩) 1 1] (.cells #[.int .i64 x2.kind, .slice ax2 x2.texts.length cx2, .int .i64 x2.test.kind, .int .i64 x2.test.mat, .int .i64 x2.test.part, .slice an2 x2.test.names.length cn2, .slice ak2 x2.test.keys.length ck2, .bool x2.test.over, .int .i64 x2.test.limit, .slice at2 x2.test.tests.length ct2, .slice aa2 x2.thn.length ca2, .slice ae2 x2.els.length ce2] 201) H4F.out fp.out (ai _) _ (jfE _ _ _ _ _ _ _ _ _ _ _ _)).2.2.2.1; have kp := (jm (b := w.heap.size) (fun k hk => by have : V.heap.size <= k := hk; omega) [.int .i64 2, .slice none 0 0, .int .i64 t.kind, .int .i64 t.mat, .int .i64 t.part, .slice an t.names.length cn, .slice ak t.keys.length ck, .bool t.over, .int .i64 t.limit, .slice at' t.tests.length ct, .slice aa th.length ca, .slice (some ⟨w4.heap.size, 0, none⟩) 1 1] 0 (w4.setCell ⟨w.heap.size + 1, 11, none⟩ (.slice (some ⟨w4.heap.size, 0, none⟩) 1 1)) _ tf.out).more (.cells #[.int .i64 x2.kind, .slice ax2 x2.texts.length cx2, .int .i64 x2.test.kind, .int .i64 x2.test.mat, .int .i64 x2.test.part, .slice an2 x2.test.names.length cn2, .slice ak2 x2.test.keys.length ck2, .bool x2.test.over, .int .i64 x2.test.limit, .slice at2 x2.test.tests.length ct2, .slice aa2 x2.thn.length ca2, .slice ae2 x2.els.length ce2] 201); have bn : ((setAll (w4.setCell ⟨w.heap.size + 1, 11, none⟩ (.slice (some ⟨w4.heap.size, 0, none⟩) 1 1)) w.heap.size 0 [.int .i64 2, .slice none 0 0, .int .i64 t.kind, .int .i64 t.mat, .int .i64 t.part, .slice an t.names.length cn, .slice ak t.keys.length ck, .bool t.over, .int .i64 t.limit, .slice at' t.tests.length ct, .slice aa th.length ca, .slice (some ⟨w4.heap.size, 0, none⟩) 1 1]).alloc (.cells #[.int .i64 x2.kind, .slice ax2 x2.texts.length cx2, .int .i64 x2.test.kind, .int .i64 x2.test.mat, .int .i64 x2.test.part, .slice an2 x2.test.names.length cn2, .slice ak2 x2.test.keys.length ck2, .bool x2.test.over, .int .i64 x2.test.limit, .slice at2 x2.test.tests.length ct2, .slice aa2 x2.thn.length ca2, .slice ae2 x2.els.length ce2] 201)).heap[(setAll (w4.setCell ⟨w.heap.size + 1, 11, none⟩ (.slice (some ⟨w4.heap.size, 0, none⟩) 1 1)) w.heap.size 0 [.int .i64 2, .slice none 0 0, .int .i64 t.kind, .int .i64 t.mat, .int .i64 t.part, .slice an t.names.length cn, .slice ak t.keys.length ck, .bool t.over, .int .i64 t.limit, .slice at' t.tests.length ct, .slice aa th.length ca, .slice (some ⟨w4.heap.size, 0, none⟩) 1 1]).heap.size]? = some (.cells #[.int .i64 x2.kind, .slice ax2 x2.texts.length cx2, .int .i64 x2.test.kind, .int .i64 x2.test.mat, .int .i64 x2.test.part, .slice an2 x2.test.names.length cn2, .slice ak2 x2.test.keys.length ck2, .bool x2.test.over, .int .i64 x2.test.limit, .slice at2 x2.test.tests.length ct2, .slice aa2 x2.thn.length ca2, .slice ae2 x2.els.length ce2] 201) := az _ _; rw [zk] at bn; rw [BK.out] at bn; simp only [setAll] at b1 b4 bn kp; obtain ⟨m0, m1, m2, m3, m4, m5, m6, m7, m8, m9, m10, m11⟩ := bx12 b1; refine aD (v := .agg #[.int .i64 2, .slice none 0 0, .int .i64 t.kind, .int .i64 t.mat, .int .i64 t.part, .slice an t.names.length cn, .slice ak t.keys.length ck, .bool t.over, .int .i64 t.limit, .slice at' t.tests.length ct, .slice aa th.length ca, .slice (some ⟨w4.heap.size, 0, none⟩) 1 1]) (by simp only [results, Tryz.results156]; simp [go_sem, m0, m1, m2, m3, m4, m5, m6, m7, m8, m9, m10, m11]) rfl ?_; rw [HE.out]; exact ⟨_, rfl, ⟨[.int .i64 2, .slice none 0 0, .int .i64 t.kind, .int .i64 t.mat, .int .i64 t.part, .slice an t.names.length cn, .slice ak t.keys.length ck, .bool t.over, .int .i64 t.limit, .slice at' t.tests.length ct, .slice aa th.length ca, .slice (some ⟨w4.heap.size, 0, none⟩) 1 1], rfl, ⟨_, _, _, _, _, _, rfl, jh _ _ _ _ _ _, TstM.more _ _ _ _ (by omega) (TstM.imp (fun k hk => by have : V.heap.size <= k := hk; show w.heap.size <= k; omega) (mP.out.trans kp) _ _ _ tP.out), RowM.imp sK.out (fun k hk => by have : V.heap.size <= k := hk; show w.heap.size <= k; omega) (mP.out.trans kp) (fun _ _ h => CmdM.imp (fun k hk => by have : V.heap.size <= k := hk; show w.heap.size <= k; omega) (mP.out.trans kp) _ _ _ h), jcr (cs := [.int .i64 x2.kind, .slice ax2 x2.texts.length cx2, .int .i64 x2.test.kind, .int .i64 x2.test.mat, .int .i64 x2.test.part, .slice an2 x2.test.names.length cn2, .slice ak2 x2.test.keys.length ck2, .bool x2.test.over, .int .i64 x2.test.limit, .slice at2 x2.test.tests.length ct2, .slice aa2 x2.thn.length ca2, .slice ae2 x2.els.length ce2]) bn rfl (show w.heap.size <= w4.heap.size by omega) (CmdM.imp (fun k hk => by have : w3.heap.size <= k := hk; show w.heap.size <= k; omega) (kp.sub (fun k hk => by have : w3.heap.size <= k := hk; show V.heap.size <= k; omega)) _ _ _ HT.out)⟩⟩, dm.out.under b4 hbl, ch.out.low b4⟩
     | none =>
       rintro e w3 ⟨rfl, cB, cy⟩; have gd := hid (show cmdP (n + 1) false d r = match zl 1 jc7 q2 with
        | some q => jo (zA (cmdP n true (d + 1)) q) fun el q => .ok (⟨2, [], t, th, el⟩, q)
        | none => .ok (⟨2, [], t, th, []⟩, q2) by rw [dJ.out, hs])
       clear hs; have kH := hid ((cy.block _ (by omega) dt).trans H4Y.out); have rD := hid ((cy.block _ (by omega) hn5b).trans H5Y.out); have hs3 := cy.size; have cT := hid cB; have bZ := hid (sR.out.trans cy); have fk := hid (show Keeps (newB V.heap.size) X2 w3 from Keeps.of_but cy (fun k hk => by have : V.heap.size <= k := hk; omega)); clear cB cy; go_wp2_with fail; refine (qE b A C L q2 1 jc7 w3 cT.out (by omega)).mono ?_; cases hs : zl 1 jc7 q2 with
       | none =>
         have HE := hid (show cmdP (n + 1) false d r = .ok (⟨2, [], t, th, []⟩, q2) by rw [gd.out, hs]); clear hs; rintro e w4 ⟨rfl, cK, cf⟩; have eX := (cf.block _ (by omega) dt).trans kH.out; have gf := (cf.block _ (by omega) hn5b).trans rD.out; have eT := cf.size; have sJ := hid eX; have dm := hid cK; have ch := hid (bZ.out.trans cf); have mP := hid (fk.out.trans (Keeps.of_but cf (fun k hk => by have : V.heap.size <= k := hk; omega))); obtain ⟨a0, a1, a2, a3, a4, a5, a6, a7, a8, a9, a10, a11⟩ := bx12 eX; obtain ⟨z0, z1, z2, z3, z4, z5, z6, z7, z8, z9, z10, z11⟩ := bz12 eX; obtain ⟨g0, g1, g2, g3, g4, g5, g6, g7, g8, g9, g10, g11⟩ := qV gf; obtain ⟨y0, y1, y2, y3, y4, y5, y6, y7, y8, y9, y10, y11⟩ := bz12 gf; clear cK cf eX gf; go_wp2; have b1 := jy [.int .i64 2, .slice none 0 0, .int .i64 t.kind, .int .i64 t.mat, .int .i64 t.part, .slice an t.names.length cn, .slice ak t.keys.length ck, .bool t.over, .int .i64 t.limit, .slice at' t.tests.length ct, .slice aa th.length ca, .slice none 0 0] 0 (w4) _ sJ.out; rw [jfE] at b1; have b4 := jg (ai w.heap.size) [.int .i64 2, .slice none 0 0, .int .i64 t.kind, .int .i64 t.mat, .int .i64 t.part, .slice an t.names.length cn, .slice ak t.keys.length ck, .bool t.over, .int .i64 t.limit, .slice at' t.tests.length ct, .slice aa th.length ca, .slice none 0 0] 0 (w4) _ (ay w.heap.size w4); have kp := jm (b := w.heap.size) (fun k hk => by have : V.heap.size <= k := hk; omega) [.int .i64 2, .slice none 0 0, .int .i64 t.kind, .int .i64 t.mat, .int .i64 t.part, .slice an t.names.length cn, .slice ak t.keys.length ck, .bool t.over, .int .i64 t.limit, .slice at' t.tests.length ct, .slice aa th.length ca, .slice none 0 0] 0 (w4) _ mP.out; simp only [setAll] at b1 b4 kp; obtain ⟨m0, m1, m2, m3, m4, m5, m6, m7, m8, m9, m10, m11⟩ := bx12 b1; refine aD (v := .agg #[.int .i64 2, .slice none 0 0, .int .i64 t.kind, .int .i64 t.mat, .int .i64 t.part, .slice an t.names.length cn, .slice ak t.keys.length ck, .bool t.over, .int .i64 t.limit, .slice at' t.tests.length ct, .slice aa th.length ca, .slice none 0 0]) (by simp only [results, Tryz.results156]; simp [go_sem, m0, m1, m2, m3, m4, m5, m6, m7, m8, m9, m10, m11]) rfl ?_; rw [HE.out]; exact ⟨_, rfl, ⟨[.int .i64 2, .slice none 0 0, .int .i64 t.kind, .int .i64 t.mat, .int .i64 t.part, .slice an t.names.length cn, .slice ak t.keys.length ck, .bool t.over, .int .i64 t.limit, .slice at' t.tests.length ct, .slice aa th.length ca, .slice none 0 0], rfl, ⟨_, _, _, _, _, _, rfl, jh _ _ _ _ _ _, TstM.more _ _ _ _ (by omega) (TstM.imp (fun k hk => by have : V.heap.size <= k := hk; show w.heap.size <= k; omega) kp _ _ _ tP.out), RowM.imp sK.out (fun k hk => by have : V.heap.size <= k := hk; show w.heap.size <= k; omega) kp (fun _ _ h => CmdM.imp (fun k hk => by have : V.heap.size <= k := hk; show w.heap.size <= k; omega) kp _ _ _ h), jh _ _ _ _ _ _⟩⟩, dm.out.under b4 hbl, ch.out.low b4⟩
       | some q3 =>
         have oy := jH hs; have rP := hid (show cmdP (n + 1) false d r = jo (zA (cmdP n true (d + 1)) q3) fun el q => .ok (⟨2, [], t, th, el⟩, q) by rw [gd.out, hs]); clear hs; rintro e w4 ⟨rfl, cK, cf⟩; have sJ := hid ((cf.block _ (by omega) dt).trans kH.out); have Ai := hid ((cf.block _ (by omega) hn5b).trans rD.out); have eT := cf.size; have dm := hid cK; have ch := hid (bZ.out.trans cf); have lA := hid (HW.out.but ch.out hG); have mP := hid (fk.out.trans (Keeps.of_but cf (fun k hk => by have : V.heap.size <= k := hk; omega))); clear cK cf; go_wp2_with fail; rw [show ((d : Int) + 1) = ((d + 1 : Nat) : Int) from rfl]; refine (jfF n xf.out (d + 1) b A C L q3 w4 dm.out lA.out hG (by omega) (by omega)).mono ?_; cases hx : zA (cmdP n true (d + 1)) q3 with
         | error m =>
           have HE := hid (show cmdP (n + 1) false d r = .error m by rw [rP.out, hx]; rfl); clear hx; rintro e w5 ⟨rfl, dx⟩; have dh := hid (ch.out.trans dx); clear dx; go_wp2; rw [HE.out]; exact ⟨rfl, rfl, dh.out⟩
         | ok y =>
           obtain ⟨el, q5⟩ := y; have HE := hid (show cmdP (n + 1) false d r = .ok (⟨2, [], t, th, el⟩, q5) by rw [rP.out, hx]; rfl); clear hx; rintro e w5 ⟨v, rfl, hT, dL, dx⟩; obtain ⟨ae, ce, rfl⟩ := hT.slice; have rW := (dx.block _ (by omega) dt).trans sJ.out; have nh := (dx.block _ (by omega) hn5b).trans Ai.out; have hs5 := dx.size; have fw := hid dL; have dh := hid (ch.out.trans dx); have HT := hid hT; have te := hid (mP.out.trans (Keeps.of_but dx (fun k hk => by have : V.heap.size <= k := hk; omega))); have H4F := hid (show (w5.setCell ⟨w.heap.size + 1, 11, none⟩ (.slice ae el.length ce)).heap[w.heap.size]? = some (.cells jaC 201) from (aC _ _ _ _ eG).trans rW); have fp := hid (show Below w.heap.size w5 (w5.setCell ⟨w.heap.size + 1, 11, none⟩ (.slice ae el.length ce)) from (ay _ _).setCell (p := ⟨w.heap.size + 1, 11, none⟩) (show w.heap.size <= w.heap.size + 1 by omega) _); have tf := hid (show Keeps (newB V.heap.size) w5 (w5.setCell ⟨w.heap.size + 1, 11, none⟩ (.slice ae el.length ce)) from Keeps.set w5 (p := ⟨w.heap.size + 1, 11, none⟩) _ (fun k hk => by have : V.heap.size <= k := hk; show k ≠ w.heap.size + 1; omega)); obtain ⟨a0, a1, a2, a3, a4, a5, a6, a7, a8, a9, a10, a11⟩ := bx12 rW; obtain ⟨z0, z1, z2, z3, z4, z5, z6, z7, z8, z9, z10, z11⟩ := bz12 rW; obtain ⟨g0, g1, g2, g3, g4, g5, g6, g7, g8, g9, g10, g11⟩ := qV nh; obtain ⟨y0, y1, y2, y3, y4, y5, y6, y7, y8, y9, y10, y11⟩ := bz12 nh; clear dL dx rW nh hT; go_wp2; have b1 := jy [.int .i64 2, .slice none 0 0, .int .i64 t.kind, .int .i64 t.mat, .int .i64 t.part, .slice an t.names.length cn, .slice ak t.keys.length ck, .bool t.over, .int .i64 t.limit, .slice at' t.tests.length ct, .slice aa th.length ca, .slice ae el.length ce] 0 (w5.setCell ⟨w.heap.size + 1, 11, none⟩ (.slice ae el.length ce)) _ H4F.out; rw [jfE] at b1; have b4 := jg (ai w.heap.size) [.int .i64 2, .slice none 0 0, .int .i64 t.kind, .int .i64 t.mat, .int .i64 t.part, .slice an t.names.length cn, .slice ak t.keys.length ck, .bool t.over, .int .i64 t.limit, .slice at' t.tests.length ct, .slice aa th.length ca, .slice ae el.length ce] 0 (w5.setCell ⟨w.heap.size + 1, 11, none⟩ (.slice ae el.length ce)) _ fp.out; have kp := jm (b := w.heap.size) (fun k hk => by have : V.heap.size <= k := hk; omega) [.int .i64 2, .slice none 0 0, .int .i64 t.kind, .int .i64 t.mat, .int .i64 t.part, .slice an t.names.length cn, .slice ak t.keys.length ck, .bool t.over, .int .i64 t.limit, .slice at' t.tests.length ct, .slice aa th.length ca, .slice ae el.length ce] 0 (w5.setCell ⟨w.heap.size + 1, 11, none⟩ (.slice ae el.length ce)) _ tf.out; simp only [setAll] at b1 b4 kp; obtain ⟨m0, m1, m2, m3, m4, m5, m6, m7, m8, m9, m10, m11⟩ := bx12 b1; refine aD (v := .agg #[.int .i64 2, .slice none 0 0, .int .i64 t.kind, .int .i64 t.mat, .int .i64 t.part, .slice an t.names.length cn, .slice ak t.keys.length ck, .bool t.over, .int .i64 t.limit, .slice at' t.tests.length ct, .slice aa th.length ca, .slice ae el.length ce]) (by simp only [results, Tryz.results156]; simp [go_sem, m0, m1, m2, m3, m4, m5, m6, m7, m8, m9, m10, m11]) rfl ?_; rw [HE.out]; exact ⟨_, rfl, ⟨[.int .i64 2, .slice none 0 0, .int .i64 t.kind, .int .i64 t.mat, .int .i64 t.part, .slice an t.names.length cn, .slice ak t.keys.length ck, .bool t.over, .int .i64 t.limit, .slice at' t.tests.length ct, .slice aa th.length ca, .slice ae el.length ce], rfl, ⟨_, _, _, _, _, _, rfl, jh _ _ _ _ _ _, TstM.more _ _ _ _ (by omega) (TstM.imp (fun k hk => by have : V.heap.size <= k := hk; show w.heap.size <= k; omega) (te.out.trans kp) _ _ _ tP.out), RowM.imp sK.out (fun k hk => by have : V.heap.size <= k := hk; show w.heap.size <= k; omega) (te.out.trans kp) (fun _ _ h => CmdM.imp (fun k hk => by have : V.heap.size <= k := hk; show w.heap.size <= k; omega) (te.out.trans kp) _ _ _ h), RowM.imp HT.out (fun k hk => by have : w4.heap.size <= k := hk; show w.heap.size <= k; omega) (kp.sub (fun k hk => by have : w4.heap.size <= k := hk; show V.heap.size <= k; omega)) (fun _ _ h => CmdM.imp (fun k hk => by have : w4.heap.size <= k := hk; show w.heap.size <= k; omega) (kp.sub (fun k hk => by have : w4.heap.size <= k := hk; show V.heap.size <= k; omega)) _ _ _ h)⟩⟩, fw.out.under b4 hbl, dh.out.low b4⟩
theorem jlI (n : Nat) : RdC n /\ RdBr n := by
 induction n with
 | zero => exact ⟨fun d b A C L r w _ _ _ h _ => by omega, fun d b A C L r w _ _ _ h _ => by omega⟩
 | succ n ih => exact ⟨jlF n ih.2, jnS n ih.1 ih.2⟩
def jbQ (n : Int) (b : Bool) : Int := if n ≠ 0 ∨ b = false then 3 else 0
def numN (t : Tok) : Int := if ¬ (0 <= t.num /\ t.num <= 2147483647) then 6 else if t.text ≠ [] then 3 else 0
theorem jaI (t : Tok) (b : Bool) (w : World) :
 Calls Tryz.prog 115 #[.agg #[.int .i64 t.kind, .string (S t.text), .int .i64 t.num], .bool b] w fun e w' => e = .returned (.int .i64 (jbQ t.num b)) /\ Below w.heap.size w w' := by
 obtain ⟨k, x, n⟩ := t
 by_cases h : n = 0
 . subst h; cases b with
   | true =>
     have HR : Hid (jbQ 0 true = 0) := by unfold Hid jbQ; simp
     go_enter Tryz.func115, Tryz.ntmps115; go_wp2; go_ret; exact ⟨jd HR.out.symm, nb0 _ _⟩
   | false =>
     have HR : Hid (jbQ 0 false = 3) := by unfold Hid jbQ; simp
     go_enter Tryz.func115, Tryz.ntmps115; go_wp2; go_ret; exact ⟨jd HR.out.symm, nb0 _ _⟩
 . have HR : Hid (jbQ n b = 3) := by unfold Hid jbQ; simp [h]
   go_enter Tryz.func115, Tryz.ntmps115; go_wp2; go_ret; exact ⟨jd HR.out.symm, nb0 _ _⟩
theorem jcB (t : Tok) (w : World) :
 Calls Tryz.prog 114 #[.agg #[.int .i64 t.kind, .string (S t.text), .int .i64 t.num]] w fun e w' => e = .returned (.int .i64 (numN t)) /\ Below w.heap.size w w' := by
 obtain ⟨k, x, n⟩ := t
 by_cases h0 : n < 0
 . have HR : Hid (numN ⟨k, x, n⟩ = 6) := by unfold Hid numN; simp only; rw [if_pos (by omega)]
   go_enter Tryz.func114, Tryz.ntmps114; go_wp2; go_ret; exact ⟨jd HR.out.symm, nb0 _ _⟩
 . by_cases h1 : 2147483647 < n
   . have HR : Hid (numN ⟨k, x, n⟩ = 6) := by unfold Hid numN; simp only; rw [if_pos (by omega)]
     go_enter Tryz.func114, Tryz.ntmps114; go_wp2; go_ret; exact ⟨jd HR.out.symm, nb0 _ _⟩
   . cases x with
     | nil =>
       have he := jeV; have HR : Hid (numN ⟨k, [], n⟩ = 0) := by unfold Hid numN; simp only; rw [if_neg (by omega)]; rfl
       go_enter Tryz.func114, Tryz.ntmps114; go_wp2; go_ret; exact ⟨jd HR.out.symm, nb0 _ _⟩
     | cons c x =>
       have he := jeW c x; have HR : Hid (numN ⟨k, c :: x, n⟩ = 3) := by unfold Hid numN; simp only; rw [if_neg (by omega)]; rfl
       go_enter Tryz.func114, Tryz.ntmps114; go_wp2; go_ret; exact ⟨jd HR.out.symm, nb0 _ _⟩
theorem jgy (h : t.kind = 3) : qt t = numN t := by
 unfold qt; rw [if_neg (by omega), if_pos h]; rfl
theorem jdy (h : t.kind = 1 ∨ t.kind = 2) : qt t = jbQ t.num (jci t.text) := by
 unfold qt jbQ; rw [if_neg (by omega), if_neg (by omega)]
 by_cases hn : t.num = 0
 . rw [if_neg (by simpa using hn), if_neg (by omega), if_neg (by omega)]; cases jci t.text <;> simp [hn]
 . rw [if_pos hn, if_pos (Or.inl hn)]
theorem jkt (h : t.kind = 4) : qt t = jbQ t.num true := by
 unfold qt jbQ; rw [if_neg (by omega), if_neg (by omega), if_neg (show ¬ t.kind = 5 by omega), if_pos h]
 simp
theorem jiI (h : t.kind = 5) : qt t = jbQ t.num (jbS t.text) := by
 unfold qt jbQ; rw [if_neg (by omega), if_neg (by omega)]
 by_cases hn : t.num = 0
 . rw [if_neg (by simpa using hn), if_pos h]; have e : (t.text.length = 1 /\ t.text.all jbT = true) ↔ jbS t.text = true := by
    match t.text with
    | [] => simp [jbS]
    | [c] => simp [jbS]
    | a :: b :: r => simp [jbS]
   cases hm : jbS t.text with
   | true => rw [if_pos (e.2 hm), if_neg (by simp [hn])]
   | false => rw [if_neg (fun q => by have := e.1 q; rw [hm] at this; cases this), if_pos (Or.inr rfl)]
 . rw [if_pos hn, if_pos (Or.inl hn)]
theorem jiJ (h : ¬ (1 <= t.kind /\ t.kind <= 5)) : qt t = 2 := by unfold qt; rw [if_pos h]
theorem hid' {p : Prop} (h : p) : Hid p := h
theorem job (t : Tok) (w : World) (hs : t.kind = 1 ∨ t.kind = 2 -> t.text.length <= maxLen) :
 Calls Tryz.prog 71 #[.agg #[.int .i64 t.kind, .string (S t.text), .int .i64 t.num]] w fun e w' => e = .returned (.int .i64 (qt t)) /\ Below w.heap.size w w' := by
 have HS : Hid _ := hs; clear hs; obtain ⟨W0, hW0⟩ : ∃ W0, W0 = w.alloc (.cells #[.int .i64 t.kind, .string (S t.text), .int .i64 t.num] 147) := ⟨_, rfl⟩; have hT : TokB W0 w.heap.size t := by rw [hW0]; exact vN w t
 have cj : Hid (Below w.heap.size w W0) := by unfold Hid; rw [hW0]; exact nb0 _ _
 have HW : Hid _ := hW0; have k0 := hT.c0; have k1 := hT.c1; have k2 := hT.c2; clear hW0 hT
 by_cases h3 : t.kind = 3
 . have HF : Hid _ := jgy h3; have hq : (t.kind == 3) = true := by simp [h3]
   clear h3; go_enter Tryz.func71, Tryz.ntmps71; go_wp2_with fail; rw [<- HW.out]; refine (jcB t _).mono ?_; rintro e u ⟨rfl, hb⟩; go_wp2; go_ret; exact ⟨jd (by rw [HF.out]), cj.out.trans (hb.mono cj.out.size)⟩
 have q3 : (t.kind == 3) = false := by simp [h3]
 by_cases h1 : t.kind = 1
 . have HF : Hid _ := jdy (t := t) (Or.inl h1); have q1 : (t.kind == 1) = true := by simp [h1]
   have HS := hid' (HS.out (Or.inl h1)); clear h1 h3; go_enter Tryz.func71, Tryz.ntmps71; go_wp2; rw [<- HW.out]
   go_region_held3 (fun w' => w'.cell? ⟨w.heap.size, 0, none⟩ = some (.int .i64 t.kind) /\ w'.cell? ⟨w.heap.size, 1, none⟩ = some (.string (S t.text)) /\ w'.cell? ⟨w.heap.size, 2, none⟩ = some (.int .i64 t.num)) (go_keep)
    (first
        | (go_at_call 116
           refine (jdD t.text _ HS.out).mono ?_; rintro e u ⟨rfl, hu⟩; have b6 := hu.symm; subst b6)
        | (go_at_call 115
           refine (jaI t (jci t.text) _).mono ?_; rintro e u2 ⟨rfl, hb⟩; have d0 : u2.cell? ⟨w.heap.size, 0, none⟩ = some (.int .i64 t.kind) := ja (w := W0.drew) k0 hb; have d1 : u2.cell? ⟨w.heap.size, 1, none⟩ = some (.string (S t.text)) := ja (w := W0.drew) k1 hb; have d2 : u2.cell? ⟨w.heap.size, 2, none⟩ = some (.int .i64 t.num) := ja (w := W0.drew) k2 hb))
   go_wp2; go_ret; exact ⟨jd (by rw [HF.out]), (cj.out.drew).trans (hb.mono cj.out.drew.size)⟩
 have q1 : (t.kind == 1) = false := by simp [h1]
 by_cases h2 : t.kind = 2
 . have HF : Hid _ := jdy (t := t) (Or.inr h2); have q2 : (t.kind == 2) = true := by simp [h2]
   have HS := hid' (HS.out (Or.inr h2)); clear h1 h2 h3; go_enter Tryz.func71, Tryz.ntmps71; go_wp2; rw [<- HW.out]
   go_region_held3 (fun w' => w'.cell? ⟨w.heap.size, 0, none⟩ = some (.int .i64 t.kind) /\ w'.cell? ⟨w.heap.size, 1, none⟩ = some (.string (S t.text)) /\ w'.cell? ⟨w.heap.size, 2, none⟩ = some (.int .i64 t.num)) (go_keep)
    (first
        | (go_at_call 116
           refine (jdD t.text _ HS.out).mono ?_; rintro e u ⟨rfl, hu⟩; have b6 := hu.symm; subst b6)
        | (go_at_call 115
           refine (jaI t (jci t.text) _).mono ?_; rintro e u2 ⟨rfl, hb⟩; have d0 : u2.cell? ⟨w.heap.size, 0, none⟩ = some (.int .i64 t.kind) := ja (w := W0.drew) k0 hb; have d1 : u2.cell? ⟨w.heap.size, 1, none⟩ = some (.string (S t.text)) := ja (w := W0.drew) k1 hb; have d2 : u2.cell? ⟨w.heap.size, 2, none⟩ = some (.int .i64 t.num) := ja (w := W0.drew) k2 hb))
   go_wp2; go_ret; exact ⟨jd (by rw [HF.out]), (cj.out.drew).trans (hb.mono cj.out.drew.size)⟩
 have q2 : (t.kind == 2) = false := by simp [h2]
 by_cases h4 : t.kind = 4
 . have HF : Hid _ := jkt h4; have q4 : (t.kind == 4) = true := by simp [h4]
   clear h1 h2 h3 h4; go_enter Tryz.func71, Tryz.ntmps71; go_wp2_with fail; rw [<- HW.out]; refine (jaI t true _).mono ?_; rintro e u ⟨rfl, hb⟩; go_wp2; go_ret; exact ⟨jd (by rw [HF.out]), cj.out.trans (hb.mono cj.out.size)⟩
 have q4 : (t.kind == 4) = false := by simp [h4]
 by_cases h5 : t.kind = 5
 . have HF : Hid _ := jiI h5; have q5 : (t.kind == 5) = true := by simp [h5]
   clear h1 h2 h3 h4 h5; go_enter Tryz.func71, Tryz.ntmps71; go_wp2; rw [<- HW.out]
   go_region_held3 (fun w' => w'.cell? ⟨w.heap.size, 0, none⟩ = some (.int .i64 t.kind) /\ w'.cell? ⟨w.heap.size, 1, none⟩ = some (.string (S t.text)) /\ w'.cell? ⟨w.heap.size, 2, none⟩ = some (.int .i64 t.num)) (go_keep)
    (first
        | (go_at_call 111
           refine (jaM t.text _).mono ?_; rintro e u ⟨rfl, hu⟩; have b6 := hu.symm; subst b6)
        | (go_at_call 115
           refine (jaI t (jbS t.text) _).mono ?_; rintro e u2 ⟨rfl, hb⟩; have d0 : u2.cell? ⟨w.heap.size, 0, none⟩ = some (.int .i64 t.kind) := ja (w := W0.drew) k0 hb; have d1 : u2.cell? ⟨w.heap.size, 1, none⟩ = some (.string (S t.text)) := ja (w := W0.drew) k1 hb; have d2 : u2.cell? ⟨w.heap.size, 2, none⟩ = some (.int .i64 t.num) := ja (w := W0.drew) k2 hb))
   go_wp2; go_ret; exact ⟨jd (by rw [HF.out]), (cj.out.drew).trans (hb.mono cj.out.drew.size)⟩
 have q5 : (t.kind == 5) = false := by simp [h5]
 have HF : Hid _ := jiJ (t := t) (by omega); clear h1 h2 h3 h4 h5; go_enter Tryz.func71, Tryz.ntmps71; go_wp2; go_ret; exact ⟨jd (by rw [HF.out]), by first | exact cj.out | exact nb0 _ _⟩
def jcc (a : Option Addr) (n c : Nat) : Prop := n <= c /\ (n = 0 -> a = none /\ c = 0)
def Sc (w : World) (L : List Tok) (x : Rdg (List Cmd)) (e : Ending) (w' : World) : Prop :=
 match x with
 | .ok (l, _) => ∃ a c, e = .returned (.slice a l.length c) /\ CmdsM (newB w.heap.size) (L.length + 3) w' (.slice a l.length c) l /\ Below w.heap.size w w' /\ jcc a l.length c
 | .error m => e = .panicked (jhQ L m) /\ Below w.heap.size w w'
theorem But.lowB (h : But b w w') (hb : b <= w.heap.size) : Below b w w' := ⟨h.os, h.tape, h.output, h.size, fun k hk => h.block k (by omega) (by omega)⟩
theorem jg3 (A : Option Addr) (C : Nat) (L : List Tok) (w : World) (hL : ToksAt w A L) (hsm : L.length <= 400) (hw : WordsAt w) :
 Calls Tryz.prog 73 #[.slice A L.length C] w (Sc w L (qp L)) := by
 have hG := hw.pos; obtain ⟨W0, hW0⟩ : ∃ W0, W0 = w.alloc (.cells #[.slice A L.length C, .int .i64 0] 196) := ⟨_, rfl⟩; have cw : Below w.heap.size w W0 := by rw [hW0]; exact nb0 _ _
 have hbl : w.heap.size < W0.heap.size := by rw [hW0]; simp
 have dj := hid (show RdS W0 w.heap.size A C L L from ⟨by rw [hW0, az]; simp, hL.below cw, fun i x hx q o ha => by
  obtain ⟨b, o', ha', hb, _⟩ := hL i x hx; rw [ha] at ha'; cases ha'; exact hb, ⟨[], rfl⟩, hsm⟩)
 have HW := hid (hw.next cw); have cu := hid cw; have b9 := hid hW0; have cR := hid (jlI (L.length + 2)).1; obtain ⟨i0, hi, hz0, hz1, hz2⟩ := info_parts jkL; have HL := hid (show qp L = jav (cmdP (L.length + 2) true 0) L.length [] L from rfl); clear hL hw hW0 cw; go_enter Tryz.func73, Tryz.ntmps73; go_wp2; rw [<- b9.out]
 go_loopw [4] (fun v wr => ∃ (acc : List Cmd) (q : List Tok) (a0 : Option Addr) (c0 m : Nat), v = .slice a0 acc.length c0 /\ OwnCs W0.heap.size (L.length + 3) wr (.slice a0 acc.length c0) acc /\ RdS wr w.heap.size A C L q /\ q.length <= m /\ q.length <= L.length /\ acc.length + q.length <= 401 /\
  Hid (qp L = jav (cmdP (L.length + 2) true 0) m acc q) /\ But w.heap.size W0 wr /\ Hid (jcc a0 acc.length c0)) (fun _ wr => jat w.heap.size L.length wr)
 case atStart => exact ⟨[], L, none, 0, L.length, rfl, OwnRow.nil _ _ _ _ _, dj.out, ai _, ai _, by simp; omega, HL, But.refl _ _, ⟨ai _, fun _ => ⟨rfl, rfl⟩⟩⟩
 case round =>
  obtain ⟨acc, q, a0, c0, m, rfl, hO, de, oz, pZ, kh, hN, dd, pd⟩ := hrel; have HO := hid hO; have dR := hid de; have iN := hid dd; have HM := hid (qd de); have rc := dd.size; clear hO de dd; go_wp2_with fail; refine (jdJ w.heap.size A C L q wr dR.out).mono ?_; rintro e w3 ⟨rfl, hb3⟩; have cT := hid (dR.out.next hb3); have bZ := hid (iN.out.trans (But.of hb3)); have db := hid (HO.out.keep (qc (L.length + 3)) (But.of hb3) hbl); have cP := hid (HW.out.but bZ.out hG); clear hb3; cases q with
  | nil =>
    have HF := hid (show qp L = .ok (acc, []) by rw [hN.out]; cases m <;> rfl); have HV := hid (show CmdsM (newB w.heap.size) (L.length + 3) w3 (.slice a0 acc.length c0) acc from by
     have := db.out.rowM (qc (L.length + 3)) (by unfold maxLen; omega); have eV : ∀ k, newB' W0.heap.size k -> newB w.heap.size k := fun k hk => by have : W0.heap.size <= k := hk; show w.heap.size <= k; omega
     exact RowM.imp this eV (Keeps.refl _ _) (fun _ _ h => CmdM.imp eV (Keeps.refl _ _) _ _ _ h))
    simp only [List.isEmpty]; go_wp2; go_ret; rw [HF.out]; exact ⟨_, _, rfl, HV.out, cu.out.trans (bZ.out.lowB (bi hbl)), pd.out⟩
  | cons t q =>
   obtain ⟨m, rfl⟩ : ∃ m', m = m' + 1 := ⟨m - 1, by simp at oz; omega⟩; have HE := hid (show qp L = jo (cmdP (L.length + 2) true 0 (t :: q)) fun c q => jav (cmdP (L.length + 2) true 0) m (acc ++ [c]) q by rw [hN.out, jjx]); simp only [List.isEmpty]; go_wp2_with fail; refine (cR.out 0 w.heap.size A C L (t :: q) w3 cT.out cP.out hG (by omega) (by omega)).mono ?_; cases ht : cmdP (L.length + 2) true 0 (t :: q) with
   | error mm =>
     have HF := hid (show qp L = .error mm by rw [HE.out, ht]; rfl); clear ht; rintro e w4 ⟨rfl, cf⟩; have ch := hid (bZ.out.trans cf); clear cf; go_wp2; rw [HF.out]; exact ⟨rfl, rfl, cu.out.trans (ch.out.lowB (bi hbl))⟩
   | ok y =>
     obtain ⟨x2, q2⟩ := y; have dW := jd0 _ _ _ _ _ _ ht; have HF := hid (show qp L = jav (cmdP (L.length + 2) true 0) m (acc ++ [x2]) q2 by rw [HE.out, ht]; rfl); clear ht; rintro e w4 ⟨v, rfl, ⟨cs2, rfl, dM⟩, cK, cf⟩; obtain ⟨ax, cx, an, cn, ak, ck, at', ct, aa, ca, ae, ce, m02, _, rfl, _⟩ := zN dM; have dm := hid cK; have ch := hid (bZ.out.trans cf); obtain ⟨css, h1, h2, h3, h4⟩ := db.out.keep (qc (L.length + 3)) cf hbl; have hrow3 : ∀ k, (Value.slice a0 acc.length c0).ownBlock = some k -> k < w3.heap.size := fun k hk => by
      obtain ⟨_, g1, _⟩ := db.out; exact (aA g1 k hk).2
     have gB := ch.out.size; have mA := cf.size; have nH := bZ.out.size; have HX := hid (show CmdM (rowQ W0.heap.size w4 (.slice a0 acc.length c0)) (L.length + 3) w4 x2 [.int .i64 x2.kind, .slice ax x2.texts.length cx, .int .i64 x2.test.kind, .int .i64 x2.test.mat, .int .i64 x2.test.part, .slice an x2.test.names.length cn, .slice ak x2.test.keys.length ck, .bool x2.test.over, .int .i64 x2.test.limit, .slice at' x2.test.tests.length ct, .slice aa x2.thn.length ca, .slice ae x2.els.length ce] from CmdM.imp (fun k hk => by
      have e1 : w3.heap.size <= k := hk.1; have e2 : k < w4.heap.size := hk.2; exact ⟨by omega, e2, fun e => by have := hrow3 k e.symm; omega⟩) (Keeps.refl _ _) _ _ _ (CmdM.both _ _ _ dM))
     have mr := jj8 dM; have fJ := jj9 dM; have H2 := hid h2; have H3 := hid h3; have H4 := hid h4; clear cK cf dM h2 h3 h4
     go_wp2_with (at_builtin; refine wpList_append_lies _ rfl _ _ 94 rfl W0.heap.size 201 i0 _ 12 192 Tryz.underlying94 hi hz0 hz1 hz2 rfl (by decide) (.slice a0 acc.length c0) acc.length css.flatten rfl (aO h1 _) ⟨w4.heap.size, 0, none⟩ 1 1 [.int .i64 x2.kind, .slice ax x2.texts.length cx, .int .i64 x2.test.kind, .int .i64 x2.test.mat, .int .i64 x2.test.part, .slice an x2.test.names.length cn, .slice ak x2.test.keys.length ck, .bool x2.test.over, .int .i64 x2.test.limit, .slice at' x2.test.tests.length ct, .slice aa x2.thn.length ca, .slice ae x2.els.length ce] rfl rfl (jpr _ _ _) fJ (by omega) ?c3 ?c4 ?c5 _ rfl ?_)
     case c3 => unfold maxLen; omega
     case c4 => omega
     case c5 => simp; omega
     intro g cap w5 hown' hgrow hat fH; have fC : w4.grownBy w5 (Value.slice a0 acc.length c0).ownBlock := ⟨hgrow.os, hgrow.tape, hgrow.output, by have := hgrow.size; simp at this; omega, fun k hk hn => (hgrow.block k (by simp; omega) hn).trans (by
      show (w4.heap.push _)[k]? = _
      rw [bm hk, aY hk])⟩
     have eO := hid (show OwnCs W0.heap.size (L.length + 3) w5 (.slice (some ⟨g, 0, none⟩) (acc.length + 1) cap) (acc ++ [x2]) from
      OwnRow.more (qc (L.length + 3)) (v := .slice a0 acc.length c0) (H := w4.heap.size + 1) H2.out H3.out H4.out HX.out rfl hown' fC (by
       rcases hat with e | e
       . exact .inl e.symm
       . exact .inr (by rw [e]; simp [Value.ownBlock])) (by omega))
     have dO : Below W0.heap.size w4 w5 := ((ay _ _).alloc gB _).grown hgrow (by simp; omega) (fun j hj => (aA h1 j hj).1); have fw := hid (dm.out.under dO hbl); have dh := hid (ch.out.low dO); have HD := hid (show jat w.heap.size L.length w5 < jat w.heap.size L.length wr by rw [qd fw.out, HM.out]; simp at dW ⊢; omega); have Bl := hid (show jcc (some ⟨g, 0, none⟩) (acc ++ [x2]).length cap from ⟨by
      rw [aB]
      rcases hown'.2 with ⟨e, _⟩ | ⟨_, _, _, e, _, _, e2, _⟩
      . cases e
      . simp only [aE] at e; simp; omega, fun h => by simp at h⟩)
     clear hown' hgrow dO h1 fC hat; go_wp2; exact ⟨⟨acc ++ [x2], q2, some ⟨g, 0, none⟩, cap, m, by first | rfl | simp, by simpa using eO.out, fw.out, by simp at dW oz; omega, by simp at dW pZ; omega, by simp at dW kh ⊢; omega, HF, dh.out, Bl⟩, HD.out⟩
theorem jgX (p q s : Addr) (w : World) :
 CallsD Tryz.prog 72 #[.pointer (some p), .pointer (some q), .pointer (some s)] .returning w fun e u' w' => e = .returned (.tuple #[]) /\ u' = .returning /\ w' = w := by
 refine callsD_of_wpS Tryz.func72 rfl fun c₀ cs hu => ?_
 have hnil : ∀ w : World, (binOp BinOp.neq 20 .nilIface .nilIface).run Tryz.prog w = .ok (.bool false) w := fun _ => by kernel_rfl
 apply wpS_seq
 apply wpS_region
 simp [wpOpsS, go_sem, recoverD, hu, Tryz.ntmps72, Exit.thenS]
 apply wpS_seq
 apply wpS_region
 simp [wpOpsS, go_sem, Exit.thenS, hnil]
 refine wpS_cond (t := false) (by simp [Act.eval, Array.replicate]) ?_; simp only [Bool.false_eq_true, if_false]; refine wpS_of_wp (wp_skip ?_); cases c₀
 simp_all [bodyPostS, results, Tryz.results72]
theorem jjk (b : Nat) (v : Value) (x y : Int) (pl : Nat) (er : Int) (w : World) (hp : w.cell? ⟨b, 0, none⟩ = some v) (Dr : w.frozen? ⟨b, 0, none⟩ = false) (hq : w.cell? ⟨b + 1, 0, none⟩ = some (.int .i64 x)) (Dw : w.frozen? ⟨b + 1, 0, none⟩ = false) (hs : w.cell? ⟨b + 1 + 1, 0, none⟩ = some (.int .i64 y)) (lR : w.frozen? ⟨b + 1 + 1, 0, none⟩ = false) :
 CallsD Tryz.prog 72 #[.pointer (some ⟨b, 0, none⟩), .pointer (some ⟨b + 1, 0, none⟩), .pointer (some ⟨b + 1 + 1, 0, none⟩)] (.panicking [{ v := .iface 152 (misV pl er), recovered := false }]) w fun e u' w' =>
  e = .returned (.tuple #[]) /\ u' = .panicking [{ v := .iface 152 (misV pl er), recovered := true }] /\ w'.cell? ⟨b, 0, none⟩ = some (.slice none 0 0) /\ w'.cell? ⟨b + 1, 0, none⟩ = some (.int .i64 pl) /\ w'.cell? ⟨b + 1 + 1, 0, none⟩ = some (.int .i64 er) /\ Below b w w' := by
 refine callsD_of_wpS Tryz.func72 rfl fun c₀ cs hu => ?_
 have hnil : ∀ w : World, (binOp BinOp.neq 20 (.iface 152 (misV pl er)) .nilIface).run Tryz.prog w = .ok (.bool true) w := fun _ => by kernel_rfl
 apply wpS_seq
 apply wpS_region
 simp [wpOpsS, go_sem, recoverD, hu, Tryz.ntmps72, Exit.thenS]
 apply wpS_seq
 apply wpS_region
 simp [wpOpsS, go_sem, Exit.thenS, hnil]
 refine wpS_cond (t := true) (by simp [Act.eval, Array.replicate]) ?_; simp only [if_true]; refine wpS_of_wp ?_; have B5 : ∀ w : World, (Instr.typeAssert (.iface 152 (misV pl er)) 20 152 false).run Tryz.prog w = .ok (.agg #[.int .i64 pl, .int .i64 er]) w := fun _ => by kernel_rfl
 have hl : b + 1 + 1 < w.heap.size := aG w _ hs; have hl0 : b < w.heap.size := by omega
 have dy : b + 1 < w.heap.size := by omega
 have yE : b ≠ w.heap.size := by omega
 have sE : b + 1 ≠ w.heap.size := by omega
 have gx : b + 1 + 1 ≠ w.heap.size := by omega
 show Code.wp _ _ _ { tmps := #[.pointer (some ⟨b, 0, none⟩), .pointer (some ⟨b + 1, 0, none⟩), .pointer (some ⟨b + 1 + 1, 0, none⟩), .iface 152 (misV pl er), undef, .iface 152 (misV pl er), .iface 152 (misV pl er), .bool true, undef, undef, undef, undef, undef, undef], defers := [] } w
 clear hnil; go_wp2
 go_region
 all_goals go_wp2
 have lQ : (w.setCell ⟨b, 0, none⟩ (.slice none 0 0)).cell? ⟨b, 0, none⟩ = some (.slice none 0 0) := bS _ _ _ (by rw [hp]; rfl); have ir : ((w.setCell ⟨b, 0, none⟩ (.slice none 0 0)).setCell ⟨b + 1, 0, none⟩ (.int .i64 pl)).cell? ⟨b + 1, 0, none⟩ = some (.int .i64 pl) := bS _ _ _ (by rw [aL _ _ _ _ (by simp), hq]; rfl); have hs0 : (((w.setCell ⟨b, 0, none⟩ (.slice none 0 0)).setCell ⟨b + 1, 0, none⟩ (.int .i64 pl)).setCell ⟨b + 1 + 1, 0, none⟩ (.int .i64 er)).cell? ⟨b + 1 + 1, 0, none⟩ = some (.int .i64 er) := bS _ _ _ (by rw [aL _ _ _ _ (by simp), aL _ _ _ _ (by simp), hs]; rfl); have dV : (((w.setCell ⟨b, 0, none⟩ (.slice none 0 0)).setCell ⟨b + 1, 0, none⟩ (.int .i64 pl)).setCell ⟨b + 1 + 1, 0, none⟩ (.int .i64 er)).cell? ⟨b + 1, 0, none⟩ = some (.int .i64 pl) := (aL _ _ _ _ (by simp)).trans ir; have my : (((w.setCell ⟨b, 0, none⟩ (.slice none 0 0)).setCell ⟨b + 1, 0, none⟩ (.int .i64 pl)).setCell ⟨b + 1 + 1, 0, none⟩ (.int .i64 er)).cell? ⟨b, 0, none⟩ = some (.slice none 0 0) := ((aL _ _ _ _ (by simp)).trans (aL _ _ _ _ (by simp))).trans lQ; have eV : Below b w ((((w.setCell ⟨b, 0, none⟩ (.slice none 0 0)).setCell ⟨b + 1, 0, none⟩ (.int .i64 pl)).setCell ⟨b + 1 + 1, 0, none⟩ (.int .i64 er)).alloc (.cells #[.int .i64 pl, .int .i64 er] 152)).drew :=
  (((((ay b w).setCell (p := ⟨b, 0, none⟩) (ai b) _).setCell (p := ⟨b + 1, 0, none⟩) (show b <= b + 1 by omega) _).setCell (p := ⟨b + 1 + 1, 0, none⟩) (show b <= b + 1 + 1 by omega) _).alloc (by simp [World.setCell]; omega) _).drew
 have cw : ∀ W : World, Below W.heap.size W ((W.alloc (.cells #[.int .i64 pl, .int .i64 er] 152)).drew) := fun W => (nb0 _ _).drew
 exact ⟨rfl, _, rfl, .tuple #[], by simp [results, Tryz.results72], rfl, rfl, ja my (cw _), ja dV (cw _), ja hs0 (cw _), eV⟩
theorem jog (w : World) (o0 o1 o2 : Obj) : (((w.alloc o0).alloc o1).alloc o2).heap[w.heap.size]? = some o0 /\ (((w.alloc o0).alloc o1).alloc o2).heap[w.heap.size + 1]? = some o1 /\ (((w.alloc o0).alloc o1).alloc o2).heap[w.heap.size + 1 + 1]? = some o2 := by
 have h1 : (w.alloc o0).heap.size = w.heap.size + 1 := by simp
 have h2 : ((w.alloc o0).alloc o1).heap.size = w.heap.size + 1 + 1 := by simp
 refine ⟨?_, ?_, ?_⟩
 . rw [jcn _ _ (by omega), jcn _ _ (by omega)]; exact az w o0
 . rw [jcn _ _ (by omega), <- h1]; exact az _ o1
 . rw [<- h2]; exact az _ o2
theorem jl1 {W : World} {u0 u1 u2 : Value} (v0 v1 v2 : Value) (h0 : W.cell? ⟨b, 0, none⟩ = some u0) (h1 : W.cell? ⟨b + 1, 0, none⟩ = some u1) (h2 : W.cell? ⟨b + 1 + 1, 0, none⟩ = some u2) :
 (((W.setCell ⟨b, 0, none⟩ v0).setCell ⟨b + 1, 0, none⟩ v1).setCell ⟨b + 1 + 1, 0, none⟩ v2).cell? ⟨b, 0, none⟩ = some v0 /\ (((W.setCell ⟨b, 0, none⟩ v0).setCell ⟨b + 1, 0, none⟩ v1).setCell ⟨b + 1 + 1, 0, none⟩ v2).cell? ⟨b + 1, 0, none⟩ = some v1 /\ (((W.setCell ⟨b, 0, none⟩ v0).setCell ⟨b + 1, 0, none⟩ v1).setCell ⟨b + 1 + 1, 0, none⟩ v2).cell? ⟨b + 1 + 1, 0, none⟩ = some v2 /\ Below b W (((W.setCell ⟨b, 0, none⟩ v0).setCell ⟨b + 1, 0, none⟩ v1).setCell ⟨b + 1 + 1, 0, none⟩ v2) := by
 have lQ : (W.setCell ⟨b, 0, none⟩ v0).cell? ⟨b, 0, none⟩ = some v0 := bS _ _ _ (by rw [h0]; rfl); have ir : ((W.setCell ⟨b, 0, none⟩ v0).setCell ⟨b + 1, 0, none⟩ v1).cell? ⟨b + 1, 0, none⟩ = some v1 := bS _ _ _ (by rw [aL _ _ _ _ (by simp), h1]; rfl); have hs0 : (((W.setCell ⟨b, 0, none⟩ v0).setCell ⟨b + 1, 0, none⟩ v1).setCell ⟨b + 1 + 1, 0, none⟩ v2).cell? ⟨b + 1 + 1, 0, none⟩ = some v2 := bS _ _ _ (by rw [aL _ _ _ _ (by simp), aL _ _ _ _ (by simp), h2]; rfl); exact ⟨((aL _ _ _ _ (by simp)).trans (aL _ _ _ _ (by simp))).trans lQ, (aL _ _ _ _ (by simp)).trans ir, hs0, (((ay b W).setCell (p := ⟨b, 0, none⟩) (ai b) _).setCell (p := ⟨b + 1, 0, none⟩) (show b <= b + 1 by omega) _).setCell (p := ⟨b + 1 + 1, 0, none⟩) (show b <= b + 1 + 1 by omega) _⟩
theorem jbv : jcc none 0 0 := ⟨ai _, fun _ => ⟨rfl, rfl⟩⟩
def jf8 (w : World) (n : Nat) (o : List Cmd × Int × Int) (e : Ending) (w' : World) : Prop :=
 ∃ a c, e = .returned (.tuple #[.slice a o.1.length c, .int .i64 o.2.1, .int .i64 o.2.2]) /\ CmdsM (newB w.heap.size) n w' (.slice a o.1.length c) o.1 /\ Below w.heap.size w w' /\ jcc a o.1.length c
theorem jgd {l : List Tok} (h : l[i]? = some t) (k : Nat) : jdr (l.drop i) k = if qt t = 0 then jdr (l.drop (i + 1)) (k + 1) else some (k, qt t) := by
 have hl := (au.1 h).1; rw [aT hl]; rw [aw hl] at h; cases h; rfl
theorem jji (A : Option Addr) (C : Nat) (L : List Tok) (w : World) (hL : ToksAt w A L) (hm : L.length <= maxLen) (ht : ∀ t ∈ L, t.kind = 1 ∨ t.kind = 2 -> t.text.length <= maxLen) (hw : WordsAt w) :
 Calls Tryz.prog 49 #[.slice A L.length C] w (jf8 w (L.length + 3) (j7 L)) := by
 unfold maxLen at hm; have wm : ∀ (fn : Fn) (first cap : Array Value) (w : World), (Instr.makeFunc fn first cap).run Tryz.prog w = .ok (.func fn first cap) w := fun _ _ _ _ => rfl
 obtain ⟨W0, hW0⟩ : ∃ W0, W0 = ((w.alloc (.cells #[.slice none 0 0] 94)).alloc (.cells #[.int .i64 0] 3)).alloc (.cells #[.int .i64 0] 51) := ⟨_, rfl⟩; have dc : Below w.heap.size w W0 := by rw [hW0]; exact ((nb0 _ _).alloc (by simp) _).alloc (by simp; omega) _
 have hz0 : W0.heap.size = w.heap.size + 3 := by rw [hW0]; simp
 obtain ⟨t0, t1, t2⟩ := jog w (.cells #[.slice none 0 0] 94) (.cells #[.int .i64 0] 3) (.cells #[.int .i64 0] 51); rw [<- hW0] at t0 t1 t2; have c0 : W0.cell? ⟨w.heap.size, 0, none⟩ = some (.slice none 0 0) := by rw [jgm t0]; rfl
 have c1 : W0.cell? ⟨w.heap.size + 1, 0, none⟩ = some (.int .i64 0) := by rw [jgm t1]; rfl
 have c2 : W0.cell? ⟨w.heap.size + 1 + 1, 0, none⟩ = some (.int .i64 0) := by rw [jgm t2]; rfl
 have f0 : W0.frozen? ⟨w.heap.size, 0, none⟩ = false := qN t0 0; have f1 : W0.frozen? ⟨w.heap.size + 1, 0, none⟩ = false := qN t1 0; have f2 : W0.frozen? ⟨w.heap.size + 1 + 1, 0, none⟩ = false := qN t2 0; clear t0 t1 t2; have HW : Hid _ := hW0; have HL := hid hL; have nZ := hid hw; have tO := hid ht; clear hW0 hL hw ht
 by_cases kl : 400 < L.length
 . have HM := hid (show j7 L = ([], 0, 5) by unfold j7; rw [if_pos kl]); have mi : (400 : Int) < (L.length : Int) := by omega
   clear kl
   go_enter_defers Tryz.func49, Tryz.ntmps49
   go_wp2; refine ⟨.tuple #[.slice none 0 0, .int .i64 0, .int .i64 5], by simp [results, Tryz.results49, go_sem], ?_⟩; rw [HM.out]; exact ⟨none, 0, rfl, jh _ _ _ _ _ _, ((nb0 _ _).alloc (by simp) _).alloc (by simp; omega) _, jbv⟩
 . have mi : ¬ (400 : Int) < (L.length : Int) := by omega
   have HP := hid (show j7 L = match jdr (L.drop 0) 0 with
        | some (i, e) => ([], (i : Int), e)
        | none => match qp L with
          | .ok (cs, _) => (cs, 0, 0)
          | .error (m, e) => ([], (L.length - m : Nat), e) by unfold j7; rw [if_neg kl]; rfl)
   go_enter_defers Tryz.func49, Tryz.ntmps49
   go_wp2; rw [<- HW.out]; have cj := hid dc; have HC := hid (show ∀ W : World, Below W0.heap.size W0 W -> W.cell? ⟨w.heap.size, 0, none⟩ = some (.slice none 0 0) /\ W.cell? ⟨w.heap.size + 1, 0, none⟩ = some (.int .i64 0) /\ W.cell? ⟨w.heap.size + 1 + 1, 0, none⟩ = some (.int .i64 0) /\ W.frozen? ⟨w.heap.size, 0, none⟩ = false /\ W.frozen? ⟨w.heap.size + 1, 0, none⟩ = false /\ W.frozen? ⟨w.heap.size + 1 + 1, 0, none⟩ = false from
    fun W hb => ⟨ja c0 hb, ja c1 hb, ja c2 hb, (hb.frozen (by simp [hz0])).trans f0, (hb.frozen (by simp [hz0])).trans f1, (hb.frozen (by simp [hz0])).trans f2⟩)
   clear c0 c1 c2 f0 f1 f2 dc kl
   go_loopw [13] (fun v wr => ∃ i : Nat, i <= L.length /\ v = .int .i64 i /\ Hid (Below W0.heap.size W0 wr) /\ Hid (j7 L = match jdr (L.drop i) i with
        | some (i, e) => ([], (i : Int), e)
        | none => match qp L with
          | .ok (cs, _) => (cs, 0, 0)
          | .error (m, e) => ([], (L.length - m : Nat), e))) (fun v _ => L.length - (intOf v).toNat)
   case atStart => exact ⟨0, aQ _, rfl, ay _ _, HP⟩
   case round =>
    obtain ⟨i, hi, rfl, dA, hN⟩ := hrel
    by_cases hlt : i < L.length
    . have i1 : (i : Int) < (L.length : Int) := by omega
      have i3 : (0 : Int) <= (i : Int) := by omega
      obtain ⟨x, hx⟩ : ∃ x, L[i]? = some x := ⟨_, aw hlt⟩; obtain ⟨b, o, rfl, hbl, e0, e1, e2⟩ := (HL.out.below (cj.out.trans (dA.out.mono cj.out.size))) i x hx; have Ac : x ∈ L := aF hx; have HX := hid (tO.out x Ac); have cY := hid (hN.out.trans (by rw [jgd hx])); have CU := hid (HC.out wr dA.out); have cw : Below wr.heap.size wr (wr.alloc (.cells #[.int .i64 x.kind, .string (S x.text), .int .i64 x.num] 147)) := nb0 _ _; have cu := hid cw; clear hx cw hN Ac; go_wp2_with fail; refine (job x _ HX.out).mono ?_; rintro e w2 ⟨rfl, hb2⟩; have dd : Below wr.heap.size wr w2 := cu.out.trans (hb2.mono cu.out.size); have bZ := hid (show Below W0.heap.size W0 w2 from dA.out.trans (dd.mono dA.out.size)); obtain ⟨y, hy⟩ : ∃ y, y = qt x := ⟨_, rfl⟩; rw [<- hy]; rw [<- hy] at cY; clear hy hb2 dd e0 e1 e2
      by_cases hy : y = 0
      . have dY := hid (cY.out.trans (by rw [if_pos hy])); subst hy; go_wp2; exact ⟨⟨i + 1, by omega, by go_num, bZ, dY⟩, by simp [intOf]; omega⟩
      . have dY := hid (show j7 L = ([], (i : Int), y) from cY.out.trans (by rw [if_neg hy])); obtain ⟨c0, c1, c2, f0, f1, f2⟩ := HC.out w2 bZ.out; go_wp2; obtain ⟨m0, m1, m2, mB⟩ := jl1 (.slice none 0 0) (.int .i64 i) (.int .i64 y) c0 c1 c2; refine ⟨.tuple #[.slice none 0 0, .int .i64 i, .int .i64 y], by simp only [results, Tryz.results49]; simp [go_sem, m0, m1, m2], ?_⟩; rw [dY.out]; exact ⟨none, 0, rfl, jh _ _ _ _ _ _, (((cj.out.trans (bZ.out.mono cj.out.size)).setCell (p := ⟨w.heap.size, 0, none⟩) (ai _) _).setCell (p := ⟨w.heap.size + 1, 0, none⟩) (show w.heap.size <= w.heap.size + 1 by omega) _).setCell (p := ⟨w.heap.size + 1 + 1, 0, none⟩) (show w.heap.size <= w.heap.size + 1 + 1 by omega) _, jbv⟩
    . have i1 : ¬ (i : Int) < (L.length : Int) := by omega
      have cY := hid (show j7 L = match qp L with
       | .ok (cs, _) => (cs, 0, 0)
       | .error (m, e) => ([], (L.length - m : Nat), e) from hN.out.trans (by rw [aZ (by omega)]; rfl))
      have cS := cj.out.trans (dA.out.mono cj.out.size); have A0 := hid (HL.out.below cS); have dZ := hid (nZ.out.next cS); have gD := hid cS; clear hN cS; go_wp2_with fail; refine (jg3 A C L wr A0.out (by omega) dZ.out).mono ?_; cases hs : qp L with
      | error m =>
        obtain ⟨m, er⟩ := m; have HM := hid (show j7 L = ([], ((L.length - m : Nat) : Int), er) from cY.out.trans (by rw [hs])); clear hs; rintro e w1 ⟨rfl, hb⟩; obtain ⟨d0, d1, d2, g0, g1, g2⟩ := HC.out w1 (dA.out.trans (hb.mono dA.out.size)); have bX := hid (gD.out.trans (hb.mono gD.out.size)); clear hb; refine leaves_cons (f := 72) (args := #[.pointer (some ⟨w.heap.size, 0, none⟩), .pointer (some ⟨w.heap.size + 1, 0, none⟩), .pointer (some ⟨w.heap.size + 1 + 1, 0, none⟩)]) (by simp) (by simp [go_sem]) ?_; refine (jjk w.heap.size _ _ _ (L.length - m) er w1 d0 g0 d1 g1 d2 g2).mono ?_; rintro e u' w2 ⟨rfl, rfl, k0, k1, k2, hb2⟩
        show ∃ v, (results Tryz.f49 _).run Tryz.prog _ = .ok v _ /\ jf8 w _ _ (.returned v) _
        refine ⟨.tuple #[.slice none 0 0, .int .i64 (L.length - m : Nat), .int .i64 er], by simp [results, Tryz.results49, go_sem, k0, k1, k2], ?_⟩; rw [HM.out]; exact ⟨none, 0, rfl, jh _ _ _ _ _ _, bX.out.trans hb2, jbv⟩
      | ok y =>
        obtain ⟨cs, q⟩ := y; have HM := hid (show j7 L = (cs, 0, 0) from cY.out.trans (by rw [hs])); clear hs; rintro e w1 ⟨a, c, rfl, hA, hb, yS⟩; have pd := hid yS; obtain ⟨d0, d1, d2, g0, g1, g2⟩ := HC.out w1 (dA.out.trans (hb.mono dA.out.size)); have bX := hid (gD.out.trans (hb.mono gD.out.size)); have rc : w.heap.size + 3 <= wr.heap.size := by rw [<- hz0]; exact dA.out.size
        have HA := hid hA; clear hb hA yS; go_wp2; refine leaves_cons (f := 72) (args := #[.pointer (some ⟨w.heap.size, 0, none⟩), .pointer (some ⟨w.heap.size + 1, 0, none⟩), .pointer (some ⟨w.heap.size + 1 + 1, 0, none⟩)]) (by simp) (by simp [go_sem]) ?_; refine (jgX _ _ _ _).mono ?_; rintro e u' w2 ⟨rfl, rfl, rfl⟩
        show ∃ v, (results Tryz.f49 _).run Tryz.prog _ = .ok v _ /\ jf8 w _ _ (.returned v) _
        obtain ⟨m0, m1, m2, mB⟩ := jl1 (.slice a cs.length c) (.int .i64 0) (.int .i64 0) d0 d1 d2; refine ⟨.tuple #[.slice a cs.length c, .int .i64 0, .int .i64 0], by simp only [results, Tryz.results49]; simp [go_sem, m0, m1, m2], ?_⟩; rw [HM.out]; have eV : ∀ k, newB wr.heap.size k -> newB w.heap.size k := fun k hk => by have : wr.heap.size <= k := hk; show w.heap.size <= k; omega
        have hk : Keeps (newB wr.heap.size) w1 (((w1.setCell ⟨w.heap.size, 0, none⟩ (.slice a cs.length c)).setCell ⟨w.heap.size + 1, 0, none⟩ (.int .i64 0)).setCell ⟨w.heap.size + 1 + 1, 0, none⟩ (.int .i64 0)) :=
            ((Keeps.set w1 (p := ⟨w.heap.size, 0, none⟩) _ (fun k hk => by have : wr.heap.size <= k := hk; show k ≠ w.heap.size; omega)).trans (Keeps.set _ (p := ⟨w.heap.size + 1, 0, none⟩) _ (fun k hk => by have : wr.heap.size <= k := hk; show k ≠ w.heap.size + 1; omega))).trans (Keeps.set _ (p := ⟨w.heap.size + 1 + 1, 0, none⟩) _ (fun k hk => by have : wr.heap.size <= k := hk; show k ≠ w.heap.size + 1 + 1; omega))
        exact ⟨a, c, rfl, RowM.imp HA.out eV hk (fun _ _ h => CmdM.imp eV hk _ _ _ h), bX.out.trans mB, pd.out⟩
def marksL : List UInt8 := [33, 35, 36, 37, 38, 39, 42, 43, 45, 47, 61, 63, 94, 95, 96, 123, 124, 125, 126]
def qy (c : UInt8) : Bool := (decide (97 <= c.toNat) && decide (c.toNat <= 122)) || (decide (65 <= c.toNat) && decide (c.toNat <= 90)) || (decide (48 <= c.toNat) && decide (c.toNat <= 57)) || marksL.contains c
def runB (c : UInt8) : Bool := c == 46 || qy c
def dotS : Bool -> List UInt8 -> Bool
 | b, [] => !b
 | b, c :: t => if c = 46 then !b && dotS true t else qy c && dotS false t
def j8 (l : List UInt8) : Bool := dotS true l
def jbc (l : List UInt8) : Bool := !l.isEmpty && l.all qy
theorem jiB (h : 46 ∉ p) (b : Bool) : dotS b p = if p.isEmpty then !b else p.all qy := by
 induction p generalizing b with
 | nil => simp [dotS]
 | cons c t ih =>
   simp only [bV, not_or] at h; have hc : ¬ c = 46 := fun e => h.1 e.symm
   simp only [dotS, if_neg hc, ih h.2, List.isEmpty_cons, List.all_cons]; cases t <;> simp
theorem jmY (h : 46 ∉ p) (b : Bool) (t : List UInt8) : dotS b (p ++ 46 :: t) = ((if p.isEmpty then !b else p.all qy) && dotS true t) := by
 induction p generalizing b with
 | nil => simp [dotS]
 | cons c u ih =>
   simp only [bV, not_or] at h; have hc : ¬ c = 46 := fun e => h.1 e.symm
   simp only [bL, dotS, if_neg hc, ih h.2, List.isEmpty_cons, List.all_cons]; cases u <;> simp [Bool.and_assoc]
theorem jaa (h : 46 ∉ p) : j8 p = jbc p := by
 unfold j8 jbc; rw [jiB h]; cases p <;> simp
theorem jdw (h : 46 ∉ p) (t : List UInt8) : j8 (p ++ 46 :: t) = (jbc p && j8 t) := by
 unfold j8 jbc; rw [jmY h]; cases p <;> simp
def jP (l d : List UInt8) : Int := if (j8 l && j8 d) = false then 3 else if 100 < l.length + 1 + d.length then 1 else 0
def qF (s : List UInt8) : List UInt8 := s.dropWhile zo
def wrun (s : List UInt8) : List UInt8 := s.takeWhile runB
def vC (s : List UInt8) : List UInt8 := s.dropWhile runB
theorem jc5 (s : List UInt8) : wrun s ++ vC s = s := bF
theorem jmt (s : List UInt8) : (vC s).length <= s.length := (List.dropWhile_suffix _).length_le
abbrev Adr := List UInt8 × List UInt8
def jl7 (c : UInt8) : List UInt8 -> Option (List UInt8)
 | [] => none
 | x :: t => if x = c then some t else none
def jh0 : Bool -> List UInt8 -> Option (List UInt8)
 | _, [] => none
 | true, c :: t => if c = 34 ∨ c = 92 then jh0 false t else none
 | false, c :: t => if c = 34 then some t else if c = 92 then jh0 true t else jh0 false t
def joP (s : List UInt8) : Option (Adr × List UInt8) :=
 match jl7 64 (vC s) with
 | none => none
 | some r => if jP (wrun s) (wrun r) = 0 then some ((wrun s, wrun r), vC r) else none
def jmp : Nat -> List UInt8 -> Option (List UInt8)
 | 0, s => some s
 | _ + 1, [] => some []
 | n + 1, c :: t =>
   if c = 34 then (jh0 false t).bind fun r => jmp n (qF r)
   else if runB c then jmp n (qF (vC t)) else some (c :: t)
def jri (s : List UInt8) : Option (List UInt8) := jmp s.length s
def jqT (s : List UInt8) : Option (Adr × List UInt8) :=
 (jri s).bind fun r => (jl7 60 r).bind fun r => (joP r).bind fun x => (jl7 62 x.2).map fun r => (x.1, r)
def jmD (s : List UInt8) : Option (Adr × List UInt8) :=
 (if (jl7 64 (vC (qF s))).isSome then joP (qF s) else jqT (qF s)).map fun x => (x.1, qF x.2)
def jqL : Nat -> List UInt8 -> Option (List Adr)
 | 0, _ => none
 | n + 1, s => (jmD s).bind fun x => if x.2 = [] then some [x.1] else (jl7 44 x.2).bind fun r => (jqL n r).map (x.1 :: ·)
def jrs (s : List UInt8) : Option (List Adr) := jqL (s.length + 1) s
def jno (s : List UInt8) : List Adr × Int :=
 if 2000 < s.length then ([], 1) else match jrs s with
    | none => ([], 3)
    | some l => if 20 < l.length then ([], 5) else (l, 0)
def wordy (l : List UInt8) : Prop := l ≠ [] /\ l.length <= 8 /\ ∀ c ∈ l, 97 <= c.toNat /\ c.toNat <= 122
theorem jgK (h : 97 <= c.toNat /\ c.toNat <= 122) : qy c = true := by unfold qy; simp [h.1, h.2]
def orgL : List UInt8 := [46, 111, 114, 103]
def letters (l : List UInt8) : Prop := ∀ c ∈ l, (97 <= c.toNat /\ c.toNat <= 122) ∨ c = 46
theorem wordy.letters (h : wordy l) : letters l := fun c hc => Or.inl (h.2.2 c hc)
theorem wordy.org (h : wordy l) : Go.Proofs.YtjdkbdkimbgbfaaGreatDoor.letters (l ++ orgL) := by
 intro c hc
 rcases bo.1 hc with hc | hc
 . exact Or.inl (h.2.2 c hc)
 . simp [orgL] at hc
   rcases hc with rfl | rfl | rfl | rfl <;> decide
theorem jcb (h : wordy l) : j8 l = true := by
 rw [jaa (fun hc => by have := h.2.2 46 hc; simp at this)]; unfold jbc; obtain ⟨h1, _, h2⟩ := h; have e : l.isEmpty = false := by cases l <;> simp_all
 rw [e]; simp only [Bool.not_false, Bool.true_and, List.all_eq_true]; exact fun c hc => jgK (h2 c hc)
theorem jmr (h : wordy l) : j8 (l ++ orgL) = true := by
 have e := jcb h; have h0 : 46 ∉ l := fun hc => by have := h.2.2 46 hc; simp at this
 rw [jaa h0] at e
 show j8 (l ++ 46 :: [111, 114, 103]) = true
 rw [jdw h0, e]
 decide
def lawful (a : Adr) : Prop := wordy a.1 /\ ∃ d, wordy d /\ a.2 = d ++ orgL
theorem lawful.check {a : Adr} (h : lawful a) : jP a.1 a.2 = 0 := by
 obtain ⟨h1, d, h2, h3⟩ := h; unfold jP; rw [h3, jcb h1, jmr h2]; have l1 := h1.2.1; have l2 := h2.2.1
 simp [orgL]
 omega
theorem lawful.len {a : Adr} (h : lawful a) : a.1.length <= 8 /\ a.2.length <= 12 := by
 obtain ⟨h1, d, h2, h3⟩ := h; have l1 := h1.2.1; have l2 := h2.2.1; rw [h3]; simp [orgL]; omega
theorem lawful.letters {a : Adr} (h : lawful a) : letters a.1 /\ Go.Proofs.YtjdkbdkimbgbfaaGreatDoor.letters a.2 := by
 obtain ⟨h1, d, h2, h3⟩ := h; rw [h3]; exact ⟨h1.letters, h2.org⟩
def jrh (a : Adr) : List UInt8 := a.1 ++ 64 :: a.2
theorem lawful.size {a : Adr} (h : lawful a) : (jrh a).length <= 21 := by
 have := h.len
 simp [jrh]; omega
structure Man where
 adr : Adr
 word : List UInt8
 kind : Nat
 sep : Nat
def Man.ok (x : Man) : Prop := lawful x.adr /\ wordy x.word
def flagTab : List (List UInt8 × Nat) := [([92, 83, 101, 101, 110], 1), ([92, 65, 110, 115, 119, 101, 114, 101, 100], 2), ([92, 70, 108, 97, 103, 103, 101, 100], 4), ([92, 68, 101, 108, 101, 116, 101, 100], 8), ([92, 68, 114, 97, 102, 116], 16)]
def jfd : List (List UInt8 × Nat) -> List UInt8 -> Nat
 | [], _ => 0
 | x :: r, s => if x.1 = s then x.2 else jfd r s
def jce (s : List UInt8) : Nat := jfd flagTab s
def jcE : Nat -> List (List UInt8) -> Option Nat
 | n, [] => some n
 | n, s :: r => if jce s = 0 then none else jcE (n ||| jce s) r
def vT (l : List (List UInt8)) : Option Nat := jcE 0 l
theorem jkz : ∀ (t : List (List UInt8 × Nat)) (s : List UInt8), (∀ x ∈ t, x.2 < 32) -> jfd t s < 32 := by
 intro t
 induction t with
 | nil => intro s _; show 0 < 32; omega
 | cons x t ih =>
   intro s h; unfold jfd; split
   . exact h x (by simp)
   . exact ih s fun y hy => h y (by simp [hy])
theorem jm4 (s : List UInt8) : jce s < 32 := jkz _ _ (by decide)
theorem jqP {a : Nat} (ha : a < 32) (hb : b < 32) : a ||| b < 32 := Nat.or_lt_two_pow (n := 5) ha hb
def jaf (c : UInt8) : Bool := decide (33 <= c.toNat) && decide (c.toNat <= 126)
def vu (s : List UInt8) : Int := if s.length < 1 ∨ 12 < s.length then 1 else if s.all jaf then 0 else 3
def jkv : List UInt8 := [102, 105, 108, 101, 105, 110, 116, 111]
def rejW : List UInt8 := [114, 101, 106, 101, 99, 116]
def envW : List UInt8 := [101, 110, 118, 101, 108, 111, 112, 101]
def flgW : List UInt8 := [105, 109, 97, 112, 52, 102, 108, 97, 103, 115]
def jpy : List UInt8 := [102, 114, 111, 109]
def toW : List UInt8 := [116, 111]
def extP (s : List UInt8) : Bool := decide (s = jkv) || decide (s = rejW) || decide (s = envW) || decide (s = flgW)
def vv (s : List UInt8) : Bool := decide (s = jpy) || decide (s = toW)
def jgR (k : Int) : List UInt8 := if k = 5 then jkv else if k = 7 then rejW else if k = 8 ∨ k = 9 then flgW else []
def hasP (H : List (List UInt8)) (s : List UInt8) : Bool := s.isEmpty || H.contains s
def qo (l : List (List UInt8)) : Bool := l.any fun s => decide (100 < s.length)
def envP (H : List (List UInt8)) (t : Tst) : Int := if hasP H envW = false then 8 else if t.names.all vv then 0 else 7
def tstA (H : List (List UInt8)) : Nat -> Tst -> Int
 | 0, _ => 0
 | n + 1, t => if t.kind = 8 /\ envP H t ≠ 0 then envP H t else if qo t.names ∨ qo t.keys then 1 else jj (tstA H n) t.tests
def jiP (s : List UInt8) : Int := if (jno s).2 = 0 /\ (jno s).1.length = 1 then 0 else 3
def cmdA (H : List (List UInt8)) : Nat -> Cmd -> Int
 | 0, _ => 0
 | n + 1, c =>
   if hasP H (jgR c.kind) = false then 8
   else if c.kind = 1 then 3
   else if c.kind = 5 then vu (c.texts.getD 0 [])
   else if c.kind = 8 ∨ c.kind = 9 then (if vT c.texts = none then 7 else 0)
   else if c.kind = 6 then jiP (c.texts.getD 0 [])
   else if c.kind = 2 then
     (if tstA H n c.test ≠ 0 then tstA H n c.test
      else if jj (cmdA H n) c.thn ≠ 0 then jj (cmdA H n) c.thn
      else jj (cmdA H n) c.els)
   else 0
def zx : List Cmd -> Nat
 | [] => 0
 | c :: r => if c.kind = 1 then zx r + 1 else 0
def jjq (l : List Cmd) : List (List UInt8) := (l.take (zx l)).flatMap (·.texts)
def jbY (n : Nat) (l : List Cmd) : Int :=
 if qh n l ≠ 0 then qh n l
 else if (jjq l).all extP = false then 7
 else jj (cmdA (jjq l) n) (l.drop (zx l))
theorem jks {d : Nat} {l : List Cmd} (h : jS n d l = 0) : ∀ x ∈ l, jp n d x = 0 := by
 intro x hx; unfold jS at h
 induction l with
 | nil => cases hx
 | cons y l ih =>
   unfold jj at h
   by_cases hy : jp n d y = 0
   . rw [if_pos hy] at h
     rcases bV.1 hx with e | e
     . rw [e]; exact hy
     . exact ih h e
   . rw [if_neg hy] at h; exact absurd h hy
theorem je4 {l : List Cmd} (h : qh n l = 0) : (∀ x ∈ l, jp n 0 x = 0) /\ (zp n l).length <= 400 := by
 unfold qh at h
 by_cases h1 : jS n 0 l = 0
 . rw [if_neg (by simpa using h1)] at h; refine ⟨jks h1, ?_⟩
   rcases bz 400 (zp n l).length with h2 | h2
   . rw [if_pos h2] at h; simp at h
   . exact h2
 . rw [if_pos h1] at h; exact absurd h h1
theorem jdR (f : UInt8 -> Bool) (h : l[k]? = some c) : (l.take (k + 1)).all f = ((l.take k).all f && f c) := by
 have hk : k < l.length := (au.1 h).1; have e : l[k] = c := (au.1 h).2; rw [aU hk, List.all_append, e]
 simp
theorem jkI (h : jaf c = false) : c.toNat < 33 ∨ 126 < c.toNat := by
 unfold jaf at h; simp at h; omega
theorem jiR (h : jaf c = true) : 33 <= c.toNat /\ c.toNat <= 126 := by
 unfold jaf at h; simpa using h
theorem jlc (hc : c ∈ s.data.toList) (h1 : 1 <= s.size) (h2 : s.size <= 12) (h : jaf c = false) : vu s.data.toList = 3 := by
 unfold vu; rw [if_neg (by rw [size_list]; omega), if_neg]; intro ha; have := List.all_eq_true.1 ha c hc; rw [h] at this; cases this
theorem jjc (h1 : 1 <= s.size) (h2 : s.size <= 12) (h : s.data.toList.all jaf = true) : vu s.data.toList = 0 := by
 unfold vu; rw [if_neg (by rw [size_list]; omega), if_pos h]
theorem jdH (h : s.size < 1 ∨ 12 < s.size) : vu s.data.toList = 1 := by
 unfold vu; rw [if_pos (by rw [size_list]; exact h)]
theorem jcQ (s : ByteArray) (w : World) :
 Calls Tryz.prog 124 #[.string s] w fun e w' => e = .returned (.int .i64 (vu s.data.toList)) /\ w' = w := by
 by_cases h0 : s.size < 1
 . have HR : Hid _ := jdH (Or.inl h0); have i0 : (s.size : Int) < 1 := by omega
   go_enter Tryz.func124, Tryz.ntmps124; go_wp2; go_ret; exact ⟨jd HR.out.symm, rfl⟩
 . by_cases BM : 12 < s.size
   . have HR : Hid _ := jdH (Or.inr BM); have i0 : ¬ (s.size : Int) < 1 := by omega
     have i1 : (12 : Int) < (s.size : Int) := by omega
     go_enter Tryz.func124, Tryz.ntmps124; go_wp2; go_ret; exact ⟨jd HR.out.symm, rfl⟩
   . have i0 : ¬ (s.size : Int) < 1 := by omega
     have i1 : ¬ (12 : Int) < (s.size : Int) := by omega
     go_enter Tryz.func124, Tryz.ntmps124; go_wp2
     go_loopw [14] (fun i wr => ∃ k : Nat, k <= s.size /\ i = .int .i64 k /\ Hid ((s.data.toList.take k).all jaf = true) /\ wr = w) (fun i _ => s.size - (intOf i).toNat)
     case atStart => exact ⟨0, aQ _, rfl, rfl, rfl⟩
     case round =>
        obtain ⟨k, hk, rfl, HT, rfl⟩ := hrel
        by_cases hlt : k < s.size
        . have hg := jcl s k hlt; have HS : Hid _ := jdR jaf hg; have wi : (k : Int) < (s.size : Int) := by omega
          have fF : (0 : Int) <= (k : Int) := by omega
          cases ha : jaf s[k] with
          | true =>
            have HN : Hid ((s.data.toList.take (k + 1)).all jaf = true) := by unfold Hid; rw [HS.out, HT.out, ha]; rfl
            obtain ⟨b1, b2⟩ := jiR ha; have c1 : ¬ ((s[k].toNat : Int) < 33) := by omega
            have c2 : ¬ ((126 : Int) < (s[k].toNat : Int)) := by omega
            clear HS hg ha; go_wp2
            go_roundw
            case rel => first | exact ⟨k + 1, by omega, by go_num, HN, by first | rfl | trivial⟩ | ((repeat apply Exists.intro); exact ⟨⟨k + 1, by omega, by go_num, HN, by first | rfl | trivial⟩, rfl⟩) | (refine ⟨trivial, ?_⟩; (repeat apply Exists.intro); exact ⟨⟨k + 1, by omega, by go_num, HN, by first | rfl | trivial⟩, rfl⟩)
            case measure => simp [intOf]; omega
          | false =>
            have HN : Hid _ := jlc (aF hg) (by omega) (by omega) ha
            rcases jkI ha with b | b
            . have c1 : ((s[k].toNat : Int) < 33) := by omega
              clear HS hg ha; go_wp2; go_ret; exact ⟨jd HN.out.symm, rfl⟩
            . have c1 : ¬ ((s[k].toNat : Int) < 33) := by omega
              have c2 : ((126 : Int) < (s[k].toNat : Int)) := by omega
              clear HS hg ha; go_wp2; go_ret; exact ⟨jd HN.out.symm, rfl⟩
        . have dF : k = s.size := by omega
          have HN : Hid (vu s.data.toList = 0) := jjc (by omega) (by omega) (by have := HT.out; rwa [aV (by rw [size_list]; omega)] at this); have wi : ¬ (k : Int) < (s.size : Int) := by omega
          go_wp2; go_ret; exact ⟨jd HN.out.symm, rfl⟩
def jry : Value -> ByteArray | .string s => s | _ => ⟨#[]⟩
def marksT : ByteArray := ⟨#[33, 35, 36, 37, 38, 39, 42, 43, 45, 47, 61, 63, 94, 95, 96, 123, 124, 125, 126]⟩
theorem jjb : marksT.data.toList = marksL := rfl
theorem jaK (c : UInt8) (w : World) :
 Calls Tryz.prog 103 #[.int .u8 c.toNat] w fun e w' => e = .returned (.bool (qy c)) /\ w' = w := by
 have hu := c.toNat_lt; have fD : Hid (decide (0 <= Lib.indexByte marksT.data.toList ((c.toNat : Int)).toNat.toUInt8) = marksL.contains c) := by
  unfold Hid; rw [jbM, jjb, <- Lib.contains_iff_indexByte]
 by_cases h1 : 97 <= c.toNat /\ c.toNat <= 122
 . obtain ⟨a1, a2⟩ := h1; have HA : Hid (qy c = true) := by unfold Hid qy; simp [a1, a2]
   have b1 : (97 : Int) <= (c.toNat : Int) := by omega
   have b2 : (c.toNat : Int) <= 122 := by omega
   clear fD; go_enter Tryz.func103, Tryz.ntmps103; go_wp2; go_ret; exact ⟨jc HA.out.symm, rfl⟩
 by_cases h2 : 65 <= c.toNat /\ c.toNat <= 90
 . obtain ⟨a1, a2⟩ := h2; have HA : Hid (qy c = true) := by unfold Hid qy; simp [a1, a2]
   have b0 : ¬ (97 : Int) <= (c.toNat : Int) := by omega
   have b1 : (65 : Int) <= (c.toNat : Int) := by omega
   have b2 : (c.toNat : Int) <= 90 := by omega
   clear fD; go_enter Tryz.func103, Tryz.ntmps103; go_wp2; go_ret; exact ⟨jc HA.out.symm, rfl⟩
 by_cases h3 : 48 <= c.toNat /\ c.toNat <= 57
 . obtain ⟨a1, a2⟩ := h3; have HA : Hid (qy c = true) := by unfold Hid qy; simp [a1, a2]
   have b0 : ¬ (97 : Int) <= (c.toNat : Int) := by omega
   have b3 : ¬ (65 : Int) <= (c.toNat : Int) := by omega
   have b1 : (48 : Int) <= (c.toNat : Int) := by omega
   have b2 : (c.toNat : Int) <= 57 := by omega
   clear fD; go_enter Tryz.func103, Tryz.ntmps103; go_wp2; go_ret; exact ⟨jc HA.out.symm, rfl⟩
 have HA : Hid (qy c = marksL.contains c) := by
  unfold Hid qy; have e1 : (decide (97 <= c.toNat) && decide (c.toNat <= 122)) = false := by simp; omega
  have e2 : (decide (65 <= c.toNat) && decide (c.toNat <= 90)) = false := by simp; omega
  have e3 : (decide (48 <= c.toNat) && decide (c.toNat <= 57)) = false := by simp; omega
  rw [e1, e2, e3]; rfl
 have p1 : (97 : Int) <= (c.toNat : Int) -> ¬ (c.toNat : Int) <= 122 := by omega
 have p2 : (65 : Int) <= (c.toNat : Int) -> ¬ (c.toNat : Int) <= 90 := by omega
 have p3 : (48 : Int) <= (c.toNat : Int) -> ¬ (c.toNat : Int) <= 57 := by omega
 clear h1 h2 h3; go_enter Tryz.func103, Tryz.ntmps103; go_wp2_with fail
 all_goals
  refine (indexByte_any marksT c.toNat _).mono ?_; rintro e u ⟨rfl, rfl⟩; go_wp2; go_ret; refine ⟨jc ?_, rfl⟩; rw [HA.out, <- fD.out]
  simp
theorem jdS (f : UInt8 -> Bool) (h : l[k]? = some c) : (l.take (k + 1)).all f = ((l.take k).all f && f c) := by
 rw [jax h]; simp
theorem jdC (s : ByteArray) (w : World) (hs : s.size <= maxLen) :
 Calls Tryz.prog 67 #[.string s] w fun e w' => e = .returned (.bool (jbc s.data.toList)) /\ w' = w := by
 unfold maxLen at hs; go_enter Tryz.func67, Tryz.ntmps67; go_wp2
 go_loopw [6] (fun i wr => ∃ k : Nat, k <= s.size /\ i = .int .i64 k /\ Hid ((s.data.toList.take k).all qy = true) /\ wr = w) (fun i _ => s.size - (intOf i).toNat)
 case atStart => exact ⟨0, aQ _, rfl, rfl, rfl⟩
 case round =>
  obtain ⟨k, hk, rfl, HT, rfl⟩ := hrel
  by_cases hlt : k < s.size
  . have hg := jcl s k hlt; have HS : Hid _ := jdS qy hg; cases ha : qy s[k] with
    | true =>
      have HN : Hid ((s.data.toList.take (k + 1)).all qy = true) := by unfold Hid; rw [HS.out, HT.out, ha]; rfl
      clear HS hg; have HA : Hid _ := ha; clear ha; go_wp2_with fail; refine (jaK s[k] _).mono ?_; rintro e u ⟨rfl, hu⟩; have b6 := hu.symm; subst b6; rw [HA.out]; go_wp2
      go_roundw
      case rel => first | exact ⟨k + 1, by omega, by go_num, HN, by first | rfl | trivial⟩ | ((repeat apply Exists.intro); exact ⟨⟨k + 1, by omega, by go_num, HN, by first | rfl | trivial⟩, rfl⟩) | (refine ⟨trivial, ?_⟩; (repeat apply Exists.intro); exact ⟨⟨k + 1, by omega, by go_num, HN, by first | rfl | trivial⟩, rfl⟩)
      case measure => simp [intOf]; omega
    | false =>
      have HN : Hid (jbc s.data.toList = false) := by
       unfold Hid jbc; have : s.data.toList.all qy = false := by
            rw [List.all_eq_false]; exact ⟨s[k], aF hg, by simp [ha]⟩
       rw [this]; simp
      clear HS hg; have HA : Hid _ := ha; clear ha; go_wp2_with fail; refine (jaK s[k] _).mono ?_; rintro e u ⟨rfl, hu⟩; have b6 := hu.symm; subst b6; rw [HA.out]; go_wp2; go_ret; exact ⟨jc HN.out.symm, rfl⟩
  . have dF : k = s.size := by omega
    have HE : Hid (jbc s.data.toList = !(s.toList == [])) := by
        unfold Hid jbc; have := HT.out; rw [dF, <- size_list, List.take_length] at this; rw [this, aW]; cases s.data.toList <;> rfl
    go_wp2; go_ret; refine ⟨jc ?_, rfl⟩; rw [HE.out]
    first | rfl | simp
theorem jkf (h : Lib.indexByte l c = -1) : c ∉ l /\ Lib.cut l [c] = (l, [], false) := by
 constructor
 . intro hm; obtain ⟨k, hk⟩ := List.getElem?_of_mem hm; exact Lib.indexByte_none h k hk
 . unfold Lib.cut; rw [Lib.index_one, h]; rfl
theorem jkg (h : Lib.indexByte l c = i) : c ∉ l.take i /\ i < l.length /\ l = l.take i ++ c :: l.drop (i + 1) /\ Lib.cut l [c] = (l.take i, l.drop (i + 1), true) := by
 obtain ⟨h1, h2⟩ := Lib.indexByte_some h; obtain ⟨hi, he⟩ := au.1 h1; refine ⟨?_, hi, ?_, ?_⟩
 . intro hm; obtain ⟨k, hk⟩ := List.getElem?_of_mem hm; rw [List.getElem?_take] at hk; split at hk
   . exact h2 k (by assumption) hk
   . cases hk
 . conv => lhs; rw [<- List.take_append_drop i l, aT hi, he]
 . unfold Lib.cut; rw [Lib.index_one, h, if_pos (by omega)]
   simp
theorem qj (s : ByteArray) (w : World) (hs : s.size <= maxLen) :
 Calls Tryz.prog 46 #[.string s] w fun e w' => e = .returned (.bool (j8 s.data.toList)) /\ ∃ n, w' = w.drewN n := by
 unfold maxLen at hs; go_enter Tryz.func46, Tryz.ntmps46; go_wp2
 go_loopw [0] (fun x wr => ∃ (t : ByteArray) (n : Nat), x = .string t /\ t.size <= 9223372036854775807 /\ Hid (t.size <= maxLen) /\ Hid (j8 s.data.toList = j8 t.data.toList) /\ wr = w.drewN n) (fun x _ => (jry x).size)
 case atStart => exact ⟨s, 0, rfl, by omega, by unfold Hid maxLen; exact hs, rfl, rfl⟩
 case round =>
  obtain ⟨t, n, rfl, ht, HL, HD, rfl⟩ := hrel
  by_cases hi : Lib.indexByte t.data.toList 46 = -1
  . obtain ⟨h1, h2⟩ := jkf hi; have HC : Hid _ := h2; have HE : Hid (j8 t.data.toList = jbc t.data.toList) := jaa h1; clear hi h1 h2; go_wp2_with fail; refine (cut1_any t 46 _ ht).mono ?_; rintro e u ⟨rfl, n2, hu⟩; have b6 := hu.symm; subst b6; rw [HC.out]; go_wp2_with fail; refine (jdC _ _ ?hl).mono ?_
    case hl => show (S t.data.toList).size <= _; rw [jhq]; exact HL.out
    rintro e u2 ⟨rfl, lU⟩; have fj := lU.symm; subst fj; cases ha : jbc t.data.toList with
    | true =>
      have HA : Hid _ := ha; clear ha
      try rw [HA.out]
      go_wp2; go_ret; exact ⟨jc (by rw [HD.out, HE.out, HA.out]), _, rfl⟩
    | false =>
      have HA : Hid _ := ha; clear ha
      try rw [HA.out]
      go_wp2; go_ret; exact ⟨jc (by rw [HD.out, HE.out, HA.out]), _, rfl⟩
  . have yx := Lib.indexByte_ge t.data.toList 46; obtain ⟨i, hi'⟩ : ∃ i : Nat, Lib.indexByte t.data.toList 46 = i := ⟨(Lib.indexByte t.data.toList 46).toNat, by omega⟩; obtain ⟨h1, pN, h3, h2⟩ := jkg hi'; have HC : Hid _ := h2; have HE : Hid (j8 t.data.toList = (jbc (t.data.toList.take i) && j8 (t.data.toList.drop (i + 1)))) := by
        unfold Hid
        conv => lhs; rw [h3]
        exact jdw h1 _
    have iD : Hid ((S (t.data.toList.take i)).size <= maxLen) := by
        unfold Hid; rw [jb]; have := HL.out; rw [<- size_list] at this; exact aN (List.length_take_le' _ _) this
    have hz2 : (S (t.data.toList.drop (i + 1))).size < t.size := by
        rw [jb, <- size_list, List.length_drop]; omega
    clear hi yx hi' h1 h2 h3 pN; go_wp2_with fail; refine (cut1_any t 46 _ ht).mono ?_; rintro e u ⟨rfl, n2, hu⟩; have b6 := hu.symm; subst b6; rw [HC.out]; go_wp2_with fail; refine (jdC _ _ ?hl).mono ?_
    case hl => exact iD.out
    rintro e u2 ⟨rfl, lU⟩; have fj := lU.symm; subst fj; cases ha : jbc (t.data.toList.take i) with
    | true =>
      have HA : Hid _ := ha; clear ha
      try rw [HA.out]
      go_wp2
      go_roundw
      case rel => first | exact ⟨S (t.data.toList.drop (i + 1)), n + n2, rfl, by omega, by unfold Hid; have := HL.out; omega, by unfold Hid; rw [HD.out, HE.out, HA.out, ji]; rfl, rfl⟩ | ((repeat apply Exists.intro); exact ⟨⟨S (t.data.toList.drop (i + 1)), n + n2, rfl, by omega, by unfold Hid; have := HL.out; omega, by unfold Hid; rw [HD.out, HE.out, HA.out, ji]; rfl, rfl⟩, rfl⟩) | (refine ⟨trivial, ?_⟩; (repeat apply Exists.intro); exact ⟨⟨S (t.data.toList.drop (i + 1)), n + n2, rfl, by omega, by unfold Hid; have := HL.out; omega, by unfold Hid; rw [HD.out, HE.out, HA.out, ji]; rfl, rfl⟩, rfl⟩)
      case measure => exact hz2
    | false =>
      have HA : Hid _ := ha; clear ha
      try rw [HA.out]
      go_wp2; go_ret; exact ⟨jc (by rw [HD.out, HE.out, HA.out]; rfl), _, rfl⟩
theorem zM (l d : ByteArray) (w : World) (hl : l.size <= 140737488355328) (hd : d.size <= 140737488355328) :
 Calls Tryz.prog 29 #[.agg #[.string l, .string d]] w fun e w' => e = .returned (.int .i64 (jP l.data.toList d.data.toList)) /\ Below w.heap.size w w' := by
 have H1 : Hid (l.size <= maxLen) := by unfold Hid maxLen; omega
 have H2 : Hid (d.size <= maxLen) := by unfold Hid maxLen; omega
 have HC : Hid (jP l.data.toList d.data.toList = if (j8 l.data.toList && j8 d.data.toList) = false then 3 else if 100 < l.size + 1 + d.size then 1 else 0) := by
  unfold Hid jP; rw [size_list, size_list]
 have hN : Below w.heap.size w (w.alloc (.cells #[.string l, .string d] 73)) := nb0 _ _; have HN : Hid _ := hN; clear hN; cases h1 : j8 l.data.toList with
 | false =>
   rw [h1] at HC; have HE : Hid _ := h1; clear h1; go_enter Tryz.func29, Tryz.ntmps29; go_wp2_with fail; refine (qj l _ H1.out).mono ?_; rintro e u ⟨rfl, n, hu⟩; have b6 := hu.symm; subst b6; rw [HE.out]; go_wp2; go_ret; exact ⟨jd (by rw [HC.out]; rfl), qG HN.out _⟩
 | true =>
   rw [h1] at HC; have HE : Hid _ := h1; clear h1; have hc : ∀ n, ((w.alloc (.cells #[.string l, .string d] 73)).drewN n).cell? ⟨w.heap.size, 1, none⟩ = some (.string d) := fun n => by
    show (w.alloc _).cell? _ = _; simp
   cases h2 : j8 d.data.toList with
   | false =>
     rw [h2] at HC; have HF : Hid _ := h2; clear h2; go_enter Tryz.func29, Tryz.ntmps29; go_wp2_with fail; refine (qj l _ H1.out).mono ?_; rintro e u ⟨rfl, n, hu⟩; have b6 := hu.symm; subst b6; rw [HE.out]; have hc1 := hc n; go_wp2_with fail; refine (qj d _ H2.out).mono ?_; rintro e u2 ⟨rfl, n2, lU⟩; have fj := lU.symm; subst fj; rw [HF.out]; go_wp2; go_ret; exact ⟨jd (by rw [HC.out]; rfl), by first | exact qG (qG HN.out _) _ | exact qG HN.out _⟩
   | true =>
     rw [h2] at HC; have HF : Hid _ := h2; clear h2; have hc0 : ∀ n m, (((w.alloc (.cells #[.string l, .string d] 73)).drewN n).drewN m).cell? ⟨w.heap.size, 0, none⟩ = some (.string l) := fun n m => by
        show (w.alloc _).cell? _ = _; simp
     have hc2 : ∀ n m, (((w.alloc (.cells #[.string l, .string d] 73)).drewN n).drewN m).cell? ⟨w.heap.size, 1, none⟩ = some (.string d) := fun n m => by
        show (w.alloc _).cell? _ = _; simp
     go_enter Tryz.func29, Tryz.ntmps29; go_wp2_with fail; refine (qj l _ H1.out).mono ?_; rintro e u ⟨rfl, n, hu⟩; have b6 := hu.symm; subst b6; rw [HE.out]; have hc1 := hc n; go_wp2_with fail; refine (qj d _ H2.out).mono ?_; rintro e u2 ⟨rfl, n2, lU⟩; have fj := lU.symm; subst fj; rw [HF.out]; have d0 := hc0 n n2; have d1 := hc2 n n2; clear hc0 hc2 hc
     by_cases hz : 100 < l.size + 1 + d.size
     . have hz' : (100 : Int) < (l.size : Int) + 1 + (d.size : Int) := by omega
       rw [if_pos hz] at HC; clear hz; go_wp2; go_ret; exact ⟨jd (by rw [HC.out]; rfl), by first | exact qG (qG HN.out _) _ | exact qG HN.out _⟩
     . have hz' : ¬ (100 : Int) < (l.size : Int) + 1 + (d.size : Int) := by omega
       rw [if_neg hz] at HC; clear hz; go_wp2; go_ret; exact ⟨jd (by rw [HC.out]; rfl), by first | exact qG (qG HN.out _) _ | exact qG HN.out _⟩
end Go.Proofs.YtjdkbdkimbgbfaaGreatDoor
