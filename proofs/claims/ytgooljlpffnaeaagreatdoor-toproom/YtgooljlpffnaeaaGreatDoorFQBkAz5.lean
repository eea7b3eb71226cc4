/-
  Rows of batches in memory: how they are read, and rows that a call has made. No function of the program is named here.
-/
import Derived.Test.YtgooljlpffnaeaaGreatDoorFQBoxDo3
set_option maxHeartbeats 2000000
set_option maxRecDepth 100000
namespace Go.Proofs.YtgooljlpffnaeaaGreatDoor
open Go.RowKit Go.Proofs
def btC (b : Bat) (v : Value) : List Value := [.int .i64 b.user, v]
def BatM (Q : Nat → Prop) (w : World) (b : Bat) (cs : List Value) : Prop := ∃ a c, cs = btC b (.slice a b.ents.length c) ∧ EntsM Q w (.slice a b.ents.length c) b.ents
def BatsM (Q : Nat → Prop) (w : World) (v : Value) (l : List Bat) : Prop := RowM Q 2 (BatM Q w) w v l
theorem BatM.imp {Q Q' : Nat → Prop} {w w' : World} {b : Bat} {cs : List Value} (h : BatM Q w b cs) (hq : ∀ b, Q b → Q' b) (hk : Keeps Q w w') : BatM Q' w' b cs := by
 obtain ⟨a, c, e, h⟩ := h; exact ⟨a, c, e, h.imp hq hk⟩
theorem BatsM.imp {Q Q' : Nat → Prop} {w w' : World} {v : Value} {l : List Bat} (h : BatsM Q w v l) (hq : ∀ b, Q b → Q' b) (hk : Keeps Q w w') : BatsM Q' w' v l := RowM.imp h hq hk fun _ _ h => h.imp hq hk
theorem BatsM.next {Q : Nat → Prop} {w w' : World} {v : Value} {l : List Bat} (h : BatsM Q w v l) (hb : Below w.heap.size w w') : BatsM Q w' v l := h.imp (fun _ h => h) (Keeps.of_below hb)
theorem BatsM.at {Q : Nat → Prop} {w : World} {a : Option Addr} {n c : Nat} {l : List Bat} (h : BatsM Q w (.slice a n c) l) {i : Nat} {x : Bat} (hx : l[i]? = some x) : ∃ b o ae ce, a = some ⟨b, o, none⟩ ∧ w.cell? ⟨b, o + i * 2, none⟩ = some (.int .i64 x.user) ∧ w.cell? ⟨b, o + i * 2 + 1, none⟩ = some (.slice ae x.ents.length ce) ∧ EntsM Q w (.slice ae x.ents.length ce) x.ents := by
 obtain ⟨a', c', hv, _, hr⟩ := h; simp only [Value.slice.injEq] at hv; obtain ⟨rfl, _, rfl⟩ := hv; obtain ⟨b, o, cs, rfl, _, _, _, hc, ae, ce, hcs, hm⟩ := hr i x hx; subst hcs; exact ⟨b, o, ae, ce, rfl, by simpa using hc 0 _ rfl, hc 1 _ rfl, hm⟩
theorem BatsM.take {Q : Nat → Prop} {w : World} {a : Option Addr} {n c : Nat} {l : List Bat} (h : BatsM Q w (.slice a n c) l) {k : Nat} (hk : k ≤ l.length) (c' : Nat) : BatsM Q w (.slice a k c') (l.take k) := by
 obtain ⟨a', c'', hv, hm, hr⟩ := h; simp only [Value.slice.injEq] at hv; obtain ⟨rfl, _, rfl⟩ := hv; have hl : (l.take k).length = k := by rw [List.length_take]; omega
 refine ⟨a, c', by rw [hl], by omega, fun i x hx => ?_⟩; have hi : i < k := by have := (List.getElem?_eq_some_iff.1 hx).1; omega
 exact hr i x (by rw [List.getElem?_take_of_lt hi] at hx; exact hx)
def btCs : List Bat → List Value → List (List Value)
 | b :: r, v :: vs => btC b v :: btCs r vs
 | _, _ => []
def OwnBs (B : Nat) (X : Nat → Prop) (w : World) (v : Value) (l : List Bat) : Prop := ∃ vs : List Value, vs.length = l.length ∧ w.ownsRow B 100 2 v l.length (btCs l vs).flatten ∧ ∀ (i : Nat) b u, l[i]? = some b → vs[i]? = some u → ∃ a c, u = .slice a b.ents.length c ∧ EntsM (fun k => some k ≠ v.ownBlock ∧ X k) w u b.ents
theorem OwnBs.nil (B : Nat) (X : Nat → Prop) (w : World) : OwnBs B X w (.slice none 0 0) [] := ⟨[], rfl, World.ownsRow_nil _ _ _ _, fun i b u h => by simp at h⟩
theorem OwnBs.keep {B : Nat} {X : Nat → Prop} {w w' : World} {v : Value} {l : List Bat} (h : OwnBs B X w v l) (hb : Below w.heap.size w w') : OwnBs B X w' v l := by
 obtain ⟨vs, h1, h2, h3⟩ := h; refine ⟨vs, h1, qQ h2 fun g hg => hb.block g (World.ownsRow.lt h2 g hg).2, fun i b u hb' hu => ?_⟩; obtain ⟨a, c, e, h⟩ := h3 i b u hb' hu; exact ⟨a, c, e, h.next hb⟩
theorem OwnBs.but {B r : Nat} {X : Nat → Prop} {w w' : World} {v : Value} {l : List Bat} (h : OwnBs B X w v l) (hb : But r w w') (hr : r < B) (hX : ∀ k, X k → k ≠ r) : OwnBs B X w' v l := by
 obtain ⟨vs, h1, h2, h3⟩ := h; refine ⟨vs, h1, qg h2 hb hr, fun i b u hb' hu => ?_⟩; obtain ⟨a, c, e, h⟩ := h3 i b u hb' hu; exact ⟨a, c, e, h.imp (fun _ h => h) (Keeps.of_but hb fun k hk => hX k hk.2)⟩
theorem jlB {Q : Nat → Prop} {w : World} {v : Value} {l : List UInt8} (h : BysM Q w v l) : BysM (fun k => k < w.heap.size) w v l := by
 obtain ⟨a, c, h1, h2, h3, h4⟩ := h; refine ⟨a, c, h1, h2, h3, fun j x hx => ?_⟩; obtain ⟨b, o, e, _, hc⟩ := h4 j x hx; exact ⟨b, o, e, World.block_lt_of_cell? w _ hc, hc⟩
theorem new3 (w : World) (o1 o2 o3 : Obj) : (((w.alloc o1).alloc o2).alloc o3).heap[w.heap.size]? = some o1 ∧ (((w.alloc o1).alloc o2).alloc o3).heap[w.heap.size + 1]? = some o2 ∧ (((w.alloc o1).alloc o2).alloc o3).heap[w.heap.size + 2]? = some o3 := by
 refine ⟨?_, ?_, ?_⟩
 · rw [Below.heap_alloc _ _ _ (by simp; omega)]; exact (jdu w o1 o2).1
 · rw [Below.heap_alloc _ _ _ (by simp)]; exact (jdu w o1 o2).2
 · have := heap_alloc_new ((w.alloc o1).alloc o2) o3
   simpa using this
theorem low3 (w : World) (o1 o2 o3 : Obj) : Below w.heap.size w (((w.alloc o1).alloc o2).alloc o3) := (jjd w o1 o2).alloc (by simp; omega) _
theorem jhs (a : Option Addr) (c : Nat) (l : List UInt8) (s : Int) (b : Bat) (ae : Option Addr) (ce : Nat) (Q Q' : Nat → Prop) (w : World) (h : BysM Q w (.slice a l.length c) l) (hm : mayN l.length s = true) (hb : BatOk b) (hE : EntsM Q' w (.slice ae b.ents.length ce) b.ents) (hfit : l.length + (frB b).length ≤ 100000) :
 Calls Tryz.prog 76 #[.agg #[.slice a l.length c, .int .i64 s], .agg #[.int .i64 b.user, .slice ae b.ents.length ce]] w (TpP w (l ++ frB b) s 0) := by
 obtain ⟨W1, hW1⟩ : ∃ W1, W1 = ((w.alloc (.cells #[.slice a l.length c, .int .i64 s] 60)).alloc (.cells #[.int .i64 b.user, .slice ae b.ents.length ce] 100)).alloc (.cells #[.slice none 0 0, .int .i64 0] 60) := ⟨_, rfl⟩; have HWE := hid hW1; have hB1 : Below w.heap.size w W1 := by rw [hW1]; exact low3 _ _ _ _
 have hN := new3 w (.cells #[.slice a l.length c, .int .i64 s] 60) (.cells #[.int .i64 b.user, .slice ae b.ents.length ce] 100) (.cells #[.slice none 0 0, .int .i64 0] 60); rw [← hW1] at hN; obtain ⟨ht1, hb1, hr1⟩ := hN; have HB1 := hid hB1; have HT1 := hid ht1; have HBB := hid hb1; have HR1 := hid hr1; have HL1 := hid (h.next hB1); have HE1 := hid (hE.next hB1); have HM := hid hm; have HOK := hid hb; have hfr := jhY b; have hbl : l.length + 3 + (batB b).length ≤ 100000 := by omega
 obtain ⟨x0, x1, _, _⟩ := j8 ht1; obtain ⟨X, hX⟩ : ∃ X, X = batB b := ⟨_, rfl⟩; have HXE := hid (show l ++ beB X.length 3 ++ X = l ++ frB b by unfold frB; rw [hX]; simp only [List.append_assoc]); have hxl : l.length + 3 + X.length ≤ 100000 := by rw [hX]; exact hbl
 have HEN := hid (fun (u : World) (hu : Below W1.heap.size W1 u) => jhM b ae ce _ u HOK.out (HE1.out.next hu)); rw [← hX] at HEN; obtain ⟨Z, hZ⟩ : ∃ Z, Z = l ++ frB b := ⟨_, rfl⟩; rw [← hZ] at HXE ⊢; clear h hE hW1 hB1 ht1 hb1 hr1 hm hb hfit hfr hbl hX hZ; go_enter Tryz.func76, Tryz.ntmps76; go_wp2_with fail; rw [← HWE.out]; refine (jds a l.length c s W1).mono ?_; rintro e w2 ⟨rfl, hb2⟩; rw [HM.out]; have HB2 := hid hb2; obtain ⟨y0, y1, _, _⟩ := j8 (qp hb2 HBB.out); have HEN2 := hid (HEN.out w2 hb2); clear hb2 x0 x1; go_wp2_with fail; refine HEN2.out.mono ?_; rintro e w3 ⟨a3, c3, rfl, hO3, hb3⟩; have hb13 : Below W1.heap.size W1 w3 := HB2.out.trans (hb3.mono HB2.out.size); have HB3 := hid hb13; have HX3 := hid (show BysM (fun k => k < w3.heap.size) w3 (.slice a3 X.length c3) X from jlB (jix (Q := fun _ => True) hO3 rfl (by unfold maxLen; omega) fun _ _ => trivial)); obtain ⟨z0, z1, _, _⟩ := j8 (qp hb13 HT1.out); have HCL := hid (jfB a c l _ w3 (HL1.out.next hb13) (by omega)); have hg1 : ¬ (100000 : Int) < ((l.length : Nat) : Int) + 3 + ((X.length : Nat) : Int) := by omega
 clear hO3 hb3 hb13 y0 y1 HEN HEN2; go_wp2_with fail; refine HCL.out.mono ?_; rintro e w4 ⟨a4, c4, rfl, hO4, hb4⟩; obtain ⟨W5, hW5⟩ : ∃ W5, W5 = w4.alloc (.cells #[.slice a4 l.length c4] 203) := ⟨_, rfl⟩; have HWE5 := hid hW5; have hB5 : Below w4.heap.size w4 W5 := by rw [hW5]; exact nb0 _ _
 have hw5 : W5.heap[w4.heap.size]? = some (.cells #[.slice a4 l.length c4] 203) := by rw [hW5]; exact heap_alloc_new w4 _
 have HB35 := hid (show Below w3.heap.size w3 W5 from hb4.trans (hB5.mono hb4.size)); have HY5 := hid (show ByW w3.heap.size W5 w4.heap.size (Value.slice a4 l.length c4).ownBlock l from ⟨a4, c4, hw5, rfl, fun e => by have := (World.ownsRow.lt hO4 _ e).2; omega, hb4.size, qQ hO4 fun g hg => hB5.block g (World.ownsRow.lt hO4 g hg).2⟩); have HNM := hid (qb X.length 3 w3.heap.size w4.heap.size _ l W5 HY5.out (by decide) (by omega)); clear hO4 hb4 hW5 hB5 hw5 HCL hg1; go_upto_region 9 with fail
 rw [← HWE5.out]; go_wp2_with fail; refine HNM.out.mono ?_; rintro e w6 ⟨rfl, g6, hy6, hx6⟩; have hb6 : Below w3.heap.size W5 w6 := hx6.low HY5.out; have HB36 := hid (show Below w3.heap.size w3 w6 from HB35.out.trans hb6); obtain ⟨a6, c6, h1, h2, h3, h4, h5⟩ := hy6; have hq6 : (l ++ beB X.length 3).length + X.length ≤ 100000 := by rw [List.length_append, ze]; omega
 generalize l ++ beB X.length 3 = q6 at *; have d0 : w6.cell? ⟨w4.heap.size, 0, none⟩ = some (.slice a6 q6.length c6) := by simp [World.cell?, h1]
 have e0 : w6.frozen? ⟨w4.heap.size, 0, none⟩ = false := by simp [World.frozen?, h1]
 have H1 := hid h1; have H2 := hid h2; have H3 := hid h3; have H5 := hid h5; have HBL := hid (Array.getElem?_eq_some_iff.1 h1).1; have HX6 := hid (show BysM (fun k => k < w3.heap.size) w6 (.slice a3 X.length c3) X from HX3.out.imp (fun _ h => h) fun k _ hk => HB36.out.block k hk); have hsz6 : w3.heap.size ≤ w6.heap.size := HB36.out.size; clear h1 h2 h3 h5 hx6 hb6
 go_wp2_with (at_builtin; refine jaS rfl _ _ rfl rfl H5.out rfl HX6.out ?qc1 ?qc2 hsz6 ?_)
 case qc1 => unfold maxLen; omega
 case qc2 => omega
 intro a7 c7 w7 hown hgrow hrow; obtain ⟨g7, hy7, hx7⟩ := ByW.append (s := X) H1.out H2.out H3.out h4 HBL.out hown hgrow (fun k hk => by rw [← H2.out]; exact hrow k hk); have z6 : w7.frozen? ⟨w4.heap.size, 0, none⟩ = false := (World.frozen?_of_block (w := w6) (hgrow.block w4.heap.size HBL.out fun e => H3.out (H2.out.symm.trans e.symm))).trans e0; have z7 : w7.cell? ⟨w4.heap.size, 0, none⟩ = some (.slice a6 q6.length c6) := (World.cell?_of_block (w := w6) (hgrow.block w4.heap.size HBL.out fun e => H3.out (H2.out.symm.trans e.symm))).trans d0; rw [HXE.out] at hy7; obtain ⟨W8, hW8⟩ : ∃ W8, W8 = w7.setCell ⟨w4.heap.size, 0, none⟩ (.slice a7 (q6.length + X.length) c7) := ⟨_, rfl⟩; have HWE8 := hid hW8; rw [← hW8] at hy7 hx7; have hy6' : ByW w3.heap.size w6 w4.heap.size g6 q6 := ⟨a6, c6, H1.out, H2.out, H3.out, h4, H5.out⟩; have hb8 : Below w3.heap.size w6 W8 := hx7.low hy6'; have HB38 := hid (show Below w3.heap.size w3 W8 from HB36.out.trans hb8); obtain ⟨a8, c8, k1, k2, k3, k4, k5⟩ := hy7; have m0 : W8.cell? ⟨w4.heap.size, 0, none⟩ = some (.slice a8 Z.length c8) := by simp [World.cell?, k1]
 have HO8 := hid k5; have HB18 := hid (show Below W1.heap.size W1 W8 from HB3.out.trans (HB38.out.mono HB3.out.size)); obtain ⟨t0, t1, _, _⟩ := j8 (qp HB18.out HT1.out); have hr8 := qp HB18.out HR1.out; obtain ⟨r0, r1, u0, u1⟩ := j8 hr8; obtain ⟨s0, s1, _, _⟩ := j8 (jhw (u0 := .slice a8 Z.length c8) (u1 := .int .i64 s) hr8); have HE := hid (show TpP w Z s 0 (.returned (.tuple #[.agg #[.slice a8 Z.length c8, .int .i64 s], .int .i64 0])) ((W8.setCell ⟨w.heap.size + 2, 0, none⟩ (.slice a8 Z.length c8)).setCell ⟨w.heap.size + 2, 1, none⟩ (.int .i64 s)) by
  have hw1 : w.heap.size + 2 < W1.heap.size := (Array.getElem?_eq_some_iff.1 HR1.out).1; have hw3 := HB3.out.size; refine ⟨a8, c8, rfl, ?_, ((HB1.out.trans (HB18.out.mono HB1.out.size)).setCell (Nat.le_add_right _ _) _).setCell (Nat.le_add_right _ _) _⟩; refine jeB (B := w3.heap.size) (qQ HO8.out fun g hg => ?_) (by omega); have := (World.ownsRow.lt HO8.out g hg).1; exact (qq (by omega)).trans (qq (by omega)))
 clear hown hgrow hrow hx7 hb8 k1 k2 k3 k5 hr8 hW8 hy6' d0 z0 z1; go_upto_region 11 with fail
 rw [← HWE8.out]; go_wp2; refine bodyPost_ret (v := .tuple #[.agg #[.slice a8 Z.length c8, .int .i64 s], .int .i64 0]) (by simp [results, Tryz.results76, go_sem, *]) rfl ?_; exact HE.out
def addR (R : Rom) (u : Nat) (b : Bat) (s : Stt) : Rom := jip (stR (jcq R (R.tape ++ frB b) R.tsyn) (R.states.set u s)) R.syn (R.waits + 1)
theorem jjt (K : List (List UInt8)) (Cs : List (List Cmd)) (B b : Nat) (G : List Nat) (R : Rom) (w : World) (hR : RoomM K Cs B b G R w) (v1 v2 v3 v4 : Value) (hw : 8 ≤ R.waits) :
 Calls Tryz.prog 48 #[.pointer (some ⟨b, 1, none⟩), .agg #[v1, v2], .agg #[v3, v4]] w (RmQ K Cs B b G w R (.int .i64 5)) := by
 obtain ⟨W1, hW1⟩ : ∃ W1, W1 = (w.alloc (.cells #[v1, v2] 100)).alloc (.cells #[v3, v4] 44) := ⟨_, rfl⟩; have hB1 : Below w.heap.size w W1 := by rw [hW1]; exact (nb0 _ _).alloc (by simp) _
 obtain ⟨at_, ct, vf, g, cs, vs, _, _, _, c4, _, _, _, _⟩ := (hR.next hB1).ledger; have HF := hid (show RmQ K Cs B b G w R (.int .i64 5) (.returned (.int .i64 5)) W1 from ⟨rfl, G, hR.next hB1, .of hB1⟩); have HWE := hid hW1; have i1 : (8 : Int) ≤ R.waits := hw; clear hR hB1 hW1 hw; go_enter Tryz.func48, Tryz.ntmps48; go_upto_region 1 with fail
 rw [← HWE.out]; go_wp2; go_ret; exact HF.out
def AdT (W : World) (t : List UInt8) (s : Int) (p q : Value) (wx : World) : Prop := ∃ (T : Nat) (a : Option Addr) (c : Nat), p = .pointer (some ⟨T, 0, none⟩) ∧ q = .int .i64 0 ∧ W.heap.size ≤ T ∧ wx.heap[T]? = some (.cells #[.slice a t.length c, .int .i64 s] 60) ∧ wx.ownsRow W.heap.size 5 1 (.slice a t.length c) t.length (byC t) ∧ Below W.heap.size W wx
theorem AdT.old {W w3 : World} {t : List UInt8} {s : Int} {P : Nat} {a : Option Addr} {c : Nat} {u0 u1 : Value} (hP : W.heap.size ≤ P) (hb : w3.heap[P]? = some (.cells #[u0, u1] 60)) (ho : w3.ownsRow W.heap.size 5 1 (.slice a t.length c) t.length (byC t)) (hn : ∀ g, (Value.slice a t.length c).ownBlock = some g → g ≠ P) (hB : Below W.heap.size W w3) :
 AdT W t s (.pointer (some ⟨P, 0, none⟩)) (.int .i64 0) ((w3.setCell ⟨P, 0, none⟩ (.slice a t.length c)).setCell ⟨P, 1, none⟩ (.int .i64 s)) :=
 ⟨P, a, c, rfl, rfl, hP, by
  have h1 := heap_setCell_same w3 P 0 _ _ (.slice a t.length c) hb; have h2 := heap_setCell_same _ P 1 _ _ (.int .i64 s) h1
  simpa using h2, je ho fun g hg => (Below.heap_setCell _ _ _ _ (hn g hg)).trans (Below.heap_setCell _ _ _ _ (hn g hg)), (hB.setCell hP _).setCell hP _⟩
theorem AdT.new {W w3 : World} {t : List UInt8} {s : Int} {a : Option Addr} {c : Nat} (ho : w3.ownsRow W.heap.size 5 1 (.slice a t.length c) t.length (byC t)) (hB : Below W.heap.size W w3) :
 AdT W t s (.pointer (some ⟨w3.heap.size, 0, none⟩)) (.int .i64 0) (w3.alloc (.cells #[.slice a t.length c, .int .i64 s] 60)) :=
 ⟨w3.heap.size, a, c, rfl, rfl, hB.size, heap_alloc_new _ _, World.ownsRow.alloc ho _, hB.alloc hB.size _⟩
theorem jkc {w : World} {B B' n k : Nat} {e : TypeId} {v : Value} {xs : List Value} (h : w.ownsRow B' e k v n xs) (hB : B ≤ B') : w.ownsRow B e k v n xs := ⟨h.1, h.2.imp id fun ⟨g, cap, cur, hv, hb, r⟩ => ⟨g, cap, cur, hv, Nat.le_trans hB hb, r⟩⟩
theorem jI {w : World} {b j c i : Nat} {v u : Value} (h : w.cell? ⟨c, i, none⟩ = some u) (hne : c ≠ b) : (w.setCell ⟨b, j, none⟩ v).cell? ⟨c, i, none⟩ = some u :=
 (World.cell?_setCell_other w _ _ _ (fun e => hne (by cases e; rfl))).trans h
theorem jj4 (K : List (List UInt8)) (Cs : List (List Cmd)) (B b : Nat) (G : List Nat) (R : Rom) (w : World) (hR : RoomM K Cs B b G R w) (u : Nat) (hu : u < 3) (h3 : R.states.length = 3) (l : List Ent) (hbo : BatOk ⟨u, l⟩) (ae : Option Addr) (ce : Nat) (Q' : Nat → Prop) (hE : EntsM Q' w (.slice ae l.length ce) l) (s' : Stt) (vb vs : Value) (hS : SttM (AvN B b G) w vb vs s') (hm : mayN R.tape.length R.tsyn = true) (hfit : R.tape.length + (frB ⟨u, l⟩).length ≤ 100000) (hw8 : R.waits < 8) (hw0 : 0 ≤ R.waits) :
 Calls Tryz.prog 48 #[.pointer (some ⟨b, 1, none⟩), .agg #[.int .i64 u, .slice ae l.length ce], .agg #[vb, vs]] w (RmQ K Cs B b G w (addR R u ⟨u, l⟩ s') (.int .i64 0)) := by
 obtain ⟨ab, cb, rfl⟩ := RowM.slice hS.1; obtain ⟨aq, cq, rfl⟩ := RowM.slice hS.2.1; obtain ⟨W1, hW1⟩ : ∃ W1, W1 = (w.alloc (.cells #[.int .i64 u, .slice ae l.length ce] 100)).alloc (.cells #[(.slice ab s'.boxes.length cb), (.slice aq s'.spool.length cq)] 44) := ⟨_, rfl⟩; have hB1 : Below w.heap.size w W1 := by rw [hW1]; exact (nb0 _ _).alloc (by simp) _
 have hP1 : W1.heap[w.heap.size]? = some (.cells #[.int .i64 u, .slice ae l.length ce] 100) := by rw [hW1, Below.heap_alloc _ _ _ (by simp)]; exact heap_alloc_new _ _
 have hN1 : W1.heap[w.heap.size + 1]? = some (.cells #[(.slice ab s'.boxes.length cb), (.slice aq s'.spool.length cq)] 44) := by
  rw [hW1]; have := heap_alloc_new (w.alloc (.cells #[.int .i64 u, .slice ae l.length ce] 100)) (.cells #[(.slice ab s'.boxes.length cb), (.slice aq s'.spool.length cq)] 44)
  simpa using this
 have hR1 := hR.next hB1; obtain ⟨at_, ct, vf, _, _, _, c1, c2, _, c4, _, _, hT, _⟩ := hR1.ledger; obtain ⟨s0, hs0⟩ : ∃ s0, R.states[u]? = some s0 := ⟨_, List.getElem?_eq_getElem (by omega)⟩; have hlt := hR.lt.1; have hz1 : w.heap.size + 1 < W1.heap.size := (Array.getElem?_eq_some_iff.1 hN1).1; have i1 : ¬ (8 : Int) ≤ R.waits := by omega
 have HAP := hid (fun (x : World) (hx : Below W1.heap.size W1 x) => show Calls Tryz.prog 76 #[.agg #[.slice at_ R.tape.length ct, .int .i64 R.tsyn], .agg #[.int .i64 u, .slice ae l.length ce]] x (TpP x (R.tape ++ frB ⟨u, l⟩) R.tsyn 0) from jhs at_ ct R.tape R.tsyn ⟨u, l⟩ ae ce _ _ x (hT.next hx) hm hbo (hE.next (hB1.trans (hx.mono hB1.size))) hfit); have HR1 := hid hR1; have HR := hid hR; have HB1 := hid hB1; have HP1 := hid hP1; have HN1 := hid hN1; have HS := hid hS; have HS0 := hid hs0; have H3 := hid h3; have HFIT := hid hfit; have HW0 := hid hw0; obtain ⟨Z, hZ⟩ : ∃ Z, Z = R.tape ++ frB ⟨u, l⟩ := ⟨_, rfl⟩; rw [← hZ] at HAP; have HZE := hid hZ; have HWE := hid hW1; obtain ⟨x0, x1, _, _⟩ := zu hP1; have HSZ1 := hid (show (W1.alloc (.cells #[.slice none 0 0, .int .i64 0] 60)).drew.heap.size = W1.heap.size + 1 from by show (W1.alloc _).heap.size = _; simp); have hbW : b ≠ W1.heap.size := by omega
 have hwW : w.heap.size ≠ W1.heap.size := by omega
 have hbw : b ≠ w.heap.size := by omega
 clear hR hE hbo hS hm hfit hw8 hw0 hW1 hB1 hP1 hN1 hR1 hT hs0 h3 hZ; go_enter Tryz.func48, Tryz.ntmps48; go_upto_region 1 with fail
 rw [← HWE.out]; go_upto_region 3 with fail
 go_cut [7, 8] (fun p q wx => AdT W1 Z R.tsyn p q wx)
 case first =>
  go_region_held3 (fun w' => w'.cell? ⟨b, 1, none⟩ = some (.slice at_ R.tape.length ct) ∧ w'.cell? ⟨b, 2, none⟩ = some (.int .i64 R.tsyn) ∧ w'.cell? ⟨w.heap.size, 0, none⟩ = some (.int .i64 u) ∧ w'.cell? ⟨w.heap.size, 1, none⟩ = some (.slice ae l.length ce)) (first | go_keep | (refine ⟨?_, ?_, ?_, ?_⟩ <;> exact jI (jI (by assumption) (by assumption)) (by assumption)))
   (first
        | (go_at_call 76
           with_reducible refine (HAP.out _ (Below.refl W1.heap.size W1).drew).mono ?_
           rintro e w2 ⟨a2, c2', rfl, ho2, hb2⟩; have HB2 := hid (show Below W1.heap.size W1 w2 from ((Below.refl _ _).drew).trans hb2); have hB2 := HB2.out; have HO2 := hid (show w2.ownsRow W1.heap.size 5 1 (.slice a2 Z.length c2') Z.length (byC Z) from ho2); have m0 := ja c1 hB2; have m1 := ja c2 hB2; have m2 := ja x0 hB2; have m3 := ja x1 hB2; have hbx : b ≠ w2.heap.size := by have := hB2.size; omega
           have hpx : w.heap.size ≠ w2.heap.size := by have := hB2.size; omega
           clear ho2 hb2 hB2)
        | (go_at_call 76
           with_reducible refine (HAP.out _ ((Below.refl W1.heap.size W1).alloc (Nat.le_refl _) _).drew).mono ?_
           rintro e w2 ⟨a2, c2', rfl, ho2, hb2⟩; have HB2 := hid (show Below W1.heap.size W1 w2 from (((Below.refl W1.heap.size W1).alloc (Nat.le_refl _) _).drew).trans (hb2.mono (by rw [HSZ1.out]; omega))); have hB2 := HB2.out; have HN2 := hid (fun (g : Nat) (hg : (Value.slice a2 Z.length c2').ownBlock = some g) => show g ≠ W1.heap.size from fun e => by have h := (World.ownsRow.lt ho2 g hg).1; rw [HSZ1.out] at h; omega); have HO2 := hid (show w2.ownsRow W1.heap.size 5 1 (.slice a2 Z.length c2') Z.length (byC Z) from jkc ho2 (by rw [HSZ1.out]; omega)); have HZ2 := hid (show w2.heap[W1.heap.size]? = some (.cells #[.slice none 0 0, .int .i64 0] 60) from (hb2.block _ (by rw [HSZ1.out]; omega)).trans (heap_alloc_new W1 _)); have m0 := ja c1 hB2; have m1 := ja c2 hB2; have m2 := ja x0 hB2; have m3 := ja x1 hB2; obtain ⟨y0, y1, f0, f1⟩ := zu HZ2.out; clear ho2 hb2 hB2))
  all_goals
   first
        | (have HE := hid (AdT.old (W := W1) (P := W1.heap.size) (s := R.tsyn) (Nat.le_refl _) HZ2.out HO2.out HN2.out HB2.out)
           go_wp2_with fail
           go_meet
           exact HE.out)
        | (have HE := hid (AdT.new (W := W1) (s := R.tsyn) HO2.out HB2.out)
           go_wp2_with fail
           go_meet
           exact HE.out)
 case rest =>
  obtain ⟨T, a2, c2', rfl, rfl, hTW, hT2, hO2, hB2⟩ := hcut; have hRc := HR1.out.next hB2; have hlc := HR1.out.lt; obtain ⟨WT, hWT⟩ : ∃ WT, WT = (wc.setCell ⟨b, 1, none⟩ (.slice a2 Z.length c2')).setCell ⟨b, 2, none⟩ (.int .i64 R.tsyn) := ⟨_, rfl⟩; have hml : Z.length ≤ maxLen := by rw [HZE.out, List.length_append]; have := HFIT.out; unfold maxLen; omega
  have hTS : RmS K Cs B b G (jcq R Z R.tsyn) wc WT := by
   rw [hWT]; exact hRc.setTape R.tsyn (H := W1.heap.size) hO2 hlc.1 (fun k hk _ => ⟨by omega, jfw HR1.out hk⟩) hml
  obtain ⟨g, cg, vb0, vs0, e6, e0, e1, _, hgb, hgl, hgf, _⟩ := hRc.stater (s := s0) H3.out hu HS0.out; obtain ⟨g', cg', _, _, d6, _, _, _, _, _, hgf2, hst⟩ := hTS.1.stater (s := s0) H3.out hu HS0.out; obtain ⟨rfl, rfl⟩ : g = g' ∧ cg = cg' := by
   have h := d6; rw [hWT] at h; rw [World.cell?_setCell_other _ _ _ _ (fun e => by cases e), World.cell?_setCell_other _ _ _ _ (fun e => by cases e), e6] at h; simp only [Option.some.injEq, Value.slice.injEq, Addr.mk.injEq, and_true, true_and] at h; exact h
  obtain ⟨WS, hWS⟩ : ∃ WS, WS = (WT.setCell ⟨g, u * 2, none⟩ (.slice ab s'.boxes.length cb)).setCell ⟨g, u * 2 + 1, none⟩ (.slice aq s'.spool.length cq) := ⟨_, rfl⟩; have hSS : RmS K Cs B b G (stR (jcq R Z R.tsyn) (R.states.set u s')) WT WS := by
   rw [hWS]; refine hst (.slice ab s'.boxes.length cb) (.slice aq s'.spool.length cq) s' ?_; exact (HS.out.stp (Stp.of (HB1.out.trans (hB2.mono HB1.out.size)))).stp hTS.2
  have hP2 := (hB2.block _ (Array.getElem?_eq_some_iff.1 HP1.out).1).trans HP1.out; have hN2 := (hB2.block _ (Array.getElem?_eq_some_iff.1 HN1.out).1).trans HN1.out; have hgW : g < w.heap.size := by
   obtain ⟨g0, cg0, _, _, q6, _, _, _, _, q, _⟩ := HR.out.stater (s := s0) H3.out hu HS0.out; have q6' := ja q6 (HB1.out.trans (hB2.mono HB1.out.size)); rw [e6] at q6'; simp only [Option.some.injEq, Value.slice.injEq, Addr.mk.injEq, and_true, true_and] at q6'; omega
  obtain ⟨y0, y1, _, _⟩ := zu hT2; obtain ⟨z0, z1, _, _⟩ := zu hP2; obtain ⟨n0, n1, _, _⟩ := zu hN2; have bT : T ≠ b := by omega
  have bP : w.heap.size ≠ b := by omega
  have bN : w.heap.size + 1 ≠ b := by omega
  have gT : T ≠ g := by omega
  have gP : w.heap.size ≠ g := by omega
  have gN : w.heap.size + 1 ≠ g := by omega
  have gb : b ≠ g := Ne.symm hgb; have HKT := hid (show WT.cell? ⟨b, 6, none⟩ = some (.slice (some ⟨g, 0, none⟩) 3 cg) ∧ WT.cell? ⟨w.heap.size, 0, none⟩ = some (.int .i64 u) ∧ WT.cell? ⟨T, 0, none⟩ = some (.slice a2 Z.length c2') ∧ WT.cell? ⟨T, 1, none⟩ = some (.int .i64 R.tsyn) ∧ WT.cell? ⟨w.heap.size + 1, 0, none⟩ = some (.slice ab s'.boxes.length cb) ∧ WT.cell? ⟨w.heap.size + 1, 1, none⟩ = some (.slice aq s'.spool.length cq) by
   refine ⟨d6, ?_⟩; rw [hWT]; exact ⟨jI (jI z0 bP) bP, jI (jI y0 bT) bT, jI (jI y1 bT) bT, jI (jI n0 bN) bN, jI (jI n1 bN) bN⟩)
  have HKS := hid (show WS.cell? ⟨b, 6, none⟩ = some (.slice (some ⟨g, 0, none⟩) 3 cg) ∧ WS.cell? ⟨w.heap.size, 0, none⟩ = some (.int .i64 u) ∧ WS.cell? ⟨T, 0, none⟩ = some (.slice a2 Z.length c2') ∧ WS.cell? ⟨T, 1, none⟩ = some (.int .i64 R.tsyn) ∧ WS.cell? ⟨w.heap.size + 1, 0, none⟩ = some (.slice ab s'.boxes.length cb) ∧ WS.cell? ⟨w.heap.size + 1, 1, none⟩ = some (.slice aq s'.spool.length cq) by
   rw [hWS]; obtain ⟨k6, kz, ky, ky', kn, kn'⟩ := HKT.out; exact ⟨jI (jI k6 gb) gb, jI (jI kz gP) gP, jI (jI ky gT) gT, jI (jI ky' gT) gT, jI (jI kn gN) gN, jI (jI kn' gN) gN⟩)
  have HWT := hid hWT; have HWS := hid hWS; have HF1 := hid (show RmS K Cs B b G (stR (jcq R Z R.tsyn) (R.states.set u s')) w WS from ⟨hSS.1, (Stp.of (HB1.out.trans (hB2.mono HB1.out.size))).trans (hTS.2.trans hSS.2)⟩); have HF2 := hid (show RmS K Cs B b G (stR (jcq R Z R.tsyn) (R.states.set u s')) w WS.drew from ⟨HF1.out.1.next (Below.refl _ _).drew, HF1.out.2.trans (.of (Below.refl _ _).drew)⟩); have r1 := ja c1 hB2; have r2 := ja c2 hB2; have f1 := (HR1.out.next hB2).frz 1; have f2 := (HR1.out.next hB2).frz 2; have t1 := hTS.1.frz 4; have t0 : ((wc.setCell ⟨b, 1, none⟩ (.slice a2 Z.length c2')).setCell ⟨b, 2, none⟩ (.int .i64 R.tsyn)).cell? ⟨g, u * 2, none⟩ = some vb0 := jI (jI e0 hgb) hgb; have t2 : ((wc.setCell ⟨b, 1, none⟩ (.slice a2 Z.length c2')).setCell ⟨b, 2, none⟩ (.int .i64 R.tsyn)).cell? ⟨g, u * 2 + 1, none⟩ = some vs0 := jI (jI e1 hgb) hgb; have i0' : ((wc.setCell ⟨b, 1, none⟩ (.slice a2 Z.length c2')).setCell ⟨b, 2, none⟩ (.int .i64 R.tsyn)).frozen? ⟨g, u * 2, none⟩ = false := by rw [← HWT.out]; exact hgf2 _
  have i1' : ((wc.setCell ⟨b, 1, none⟩ (.slice a2 Z.length c2')).setCell ⟨b, 2, none⟩ (.int .i64 R.tsyn)).frozen? ⟨g, u * 2 + 1, none⟩ = false := by rw [← HWT.out]; exact hgf2 _
  have k1 : (u : Int) < 3 := by omega
  have k0 : (0 : Int) ≤ (u : Int) := by omega
  clear hRc hlc hTS hst hSS hP2 hN2 hT2 hO2 hgf hgf2 hWT hWS d6 c1 c2 c4 x0 x1 hml; go_upto_region 6 with fail
  go_cut [] (fun wx => RmS K Cs B b G (stR (jcq R Z R.tsyn) (R.states.set u s')) w wx)
  case first =>
   go_region_held3 (fun w' => w'.cell? ⟨b, 6, none⟩ = some (.slice (some ⟨g, 0, none⟩) 3 cg) ∧ w'.cell? ⟨w.heap.size, 0, none⟩ = some (.int .i64 u) ∧ w'.cell? ⟨T, 0, none⟩ = some (.slice a2 Z.length c2') ∧ w'.cell? ⟨T, 1, none⟩ = some (.int .i64 R.tsyn) ∧ w'.cell? ⟨w.heap.size + 1, 0, none⟩ = some (.slice ab s'.boxes.length cb) ∧ w'.cell? ⟨w.heap.size + 1, 1, none⟩ = some (.slice aq s'.spool.length cq)) (first | (rw [← HWT.out, ← HWS.out]; exact HKS.out) | (rw [← HWT.out]; exact HKT.out) | go_keep) (fail)
   all_goals
        go_wp2_with fail
        go_meet
        rw [← HWT.out, ← HWS.out]; exact HF2.out
  case rest =>
   obtain ⟨W9, rfl⟩ : ∃ W, W = wc := ⟨_, rfl⟩; obtain ⟨hR9, hs9⟩ := hcut; have r4 : W9.cell? ⟨b, 4, none⟩ = some (.int .i64 R.waits) := by
        obtain ⟨_, _, _, _, _, _, _, _, _, r4, _, _, _, _⟩ := hR9.ledger; exact r4
   have z4 := hR9.frz 4; have hw := hR9.setWaits (R.waits + 1); have hwr : IntKind.i64.wrap (R.waits + 1) = R.waits + 1 := by rw [IntKind.wrap_i64]; have := HW0.out; omega
   have HQ := hid (show RmQ K Cs B b G w (addR R u ⟨u, l⟩ s') (.int .i64 0) (.returned (.int .i64 0)) (W9.setCell ⟨b, 4, none⟩ (.int .i64 (R.waits + 1))) from by
        unfold addR; rw [← HZE.out]; exact ⟨rfl, G, hw.1, hs9.trans hw.2⟩)
   clear hR9 hs9 hw r1 r2 f1 f2 t1 t0 t2 i0' i1' y0 y1 z0 z1 n0 n1 e6 e0 e1; go_wp2; go_ret; exact HQ.out
theorem jmK : (Tryz.prog.info? 37).map (fun i => (i.zero, i.size, i.bytes)) = some (some (.int .i64 0), 1, 8) := by kernel_rfl
def TuQ (K : List (List UInt8)) (Cs : List (List Cmd)) (B b : Nat) (G : List Nat) (w : World) (R : Rom) (e : Ending) (w' : World) : Prop := RmQ K Cs B b G w R (.tuple #[]) e w' ∧ w'.heap[b]? = w.heap[b]?
set_option linter.unusedSimpArgs false in
theorem jem (Ks : List (List UInt8)) (Cs : List (List Cmd)) (B b : Nat) (G : List Nat) (R : Rom) (w : World) (hR : RoomM Ks Cs B b G R w) (u : Nat) (hu : u < 3) (e : Int) (hn : (R.orders.getD u []).length + 1 ≤ 1000000000) :
 Calls Tryz.prog 30 #[.pointer (some ⟨b, 0, none⟩), .int .i64 u, .int .i64 e] w (TuQ Ks Cs B b G w (tuR R u e)) := by
 obtain ⟨a, c, g, cg, h36, hgu, hown, hBw, hend⟩ := hR.teller hu; obtain ⟨L, hL⟩ : ∃ L, L = R.orders.getD u [] := ⟨_, rfl⟩; rw [← hL] at hgu hown hend hn; obtain ⟨i0, hi, hz0, hz1, hz2⟩ := info_parts jmK; have k1 : (u : Int) < 3 := by omega
 have k0 : (0 : Int) ≤ (u : Int) := by omega
 obtain ⟨WA, hWA⟩ : ∃ WA, WA = (w.alloc (.cells #[.int .i64 e] 37)).drew := ⟨_, rfl⟩; have hBA : Below w.heap.size w WA := by rw [hWA]; exact ((Below.refl w.heap.size w).alloc (Nat.le_refl _) _).drew
 have HWA := hid hWA; have HBA := hid hBA; have HOA := hid (jU hown hBA); have HNW := hid (show ∀ j v, ([.int .i64 e] : List Value)[j]? = some v → WA.cell? ((⟨w.heap.size, 0, none⟩ : Addr).add j) = some v by rw [hWA]; exact zD w [.int .i64 e] _); have HSZ := hid (show B ≤ WA.heap.size from Nat.le_trans hBw hBA.size); have HEND := hid hend; have HN := hid hn; have HT := hid (show w.drew.cell? ⟨b, 36, none⟩ = some (.slice (some ⟨g, 0, none⟩) 3 cg) ∧ w.drew.cell? ⟨g, u, none⟩ = some (.slice a L.length c) from ⟨h36, hgu⟩); have HTA := hid (show WA.cell? ⟨b, 36, none⟩ = some (.slice (some ⟨g, 0, none⟩) 3 cg) ∧ WA.cell? ⟨g, u, none⟩ = some (.slice a L.length c) from ⟨ja h36 hBA, ja hgu hBA⟩); have H36 := hid h36; clear hR hL hown hBw hend hWA hBA hn hgu h36; go_enter Tryz.func30, Tryz.ntmps30; go_upto_region 0 with fail
 have hT0 := HT.out; refine jas (late := fun i => i == 16) (T := fun w' => w'.cell? ⟨b, 36, none⟩ = some (.slice (some ⟨g, 0, none⟩) 3 cg) ∧ w'.cell? ⟨g, u, none⟩ = some (.slice a L.length c)) (by rfl) ?_; refine jf (i := 0) (v := ?v1) rfl (by kernel_rfl) (by kernel_rfl) (by kernel_rfl) (fun _ _ _ h => h) (Or.inl ⟨by rfl, ?hy1⟩) ?_
 case hy1 =>
  intro w hSw
  (try dsimp only at hSw)
  go_simp
  all_goals with_reducible rfl
 change js _ _ _ _ _ _ _ _ (Act.put _ (some 6) _) _
 try simp only [Act.put, List.setIfInBounds_toArray, List.set_cons_zero, List.set_cons_succ]
 refine jf (i := 1) (v := ?v2) rfl (by kernel_rfl) (by kernel_rfl) (by kernel_rfl) (fun _ _ _ h => h) (Or.inl ⟨by rfl, ?hy2⟩) ?_
 case hy2 =>
  intro w hSw
  (try dsimp only at hSw)
  go_simp
  all_goals with_reducible rfl
 change js _ _ _ _ _ _ _ _ (Act.put _ (some 7) _) _
 try simp only [Act.put, List.setIfInBounds_toArray, List.set_cons_zero, List.set_cons_succ]
 refine jf (i := 2) (v := ?v3) rfl (by kernel_rfl) (by kernel_rfl) (by kernel_rfl) (fun _ _ _ h => h) (Or.inl ⟨by rfl, ?hy3⟩) ?_
 case hy3 =>
  intro w hSw
  (try dsimp only at hSw)
  go_simp
  all_goals with_reducible rfl
 change js _ _ _ _ _ _ _ _ (Act.put _ (some 8) _) _
 try simp only [Act.put, List.setIfInBounds_toArray, List.set_cons_zero, List.set_cons_succ]
 refine jf (i := 4) (v := ?v4) rfl (by kernel_rfl) (by kernel_rfl) (by kernel_rfl) (fun _ _ _ h => h) (Or.inl ⟨by rfl, ?hy4⟩) ?_
 case hy4 =>
  intro w hSw
  (try dsimp only at hSw)
  go_simp
  all_goals with_reducible rfl
 change js _ _ _ _ _ _ _ _ (Act.put _ (some 10) _) _
 try simp only [Act.put, List.setIfInBounds_toArray, List.set_cons_zero, List.set_cons_succ]
 refine jf (i := 5) (v := ?v5) rfl (by kernel_rfl) (by kernel_rfl) (by kernel_rfl) (fun _ _ _ h => h) (Or.inl ⟨by rfl, ?hy5⟩) ?_
 case hy5 =>
  intro w hSw
  (try dsimp only at hSw)
  go_simp
  all_goals with_reducible rfl
 change js _ _ _ _ _ _ _ _ (Act.put _ (some 11) _) _
 try simp only [Act.put, List.setIfInBounds_toArray, List.set_cons_zero, List.set_cons_succ]
 refine jf (i := 6) (v := ?v6) rfl (by kernel_rfl) (by kernel_rfl) (by kernel_rfl) (fun _ _ _ h => h) (Or.inl ⟨by rfl, ?hy6⟩) ?_
 case hy6 =>
  intro w hSw
  (try dsimp only at hSw)
  go_simp
  all_goals with_reducible rfl
 change js _ _ _ _ _ _ _ _ (Act.put _ (some 12) _) _
 try simp only [Act.put, List.setIfInBounds_toArray, List.set_cons_zero, List.set_cons_succ]
 refine jf (i := 7) (v := ?v7) rfl (by kernel_rfl) (by kernel_rfl) (by kernel_rfl) (fun _ _ _ h => h) (Or.inl ⟨by rfl, ?hy7⟩) ?_
 case hy7 =>
  intro w hSw
  (try dsimp only at hSw)
  go_simp
  all_goals with_reducible rfl
 change js _ _ _ _ _ _ _ _ (Act.put _ (some 13) _) _
 try simp only [Act.put, List.setIfInBounds_toArray, List.set_cons_zero, List.set_cons_succ]
 refine jf (i := 9) (v := ?v8) rfl (by kernel_rfl) (by kernel_rfl) (by kernel_rfl) (fun _ _ _ h => h) (Or.inl ⟨by rfl, ?hy8⟩) ?_
 case hy8 =>
  intro w hSw
  (try dsimp only at hSw)
  go_simp
  all_goals with_reducible rfl
 change js _ _ _ _ _ _ _ _ (Act.put _ (some 15) _) _
 try simp only [Act.put, List.setIfInBounds_toArray, List.set_cons_zero, List.set_cons_succ]
 refine jf (i := 12) (v := ?v9) rfl (by kernel_rfl) (by kernel_rfl) (by kernel_rfl) (fun _ _ _ h => h) (Or.inl ⟨by rfl, ?hy9⟩) ?_
 case hy9 =>
  intro w hSw
  (try dsimp only at hSw)
  go_simp
  all_goals with_reducible rfl
 change js _ _ _ _ _ _ _ _ (Act.put _ (some 18) _) _
 try simp only [Act.put, List.setIfInBounds_toArray, List.set_cons_zero, List.set_cons_succ]
 refine zL (i := 3) (v := ?v10) rfl (by kernel_rfl) (by kernel_rfl) (by kernel_rfl) (by kernel_rfl) (fun _ _ _ h => h) (Or.inl ⟨by rfl, ?hy10⟩) (by assumption) ?_
 case hy10 =>
  intro w hSw
  (try dsimp only at hSw)
  go_simp
  all_goals with_reducible rfl
 change js _ _ _ _ _ _ _ _ (Act.put _ (some 9) _) _
 try simp only [Act.put, List.setIfInBounds_toArray, List.set_cons_zero, List.set_cons_succ]
 refine zL (i := 8) (v := ?v11) rfl (by kernel_rfl) (by kernel_rfl) (by kernel_rfl) (by kernel_rfl) (fun _ _ _ h => h) (Or.inl ⟨by rfl, ?hy11⟩) (by assumption) ?_
 case hy11 =>
  intro w hSw
  (try dsimp only at hSw)
  go_simp
  all_goals with_reducible rfl
 change js _ _ _ _ _ _ _ _ (Act.put _ (some 14) _) _
 try simp only [Act.put, List.setIfInBounds_toArray, List.set_cons_zero, List.set_cons_succ]
 refine jf (i := 10) (v := ?v12) rfl (by kernel_rfl) (by kernel_rfl) (by kernel_rfl) (fun _ _ _ h => h) (Or.inl ⟨by rfl, ?hy12⟩) ?_
 case hy12 =>
  intro w hSw
  (try dsimp only at hSw)
  go_simp
  all_goals with_reducible rfl
 change js _ _ _ _ _ _ _ _ (Act.put _ (some 16) _) _
 try simp only [Act.put, List.setIfInBounds_toArray, List.set_cons_zero, List.set_cons_succ]
 refine zL (i := 11) (v := ?v13) rfl (by kernel_rfl) (by kernel_rfl) (by kernel_rfl) (by kernel_rfl) (fun _ _ _ h => h) (Or.inl ⟨by rfl, ?hy13⟩) (by assumption) ?_
 case hy13 =>
  intro w hSw
  (try dsimp only at hSw)
  go_simp
  all_goals with_reducible rfl
 change js _ _ _ _ _ _ _ _ (Act.put _ (some 17) _) _
 try simp only [Act.put, List.setIfInBounds_toArray, List.set_cons_zero, List.set_cons_succ]
 refine jt (rs := [13]) (by kernel_rfl) (by simp) ?_; refine jE rfl (fun K hK => ?_) jT
 go_simp
 rw [← HWA.out]; refine hK.out _ _ (fun _ _ => HTA.out) ?_; clear hK K
 try simp only [Act.put, List.setIfInBounds_toArray, List.set_cons_zero, List.set_cons_succ]
 refine jt (rs := [14]) (by kernel_rfl) (by simp) ?_; refine jE rfl (fun K hK => ?_) jT; refine step_append_lies _ (by rfl) _ _ _ (by rfl) B 37 i0 _ 1 8 Tryz.underlying36 hi hz0 hz1 hz2 rfl (by omega) (.slice a L.length c) L.length (L.map fun k => .int .i64 k) (by rfl) HOA.out ⟨w.heap.size, 0, none⟩ 1 1 [.int .i64 e] (by rfl) (by rfl) HNW.out (by simp [Value.oneCell']) (by omega) (by have := HN.out; unfold maxLen; omega) (by have := HN.out; omega) HSZ.out _ rfl ?_; intro g1 cap1 w1 hown1 hgrow1 hat1 hlt1; obtain ⟨z0, z1, z2, G1, q1, q2, q3⟩ := HEND.out WA w1 g1 cap1 e HBA.out HOA.out hown1 hgrow1 hat1; have HQ := hid (show TuQ Ks Cs B b G w (tuR R u e) (.returned (.tuple #[])) (w1.setCell ⟨g, u, none⟩ (.slice (some ⟨g1, 0, none⟩) (L.length + 1) cap1)) from ⟨⟨rfl, G1, q1, q2⟩, q3⟩); clear hown1 hgrow1 hat1 hlt1 q1 q2 q3; refine hK.out _ _ (fun _ _ => ⟨(World.cell?_of_block z2).trans H36.out, z0⟩) ?_; clear hK K
 try simp only [Act.put, List.setIfInBounds_toArray, List.set_cons_zero, List.set_cons_succ]
 refine jf (i := 15) (v := ?v14) rfl (by kernel_rfl) (by kernel_rfl) (by kernel_rfl) (fun _ _ _ h => h) (Or.inl ⟨by rfl, ?hy14⟩) ?_
 case hy14 =>
  intro w hSw
  (try dsimp only at hSw)
  go_simp
  all_goals with_reducible rfl
 change js _ _ _ _ _ _ _ _ (Act.put _ (some 21) _) _
 try simp only [Act.put, List.setIfInBounds_toArray, List.set_cons_zero, List.set_cons_succ]
 refine jt (rs := [16]) (by kernel_rfl) (by simp) ?_; refine jE rfl (fun K hK => ?_) jT
 go_simp
 refine hK.out _ _ (fun h => absurd h (by decide)) ?_; clear hK K
 try simp only [Act.put, List.setIfInBounds_toArray]
 refine vg (by kernel_rfl) ?_ _; go_wp2_with fail; go_end0; exact HQ.out
theorem BoxsM.take {Q : Nat → Prop} {w : World} {a : Option Addr} {n c : Nat} {l : List Bx} (h : BoxsM Q w (.slice a n c) l) (i : Nat) (hi : i ≤ l.length) : BoxsM Q w (.slice a (l.take i).length c) (l.take i) := by
 obtain ⟨a', c', hv, hm, hr⟩ := h; simp only [Value.slice.injEq] at hv; obtain ⟨rfl, _, rfl⟩ := hv; refine ⟨_, _, rfl, by rw [List.length_take]; omega, fun j x hx => ?_⟩; have hj : j < i := by have := (List.getElem?_eq_some_iff.1 hx).1; rw [List.length_take] at this; omega
 rw [List.getElem?_take_of_lt hj] at hx; exact hr j x hx
theorem jl0 {l : List Bx} {i : Nat} {b : Bx} (hn : (l.map Bx.name).Nodup) (hb : l[i]? = some b) : idxZ (isName b.name) (l.take i) = -1 := by
 refine vH fun (j : Nat) y hj hy => ?_
 have hj' : j < i := by rw [List.length_take] at hj; omega
 rw [List.getElem?_take_of_lt hj'] at hy; unfold isName; rw [decide_eq_false_iff_not]; intro e; have h1 : (l.map Bx.name)[j]? = some b.name := by rw [List.getElem?_map, hy]; simp [e]
 have h2 : (l.map Bx.name)[i]? = some b.name := by rw [List.getElem?_map, hb]; rfl
 have hil : i < (l.map Bx.name).length := (List.getElem?_eq_some_iff.1 h2).1; have := (List.getElem?_inj (by omega) hn).1 (h1.trans h2.symm); omega
theorem jne (l : List Ent) (p : Ent → Bool) (a : Option Addr) (c f : Nat) (cap : Array Value) (eg : ∀ args w, (callFunc f args).run Tryz.prog w = .ok (.enter f args) w) (w : World) (Q : Nat → Prop) (hL : EntsM Q w (.slice a l.length c) l)
 (hf : ∀ (x : Ent) u, x ∈ l → Below w.heap.size w u → Calls Tryz.prog f (#[.agg #[.int .i64 x.kind, .string (S x.box), .int .i64 x.uid, .int .i64 x.flags, .string (S x.goal), .string (S x.text)]] ++ cap) u fun e u' => e = .returned (.bool (p x)) ∧ Below u.heap.size u u') :
 Calls Tryz.prog 138 #[.slice a l.length c, .func (.func f) #[] cap] w fun e w' => e = .returned (.bool (decide (0 ≤ idxZ p l))) ∧ Below w.heap.size w w' := by
 have HI := hid (jnm l p a c f cap eg w Q hL hf); generalize idxZ p l = z at *; clear hL hf; go_enter Tryz.func138, Tryz.ntmps138; go_wp2_with fail; refine HI.out.mono ?_; rintro e w1 ⟨rfl, hb⟩; simp only; have HB := hid hb; clear hb; go_wp2; go_ret; exact ⟨by first | rfl | simp, HB.out⟩
theorem je0 (x : Ent) (w : World) (hk : x.kind = 6) (hx : Formed x) :
 Calls Tryz.prog 139 #[.agg #[.int .i64 x.kind, .string (S x.box), .int .i64 x.uid, .int .i64 x.flags, .string (S x.goal), .string (S x.text)]] w fun e w' => e = .returned (.bool false) ∧ Below w.heap.size w w' := by
 obtain ⟨k, bx, u, f, g, t⟩ := x; simp only at hk; subst hk; obtain ⟨W1, hW1⟩ : ∃ W1, W1 = w.alloc (.cells #[.int .i64 6, .string (S bx), .int .i64 u, .int .i64 f, .string (S g), .string (S t)] 25) := ⟨_, rfl⟩; have HWE := hid hW1; have HB1 := hid (show Below w.heap.size w W1 by rw [hW1]; exact nb0 _ _); have HC : Hid (Calls Tryz.prog 46 #[.agg #[.int .i64 6, .string (S bx), .int .i64 u, .int .i64 f, .string (S g), .string (S t)]] W1 fun e w' => e = .returned (.int .i64 0) ∧ Below W1.heap.size W1 w') := jc5 ⟨6, bx, u, f, g, t⟩ W1 hx; simp only; clear hW1 hx; go_enter Tryz.func139, Tryz.ntmps139; go_wp2_with fail; rw [← HWE.out]; refine HC.out.mono ?_; rintro e w2 ⟨rfl, hb⟩; have HB2 := hid (HB1.out.trans (hb.mono HB1.out.size)); clear hb; go_wp2; go_ret; exact ⟨by first | rfl | simp, HB2.out⟩
theorem jj8 (s : Stt) (vb vs : Value) (w : World) (Q : Nat → Prop) (hS : SttM Q w vb vs s) (hM : May s) :
 Calls Tryz.prog 86 #[.agg #[vb, vs]] w fun e w' => e = .returned (.bool true) ∧ Below w.heap.size w w' := by
 obtain ⟨ab, cb, rfl⟩ := RowM.slice hS.1; obtain ⟨aq, cs, rfl⟩ := RowM.slice hS.2.1; have hcap := hS.2.2 _ _ _ rfl; obtain ⟨W1, hW1⟩ : ∃ W1, W1 = w.alloc (.cells #[.slice ab s.boxes.length cb, .slice aq s.spool.length cs] 44) := ⟨_, rfl⟩; have HWE := hid hW1; have hB1 : Below w.heap.size w W1 := by rw [hW1]; exact nb0 _ _
 have HB1 := hid hB1; have hX : W1.heap[w.heap.size]? = some (.cells #[.slice ab s.boxes.length cb, .slice aq s.spool.length cs] 44) := by rw [hW1]; exact heap_alloc_new w _
 have x0 : W1.cell? ⟨w.heap.size, 0, none⟩ = some (.slice ab s.boxes.length cb) := by simp [World.cell?, hX]
 have x1 : W1.cell? ⟨w.heap.size, 1, none⟩ = some (.slice aq s.spool.length cs) := by simp [World.cell?, hX]
 have HS := hid (hS.next hB1); have HM := hid hM; have n1 : ¬ (5 : Int) < (s.boxes.length : Int) := by have := hM.boxes; omega
 have n2 : ¬ (20 : Int) < (s.spool.length : Int) := by have := hM.spool; omega
 have nz : (jY s.boxes : Int) ≤ 6000 := by have := hM.size; omega
 have eg : ∀ args w, (callFunc 139 args).run Tryz.prog w = .ok (.enter 139 args) w := enters_of Tryz.func139 (by kernel_rfl) rfl; have HEG := hid eg; clear hS hM hW1 hX hB1 eg; go_enter Tryz.func86, Tryz.ntmps86; go_wp2; rw [← HWE.out]
 go_loopw [18] (fun v wr => ∃ i : Nat, i ≤ s.boxes.length ∧ v = .int .i64 i ∧ Hid (Below W1.heap.size W1 wr)) (fun v _ => s.boxes.length - (intOf v).toNat)
 case atStart => exact ⟨0, Nat.zero_le _, rfl, Below.refl _ _⟩
 case round =>
  obtain ⟨i, hi, rfl, HB⟩ := hrel; have y0 := ja x0 HB.out; have y1 := ja x1 HB.out
  by_cases hlt : i < s.boxes.length
  · have i1 : (i : Int) < (s.boxes.length : Int) := by omega
    have i0 : (0 : Int) ≤ (i : Int) := by omega
    have i2 : (i : Int) ≤ (cb : Int) := by omega
    obtain ⟨b, hb⟩ : ∃ b, s.boxes[i]? = some b := ⟨_, List.getElem?_eq_getElem hlt⟩; have hBS := HS.out.1.next HB.out; obtain ⟨p, o, v, rfl, _, e0, e1, e2, hm⟩ := hBS.at hb; obtain ⟨am, cm, rfl⟩ := RowM.slice hm; obtain ⟨W2, hW2⟩ : ∃ W2, W2 = wr.alloc (.cells #[.string (S b.name), .int .i64 b.next, .slice am b.mails.length cm] 40) := ⟨_, rfl⟩; have HWE2 := hid hW2; have hB2 : Below wr.heap.size wr W2 := by rw [hW2]; exact nb0 _ _
    have hX2 : W2.heap[wr.heap.size]? = some (.cells #[.string (S b.name), .int .i64 b.next, .slice am b.mails.length cm] 40) := by rw [hW2]; exact heap_alloc_new wr _
    obtain ⟨m0, m1, m2⟩ := jls hX2; have z0 := ja y0 hB2; have HBM := hid (fun u (hu : Below W2.heap.size W2 u) => jeF b (.slice am b.mails.length cm) u Q ((hm.next hB2).next hu) (HM.out.each b (List.mem_of_getElem? hb))); have HNN := hid (jl0 HM.out.names hb); have hlen : (s.boxes.take i).length = i := by rw [List.length_take]; omega
    have HIX := hid (fun u (hu : Below W2.heap.size W2 u) => by
        have := jN (s.boxes.take i) b.name (some ⟨p, o, none⟩) cb u Q (((hBS.next hB2).next hu).take i (by omega)); rw [hlen, HNN.out] at this; exact this)
    have HB3 := hid (show Below W1.heap.size W1 W2 from HB.out.trans (hB2.mono HB.out.size)); clear hb hW2 hX2 hB2 hm hBS hlen; go_wp2; rw [← HWE2.out]
    go_cut [35] (fun c wx => c = .bool false ∧ Below W2.heap.size W2 wx)
    case first =>
        go_region_held3 (fun w' => w'.cell? ⟨wr.heap.size, 0, none⟩ = some (.string (S b.name)) ∧ w'.cell? ⟨wr.heap.size, 1, none⟩ = some (.int .i64 b.next) ∧ w'.cell? ⟨wr.heap.size, 2, none⟩ = some (.slice am b.mails.length cm) ∧ w'.cell? ⟨w.heap.size, 0, none⟩ = some (.slice (some ⟨p, o, none⟩) s.boxes.length cb)) (go_keep)
         (first
            | (go_at_call 92
               with_reducible refine (HIX.out _ HB4.out).mono ?_
               rintro e w4 ⟨rfl, hb⟩; have HB5 := hid (HB4.out.trans (hb.mono HB4.out.size)); have q0 := ja k0 hb; have q1 := ja k1 hb; have q2 := ja k2 hb; have q3 := ja k3 hb; clear hb)
            | (go_at_call 136
               with_reducible refine (HBM.out W2.drew ((Below.refl _ _).drew)).mono ?_
               rintro e w3 ⟨rfl, hb⟩; have hb2 : Below W2.heap.size W2 w3 := (Below.refl _ _).drew.trans hb; have HB4 := hid hb2; have k0 := ja m0 hb2; have k1 := ja m1 hb2; have k2 := ja m2 hb2; have k3 := ja z0 hb2; clear hb hb2))
        all_goals
         go_wp2_with fail
         go_meet
         exact ⟨by first | rfl | simp, HB5.out⟩
    case rest =>
        obtain ⟨rfl, hb⟩ := hcut; have HB6 := hid (show Below W1.heap.size W1 wc from HB3.out.trans (hb.mono HB3.out.size)); clear hb; go_wp2
        go_roundw
        case rel => first | exact ⟨i + 1, by omega, by go_num, HB6⟩ | ((repeat apply Exists.intro); exact ⟨⟨i + 1, by omega, by go_num, HB6⟩, rfl⟩)
        case measure => simp [intOf]; omega
  · have i1 : ¬ (i : Int) < (s.boxes.length : Int) := by omega
    have HSZ := hid (jcK s.boxes ab cb wr Q (HS.out.1.next HB.out) HM.out.size); have HCF := hid (fun u (hu : Below wr.heap.size wr u) => jne s.spool (fun _ => false) aq cs 139 #[] HEG.out u Q ((HS.out.2.1.next HB.out).next hu) (fun x u' hx _ => je0 x u' (HM.out.out x hx).1 (HM.out.out x hx).2)); have HIZ := hid (show decide (0 ≤ idxZ (fun _ : Ent => false) s.spool) = false by rw [vH (fun _ _ _ _ => rfl)]; rfl); go_wp2_with fail; refine HSZ.out.mono ?_; rintro e w2 ⟨rfl, hb⟩; have HB2 := hid (show Below w.heap.size w w2 from (HB1.out.trans (HB.out.mono HB1.out.size)).trans (hb.mono (Nat.le_trans HB1.out.size HB.out.size))); have q1 := ja y1 hb; have HC2 := hid (HCF.out w2 hb); clear hb; go_wp2_with fail; refine HC2.out.mono ?_; rw [HIZ.out]; rintro e w3 ⟨rfl, hb⟩; have HB3 := hid (HB2.out.trans (hb.mono HB2.out.size)); clear hb; go_wp2; go_ret; exact ⟨by first | rfl | simp, HB3.out⟩
theorem jjA (s : Stt) (vb vs : Value) (w : World) (Q : Nat → Prop) (hS : SttM Q w vb vs s) (hM : May s) :
 Calls Tryz.prog 59 #[.agg #[vb, vs]] w fun e w' => e = .returned (.int .i64 0) ∧ Below w.heap.size w w' := by
 obtain ⟨W1, hW1⟩ : ∃ W1, W1 = w.alloc (.cells #[vb, vs] 44) := ⟨_, rfl⟩; have HWE := hid hW1; have hB1 : Below w.heap.size w W1 := by rw [hW1]; exact nb0 _ _
 have HB1 := hid hB1; have HC := hid (jj8 s vb vs W1 Q (hS.next hB1) hM); clear hS hM hW1 hB1; go_enter Tryz.func59, Tryz.ntmps59; go_wp2_with fail; rw [← HWE.out]; refine HC.out.mono ?_; rintro e w2 ⟨rfl, hb⟩; have HB2 := hid (HB1.out.trans (hb.mono HB1.out.size)); clear hb; go_wp2; go_ret; exact ⟨rfl, HB2.out⟩
def AllP (w : World) (r : Except Int Stt) (e : Ending) (w' : World) : Prop := Below w.heap.size w w' ∧ match r with
 | .error z => e = .returned (.tuple #[.agg #[.slice none 0 0, .slice none 0 0], .int .i64 z])
 | .ok s' => ∃ vb vs vm, e = .returned (.tuple #[.agg #[vb, vs], .int .i64 0]) ∧ OwnS w.heap.size w' vb vs vm s'
theorem jfu : ∀ (a b : List Ent) (s : Stt), allM s (a ++ b) = match allM s a with | .error e => .error e | .ok s' => allM s' b := by
 intro a
 induction a with
 | nil => intro b s; rfl
 | cons x a ih =>
   intro b s; simp only [List.cons_append, allM]; cases doM s x with
   | error e => rfl
   | ok s' => exact ih b s'
theorem jfv (s : Stt) (x : Ent) : allM s [x] = doM s x := by
 simp only [allM]; cases doM s x <;> rfl
theorem jdF {s s' : Stt} {l : List Ent} {k : Nat} {x : Ent} (h : allM s (l.take k) = .ok s') (hx : l[k]? = some x) : allM s (l.take (k + 1)) = doM s' x := by
 have hk : k < l.length := (List.getElem?_eq_some_iff.1 hx).1; rw [List.take_succ_eq_append_getElem hk, (List.getElem?_eq_some_iff.1 hx).2, jfu, h]; exact jfv s' x
theorem jhr {s s' : Stt} {l : List Ent} {k : Nat} {x : Ent} {z : Int} (h : allM s (l.take k) = .ok s') (hx : l[k]? = some x) (hd : doM s' x = .error z) : allM s l = .error z := by
 have h1 := jdF h hx; rw [hd] at h1; have h2 := jfu (l.take (k + 1)) (l.drop (k + 1)) s; rw [List.take_append_drop, h1] at h2; exact h2
theorem jjr {s : Stt} {i : Nat} {f : Int} {t : List UInt8} {z : Int} (h : addM s i f t = .error z) : z ≠ 0 := by
 unfold addM at h; split at h
 · cases h; decide
 · split at h
   · cases h; decide
   · cases h
theorem jlK {s : Stt} {x : Ent} {z : Int} (h : doM s x = .error z) : z ≠ 0 := by
 unfold doM at h
 repeat' (first | (cases h; done) | (cases h; decide) | exact jjr h | split at h)
theorem Sto.base {B B' p : Nat} {w : World} {s : Stt} (h : Sto B' p w s) (hB : B ≤ B') : Sto B p w s := by
 obtain ⟨vb, vs, vm, h1, h2, h3, h4⟩ := h; exact ⟨vb, vs, vm, h1, h2.base hB, h3, by omega⟩
theorem jlj (s : Stt) (vb vs : Value) (l : List Ent) (a : Option Addr) (c : Nat) (w : World) (Q : Nat → Prop) (hS : SttM Q w vb vs s) (hM : May s) (hL : EntsM Q w (.slice a l.length c) l) (hl : l.length ≤ 10) (hF : ∀ x ∈ l, Formed x) :
 Calls Tryz.prog 39 #[.agg #[vb, vs], .slice a l.length c] w (AllP w (allM s l)) := by
 obtain ⟨ab, cb, rfl⟩ := RowM.slice hS.1; obtain ⟨aq, cq, rfl⟩ := RowM.slice hS.2.1; obtain ⟨r, hr⟩ : ∃ r, r = allM s l := ⟨_, rfl⟩; rw [← hr]; have HRE := hid hr; obtain ⟨W0, hW0⟩ : ∃ W0, W0 = (w.alloc (.cells #[.slice ab s.boxes.length cb, .slice aq s.spool.length cq] 44)).alloc (.cells #[.slice none 0 0, .slice none 0 0] 44) := ⟨_, rfl⟩; have HWE := hid hW0; have hB0 : Below w.heap.size w W0 := by rw [hW0]; exact (nb0 _ _).alloc (by simp) _
 have HB0 := hid hB0; have HZ0 := hid (show W0.heap.size = w.heap.size + 2 by rw [hW0]; simp); have hR : W0.heap[w.heap.size + 1]? = some (.cells #[.slice none 0 0, .slice none 0 0] 44) := by rw [hW0]; have := heap_alloc_new (w.alloc (.cells #[.slice ab s.boxes.length cb, .slice aq s.spool.length cq] 44)) (.cells #[.slice none 0 0, .slice none 0 0] 44); simpa using this
 have HR := hid hR; have x0 : W0.cell? ⟨w.heap.size, 0, none⟩ = some (.slice ab s.boxes.length cb) := by rw [hW0]; exact jX (by simp) _
 have x1 : W0.cell? ⟨w.heap.size, 1, none⟩ = some (.slice aq s.spool.length cq) := by rw [hW0]; exact jX (by simp) _
 have HC := hid (jjA s _ _ W0 Q (hS.next hB0) hM); have HSO := hid (fun u (hu : Below W0.heap.size W0 u) => jhb s _ _ u Q ((hS.next hB0).next hu) hM); have HL := hid (hL.next hB0); have HF := hid hF; have HM := hid hM; have n1 : ¬ (10 : Int) < (l.length : Int) := by omega
 clear hS hM hW0 hB0 hR hL hF hr; go_enter Tryz.func39, Tryz.ntmps39; go_wp2_with fail; rw [← HWE.out]; refine HC.out.mono ?_; rintro e w1 ⟨rfl, hb1⟩; have y0 := ja x0 hb1; have y1 := ja x1 hb1; have HB1 := hid hb1; have HSO1 := hid (HSO.out w1 hb1); clear hb1; go_wp2_with fail; refine HSO1.out.mono ?_; rintro e w2 ⟨vb, vs, vm, rfl, hO, hb2⟩; obtain ⟨a1, c1, rfl⟩ := jx hO.boxes; obtain ⟨a2, c2, rfl⟩ := jx hO.spool; simp only; obtain ⟨W3, hW3⟩ : ∃ W3, W3 = w2.alloc (.cells #[.slice a1 s.boxes.length c1, .slice a2 s.spool.length c2] 133) := ⟨_, rfl⟩; have HWE3 := hid hW3; have hb3 : Below w2.heap.size w2 W3 := by rw [hW3]; exact nb0 _ _
 have HB3 := hid (show Below W0.heap.size W0 W3 from (HB1.out.trans (hb2.mono HB1.out.size)).trans (hb3.mono (Nat.le_trans HB1.out.size hb2.size))); have HST := hid (show Sto W0.heap.size w2.heap.size W3 s from ⟨_, _, vm, by rw [hW3]; exact heap_alloc_new w2 _, (hO.base HB1.out.size).next hb3, fun h => by have := (hO.lt h).2; omega, Nat.le_trans HB1.out.size hb2.size⟩); clear hO hb2 hW3 hb3; go_wp2; rw [← HWE3.out]; obtain ⟨p, hp⟩ : ∃ p, p = w2.heap.size := ⟨_, rfl⟩; rw [← hp] at HST ⊢; clear hp
 go_loopw [26] (fun v wr => ∃ (k : Nat) (sk : Stt), k ≤ l.length ∧ v = .int .i64 k ∧ Hid (allM s (l.take k) = .ok sk) ∧ Hid (Sto W0.heap.size p wr sk) ∧ Hid (Below W0.heap.size W0 wr)) (fun v _ => l.length - (intOf v).toNat)
 case atStart => exact ⟨0, s, Nat.zero_le _, rfl, rfl, HST, HB3⟩
 case round =>
  obtain ⟨k, sk, hk, rfl, HA, HS, HB⟩ := hrel; have hR1 := zI HB.out HR.out; have HR1 := hid hR1
  by_cases hlt : k < l.length
  · have k1 : (k : Int) < (l.length : Int) := by omega
    have k0 : (0 : Int) ≤ (k : Int) := by omega
    obtain ⟨x, hx⟩ : ∃ x, l[k]? = some x := ⟨_, List.getElem?_eq_getElem hlt⟩; obtain ⟨b, o, rfl, _, e0, e1, e2, e3, e4, e5⟩ := (HL.out.next HB.out).at hx; have hFx := HF.out x (List.mem_of_getElem? hx); have hMk : May sk := jju HM.out (fun y hy => HF.out y (List.mem_of_mem_take hy)) HA.out; obtain ⟨W4, hW4⟩ : ∃ W4, W4 = wr.alloc (.cells #[.int .i64 x.kind, .string (S x.box), .int .i64 x.uid, .int .i64 x.flags, .string (S x.goal), .string (S x.text)] 25) := ⟨_, rfl⟩; have HWE4 := hid hW4; have hb4 : Below wr.heap.size wr W4 := by rw [hW4]; exact nb0 _ _
    have hX4 : W4.heap[wr.heap.size]? = some (.cells #[.int .i64 x.kind, .string (S x.box), .int .i64 x.uid, .int .i64 x.flags, .string (S x.goal), .string (S x.text)] 25) := by rw [hW4]; exact heap_alloc_new wr _
    have HX4 := hid hX4; have HB4 := hid (show Below W0.heap.size W0 W4 from HB.out.trans (hb4.mono HB.out.size)); have HFO := hid (jc5 x W4 hFx); have HDO := hid (fun u (hu : Below W4.heap.size W4 u) => jlu W0.heap.size p sk x u ((HS.out.next hb4).next hu) hMk hFx); have HNX := hid (fun s' (h : doM sk x = .ok s') => (jdF HA.out hx).trans h); have HST2 := hid (fun z (h : doM sk x = .error z) => jhr HA.out hx h); clear hx hFx hMk hW4 hX4 hb4 hR1; go_wp2_with fail; rw [← HWE4.out]; refine HFO.out.mono ?_; rintro e w5 ⟨rfl, hb5⟩; obtain ⟨z0, z1, z2, z3, z4, z5⟩ := jbE (zI hb5 HX4.out); have HDO5 := hid (HDO.out w5 hb5); have HB5 := hid (show Below W0.heap.size W0 w5 from HB4.out.trans (hb5.mono HB4.out.size)); clear hb5; go_wp2_with fail; refine HDO5.out.mono ?_; intro e w6 hd; have HB6 := hid (show Below W0.heap.size W0 w6 from HB5.out.trans hd.1); cases hdo : doM sk x with
    | ok s' =>
      rw [hdo] at hd; obtain ⟨_, rfl, hS6⟩ := hd; have HS6 := hid hS6; have HA6 := hid (HNX.out s' hdo); clear hdo hS6; simp only; go_wp2
      go_roundw
      case rel => first | exact ⟨k + 1, s', by omega, by go_num, HA6, HS6, HB6⟩ | ((repeat apply Exists.intro); exact ⟨⟨k + 1, s', by omega, by go_num, HA6, HS6, HB6⟩, rfl⟩)
      case measure => simp [intOf]; omega
    | error z =>
      rw [hdo] at hd; obtain ⟨_, rfl⟩ := hd; have HZ := hid (HST2.out z hdo); have hzn := jlK hdo; have hz' : ¬ z = 0 := hzn; have hz'' : (z == 0) = false := by simp [hzn]
      have hR6 := zI HB6.out HR.out; obtain ⟨u0, u1, h0, h1⟩ := zu hR6; obtain ⟨v0, v1, j0, j1⟩ := zu (zK (u0 := .slice none 0 0) (u1 := .slice none 0 0) hR6); have HE := hid (show AllP w r (.returned (.tuple #[.agg #[.slice none 0 0, .slice none 0 0], .int .i64 z])) ((w6.setCell ⟨w.heap.size + 1, 0, none⟩ (.slice none 0 0)).setCell ⟨w.heap.size + 1, 1, none⟩ (.slice none 0 0)) by
       rw [HRE.out, HZ.out]; exact ⟨((HB0.out.trans (HB6.out.mono HB0.out.size)).setCell (Nat.le_succ _) _).setCell (Nat.le_succ _) _, rfl⟩)
      clear hdo hR6 hzn; simp only; go_wp2; refine bodyPost_ret (v := .tuple #[.agg #[.slice none 0 0, .slice none 0 0], .int .i64 z]) (by simp [results, Tryz.results39, go_sem, *]) rfl ?_; exact HE.out
  · have k1 : ¬ (k : Int) < (l.length : Int) := by omega
    obtain ⟨vb', vs', vm', hp', hO', hn', hBp'⟩ := HS.out; obtain ⟨a5, c5, rfl⟩ := jx hO'.boxes; obtain ⟨a6, c6, rfl⟩ := jx hO'.spool; obtain ⟨s0, s1, _, _⟩ := zu hp'; obtain ⟨u0, u1, h0, h1⟩ := zu hR1; obtain ⟨v0, v1, j0, j1⟩ := zu (zK (u0 := .slice a5 sk.boxes.length c5) (u1 := .slice a6 sk.spool.length c6) hR1); have HE := hid (show AllP w r (.returned (.tuple #[.agg #[.slice a5 sk.boxes.length c5, .slice a6 sk.spool.length c6], .int .i64 0])) ((wr.setCell ⟨w.heap.size + 1, 0, none⟩ (.slice a5 sk.boxes.length c5)).setCell ⟨w.heap.size + 1, 1, none⟩ (.slice a6 sk.spool.length c6)) by
        have hA := HA.out; rw [List.take_of_length_le (by omega)] at hA; rw [HRE.out, hA]; refine ⟨((HB0.out.trans (HB.out.mono HB0.out.size)).setCell (Nat.le_succ _) _).setCell (Nat.le_succ _) _, _, _, vm', rfl, (hO'.base HB0.out.size).keep fun q hq => ?_⟩; have hq' : q ≠ w.heap.size + 1 := by have := (hO'.lt hq).1; have := HZ0.out; omega
        exact (jp hq').trans (jp hq'))
    clear hp' hO' hn' hR1; go_wp2; refine bodyPost_ret (v := .tuple #[.agg #[.slice a5 sk.boxes.length c5, .slice a6 sk.spool.length c6], .int .i64 0]) (by simp [results, Tryz.results39, go_sem, *]) rfl ?_; exact HE.out
end Go.Proofs.YtgooljlpffnaeaaGreatDoor
