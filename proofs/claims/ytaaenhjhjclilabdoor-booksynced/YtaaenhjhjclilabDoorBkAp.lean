/-
  A batch is put on a tape: the walk of Append.
-/
import Derived.Test.YtaaenhjhjclilabDoorBkFr
namespace Go.Proofs.YtaaenhjhjclilabDoor
open Go.RowKit Go.Proofs

theorem new3 (w : World) (o1 o2 o3 : Obj) : (((w.alloc o1).alloc o2).alloc o3).heap[w.heap.size]? = some o1 ∧ (((w.alloc o1).alloc o2).alloc o3).heap[w.heap.size + 1]? = some o2 ∧ (((w.alloc o1).alloc o2).alloc o3).heap[w.heap.size + 2]? = some o3 := by
  refine ⟨?_, ?_, ?_⟩
  · rw [Below.heap_alloc _ _ _ (by simp; omega)]; exact (tp_new2 w o1 o2).1
  · rw [Below.heap_alloc _ _ _ (by simp)]; exact (tp_new2 w o1 o2).2
  · have := heap_alloc_new ((w.alloc o1).alloc o2) o3
    simpa using this
theorem low3 (w : World) (o1 o2 o3 : Obj) : Below w.heap.size w (((w.alloc o1).alloc o2).alloc o3) := (tp_low2 w o1 o2).alloc (by simp; omega) _
set_option maxHeartbeats 1000000 in
set_option maxRecDepth 100000 in
theorem append_ok (a : Option Addr) (c : Nat) (l : List UInt8) (s : Int) (b : Bat) (ae : Option Addr) (ce : Nat) (Q Q' : Nat → Prop) (w : World) (h : BysM Q w (.slice a l.length c) l) (hm : mayN l.length s = true) (hb : BatOk b) (hE : EntsM Q' w (.slice ae b.ents.length ce) b.ents) (hfit : l.length + (frB b).length ≤ 100000) :
    Calls Tryd.prog 22 #[.agg #[.slice a l.length c, .int .i64 s], .agg #[.int .i64 b.user, .slice ae b.ents.length ce]] w (TpP w (l ++ frB b) s 0) := by
  obtain ⟨W1, hW1⟩ : ∃ W1, W1 = ((w.alloc (.cells #[.slice a l.length c, .int .i64 s] 40)).alloc (.cells #[.int .i64 b.user, .slice ae b.ents.length ce] 34)).alloc (.cells #[.slice none 0 0, .int .i64 0] 40) := ⟨_, rfl⟩
  have HWE := hid hW1
  have hB1 : Below w.heap.size w W1 := by rw [hW1]; exact low3 _ _ _ _
  have hN := new3 w (.cells #[.slice a l.length c, .int .i64 s] 40) (.cells #[.int .i64 b.user, .slice ae b.ents.length ce] 34) (.cells #[.slice none 0 0, .int .i64 0] 40)
  rw [← hW1] at hN
  obtain ⟨ht1, hb1, hr1⟩ := hN
  have HB1 := hid hB1
  have HT1 := hid ht1
  have HBB := hid hb1
  have HR1 := hid hr1
  have HL1 := hid (h.next hB1)
  have HE1 := hid (hE.next hB1)
  have HM := hid hm
  have HOK := hid hb
  have hfr := frB_len b
  have hbl : l.length + 3 + (batB b).length ≤ 100000 := by omega
  obtain ⟨x0, x1, _, _⟩ := bk_box2 ht1
  obtain ⟨X, hX⟩ : ∃ X, X = batB b := ⟨_, rfl⟩
  have HXE := hid (show l ++ beB X.length 3 ++ X = l ++ frB b by unfold frB; rw [hX]; simp only [List.append_assoc])
  have hxl : l.length + 3 + X.length ≤ 100000 := by rw [hX]; exact hbl
  have HEN := hid (fun (u : World) (hu : Below W1.heap.size W1 u) => encode_ok b ae ce _ u HOK.out (HE1.out.next hu))
  rw [← hX] at HEN
  obtain ⟨Z, hZ⟩ : ∃ Z, Z = l ++ frB b := ⟨_, rfl⟩
  rw [← hZ] at HXE ⊢
  clear h hE hW1 hB1 ht1 hb1 hr1 hm hb hfit hfr hbl hX hZ
  go_enter Tryd.func22, Tryd.ntmps22
  go_wp2_with fail
  rw [← HWE.out]
  refine (tmay_any a l.length c s W1).mono ?_
  rintro e w2 ⟨rfl, hb2⟩
  rw [HM.out]
  have HB2 := hid hb2
  obtain ⟨y0, y1, _, _⟩ := bk_box2 (bk_low hb2 HBB.out)
  have HEN2 := hid (HEN.out w2 hb2)
  clear hb2 x0 x1
  go_wp2_with fail
  refine HEN2.out.mono ?_
  rintro e w3 ⟨a3, c3, rfl, hO3, hb3⟩
  have hb13 : Below W1.heap.size W1 w3 := HB2.out.trans (hb3.mono HB2.out.size)
  have HB3 := hid hb13
  have HX3 := hid (show BysM (fun k => k < w3.heap.size) w3 (.slice a3 X.length c3) X from bys_low (own_by (Q := fun _ => True) hO3 rfl (by unfold maxLen; omega) fun _ _ => trivial))
  obtain ⟨z0, z1, _, _⟩ := bk_box2 (bk_low hb13 HT1.out)
  have HCL := hid (clone_by a c l _ w3 (HL1.out.next hb13) (by omega))
  have hg1 : ¬ (100000 : Int) < ((l.length : Nat) : Int) + 3 + ((X.length : Nat) : Int) := by omega
  clear hO3 hb3 hb13 y0 y1 HEN HEN2
  go_wp2_with fail
  refine HCL.out.mono ?_
  rintro e w4 ⟨a4, c4, rfl, hO4, hb4⟩
  obtain ⟨W5, hW5⟩ : ∃ W5, W5 = w4.alloc (.cells #[.slice a4 l.length c4] 91) := ⟨_, rfl⟩
  have HWE5 := hid hW5
  have hB5 : Below w4.heap.size w4 W5 := by rw [hW5]; exact (Below.refl _ _).alloc (Nat.le_refl _) _
  have hw5 : W5.heap[w4.heap.size]? = some (.cells #[.slice a4 l.length c4] 91) := by rw [hW5]; exact heap_alloc_new w4 _
  have HB35 := hid (show Below w3.heap.size w3 W5 from hb4.trans (hB5.mono hb4.size))
  have HY5 := hid (show ByW w3.heap.size W5 w4.heap.size (Value.slice a4 l.length c4).ownBlock l from ⟨a4, c4, hw5, rfl, fun e => by have := (World.ownsRow.lt hO4 _ e).2; omega, hb4.size, bk_keep hO4 fun g hg => hB5.block g (World.ownsRow.lt hO4 g hg).2⟩)
  have HNM := hid (wnum_any X.length 3 w3.heap.size w4.heap.size _ l W5 HY5.out (by decide) (by omega))
  clear hO4 hb4 hW5 hB5 hw5 HCL hg1
  go_upto_region 9 with fail
  rw [← HWE5.out]
  go_wp2_with fail
  refine HNM.out.mono ?_
  rintro e w6 ⟨rfl, g6, hy6, hx6⟩
  have hb6 : Below w3.heap.size W5 w6 := hx6.low HY5.out
  have HB36 := hid (show Below w3.heap.size w3 w6 from HB35.out.trans hb6)
  obtain ⟨a6, c6, h1, h2, h3, h4, h5⟩ := hy6
  have hq6 : (l ++ beB X.length 3).length + X.length ≤ 100000 := by rw [List.length_append, beB_len]; omega
  generalize l ++ beB X.length 3 = q6 at *
  have d0 : w6.cell? ⟨w4.heap.size, 0, none⟩ = some (.slice a6 q6.length c6) := by simp [World.cell?, h1]
  have e0 : w6.frozen? ⟨w4.heap.size, 0, none⟩ = false := by simp [World.frozen?, h1]
  have H1 := hid h1
  have H2 := hid h2
  have H3 := hid h3
  have H5 := hid h5
  have HBL := hid (Array.getElem?_eq_some_iff.1 h1).1
  have HX6 := hid (show BysM (fun k => k < w3.heap.size) w6 (.slice a3 X.length c3) X from HX3.out.imp (fun _ h => h) fun k _ hk => HB36.out.block k hk)
  have hsz6 : w3.heap.size ≤ w6.heap.size := HB36.out.size
  clear h1 h2 h3 h5 hx6 hb6
  go_wp2_with (at_builtin; refine wpList_app_by rfl _ _ rfl rfl H5.out rfl HX6.out ?qc1 ?qc2 hsz6 ?_)
  case qc1 => unfold maxLen; omega
  case qc2 => omega
  intro a7 c7 w7 hown hgrow hrow
  obtain ⟨g7, hy7, hx7⟩ := ByW.append (s := X) H1.out H2.out H3.out h4 HBL.out hown hgrow (fun k hk => by rw [← H2.out]; exact hrow k hk)
  have z6 : w7.frozen? ⟨w4.heap.size, 0, none⟩ = false := (World.frozen?_of_block (w := w6) (hgrow.block w4.heap.size HBL.out fun e => H3.out (H2.out.symm.trans e.symm))).trans e0
  have z7 : w7.cell? ⟨w4.heap.size, 0, none⟩ = some (.slice a6 q6.length c6) := (World.cell?_of_block (w := w6) (hgrow.block w4.heap.size HBL.out fun e => H3.out (H2.out.symm.trans e.symm))).trans d0
  rw [HXE.out] at hy7
  obtain ⟨W8, hW8⟩ : ∃ W8, W8 = w7.setCell ⟨w4.heap.size, 0, none⟩ (.slice a7 (q6.length + X.length) c7) := ⟨_, rfl⟩
  have HWE8 := hid hW8
  rw [← hW8] at hy7 hx7
  have hy6' : ByW w3.heap.size w6 w4.heap.size g6 q6 := ⟨a6, c6, H1.out, H2.out, H3.out, h4, H5.out⟩
  have hb8 : Below w3.heap.size w6 W8 := hx7.low hy6'
  have HB38 := hid (show Below w3.heap.size w3 W8 from HB36.out.trans hb8)
  obtain ⟨a8, c8, k1, k2, k3, k4, k5⟩ := hy7
  have m0 : W8.cell? ⟨w4.heap.size, 0, none⟩ = some (.slice a8 Z.length c8) := by simp [World.cell?, k1]
  have HO8 := hid k5
  have HB18 := hid (show Below W1.heap.size W1 W8 from HB3.out.trans (HB38.out.mono HB3.out.size))
  obtain ⟨t0, t1, _, _⟩ := bk_box2 (bk_low HB18.out HT1.out)
  have hr8 := bk_low HB18.out HR1.out
  obtain ⟨r0, r1, u0, u1⟩ := bk_box2 hr8
  obtain ⟨s0, s1, _, _⟩ := bk_box2 (bk_put (u0 := .slice a8 Z.length c8) (u1 := .int .i64 s) hr8)
  have HE := hid (show TpP w Z s 0 (.returned (.tuple #[.agg #[.slice a8 Z.length c8, .int .i64 s], .int .i64 0])) ((W8.setCell ⟨w.heap.size + 2, 0, none⟩ (.slice a8 Z.length c8)).setCell ⟨w.heap.size + 2, 1, none⟩ (.int .i64 s)) by
    have hw1 : w.heap.size + 2 < W1.heap.size := (Array.getElem?_eq_some_iff.1 HR1.out).1
    have hw3 := HB3.out.size
    refine ⟨a8, c8, rfl, ?_, ((HB1.out.trans (HB18.out.mono HB1.out.size)).setCell (Nat.le_add_right _ _) _).setCell (Nat.le_add_right _ _) _⟩
    refine bk_base (B := w3.heap.size) (bk_keep HO8.out fun g hg => ?_) (by omega)
    have := (World.ownsRow.lt HO8.out g hg).1
    exact (bk_other (by omega)).trans (bk_other (by omega)))
  clear hown hgrow hrow hx7 hb8 k1 k2 k3 k5 hr8 hW8 hy6' d0 z0 z1
  go_upto_region 11 with fail
  rw [← HWE8.out]
  go_wp2
  refine bodyPost_ret (v := .tuple #[.agg #[.slice a8 Z.length c8, .int .i64 s], .int .i64 0]) (by simp [results, Tryd.results22, go_sem, *]) rfl ?_
  exact HE.out
end Go.Proofs.YtaaenhjhjclilabDoor
