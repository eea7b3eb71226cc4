/-
  One entry is done on a state: the walk of Apply.
-/
import Derived.Test.YtgooljlpffnaeaaGreatDoorFQBkAz5
namespace Go.Proofs.YtgooljlpffnaeaaGreatDoor
open Go.RowKit Go.Proofs
theorem jhN (w : World) (x : Ent) (p : Nat) (h : w.heap[p]? = some (.cells #[.int .i64 x.kind, .string (S x.box), .int .i64 x.uid, .int .i64 x.flags, .string (S x.goal), .string (S x.text)] 25)) : EntsM (fun _ => True) w (.slice (some ⟨p, 0, none⟩) 1 1) [x] := by
 refine ⟨some ⟨p, 0, none⟩, 1, rfl, by simp [maxLen], fun i y hy => ?_⟩; cases i with
 | succ i => simp at hy
 | zero =>
   simp at hy
   subst hy; refine ⟨p, 0, entC x, rfl, (Array.getElem?_eq_some_iff.1 h).1, trivial, rfl, fun j u hj => ?_, rfl⟩; simp only [Nat.zero_mul, Nat.zero_add, World.cell?, h]
   simpa [entC] using hj
set_option maxHeartbeats 1000000 in
set_option maxRecDepth 100000 in
theorem jht (s : Stt) (vb vs : Value) (x : Ent) (w : World) (Q : Nat → Prop) (hS : SttM Q w vb vs s) (hM : May s) (hF : Formed x) :
 Calls Tryz.prog 47 #[.agg #[vb, vs], .agg #[.int .i64 x.kind, .string (S x.box), .int .i64 x.uid, .int .i64 x.flags, .string (S x.goal), .string (S x.text)]] w (AllP w (doM s x)) := by
 obtain ⟨ab, cb, rfl⟩ := RowM.slice hS.1; obtain ⟨aq, cq, rfl⟩ := RowM.slice hS.2.1; obtain ⟨r, hr⟩ : ∃ r, r = doM s x := ⟨_, rfl⟩; rw [← hr]; have hr' := hr; rw [← jfv] at hr'; obtain ⟨W0, hW0⟩ : ∃ W0, W0 = (((w.alloc (.cells #[.slice ab s.boxes.length cb, .slice aq s.spool.length cq] 44)).alloc (.cells #[.int .i64 x.kind, .string (S x.box), .int .i64 x.uid, .int .i64 x.flags, .string (S x.goal), .string (S x.text)] 25)).alloc (.cells #[.slice none 0 0, .slice none 0 0] 44)).alloc (.cells #[.int .i64 x.kind, .string (S x.box), .int .i64 x.uid, .int .i64 x.flags, .string (S x.goal), .string (S x.text)] 25) := ⟨_, rfl⟩; have HWE := hid hW0; have hB0 : Below w.heap.size w W0 := by rw [hW0]; exact (((nb0 _ _).alloc (by simp) _).alloc (by simp; omega) _).alloc (by simp; omega) _
 have HB0 := hid hB0; have HZ0 := hid (show W0.heap.size = w.heap.size + 4 by rw [hW0]; simp); have hR : W0.heap[w.heap.size + 2]? = some (.cells #[.slice none 0 0, .slice none 0 0] 44) := by
  rw [hW0, heap_alloc_old _ _ (by simp)]; have := heap_alloc_new ((w.alloc (.cells #[.slice ab s.boxes.length cb, .slice aq s.spool.length cq] 44)).alloc (.cells #[.int .i64 x.kind, .string (S x.box), .int .i64 x.uid, .int .i64 x.flags, .string (S x.goal), .string (S x.text)] 25)) (.cells #[.slice none 0 0, .slice none 0 0] 44)
  simpa using this
 have hE : W0.heap[w.heap.size + 3]? = some (.cells #[.int .i64 x.kind, .string (S x.box), .int .i64 x.uid, .int .i64 x.flags, .string (S x.goal), .string (S x.text)] 25) := by
  rw [hW0]; have := heap_alloc_new (((w.alloc (.cells #[.slice ab s.boxes.length cb, .slice aq s.spool.length cq] 44)).alloc (.cells #[.int .i64 x.kind, .string (S x.box), .int .i64 x.uid, .int .i64 x.flags, .string (S x.goal), .string (S x.text)] 25)).alloc (.cells #[.slice none 0 0, .slice none 0 0] 44)) (.cells #[.int .i64 x.kind, .string (S x.box), .int .i64 x.uid, .int .i64 x.flags, .string (S x.goal), .string (S x.text)] 25)
  simpa using this
 have HR := hid hR; have HC := hid (jlj s _ _ [x] (some ⟨w.heap.size + 3, 0, none⟩) 1 W0 (fun _ => True) ((hS.next hB0).imp (fun _ _ => trivial) (Keeps.refl _ _)) hM (jhN W0 x _ hE) (by simp) (fun y hy => by simp at hy; subst hy; exact hF)); rw [← hr'] at HC; clear hS hM hF hW0 hB0 hR hE hr hr'; go_enter Tryz.func47, Tryz.ntmps47; go_wp2_with fail; rw [← HWE.out]; refine HC.out.mono ?_; intro e w1 hA; have hb := hA.1; have hR1 := zI hb HR.out; obtain ⟨u0, u1, h0, h1⟩ := zu hR1; cases r with
 | error z =>
   obtain ⟨_, rfl⟩ := hA; obtain ⟨v0, v1, j0, j1⟩ := zu (zK (u0 := .slice none 0 0) (u1 := .slice none 0 0) hR1); have HE := hid (show AllP w (.error z) (.returned (.tuple #[.agg #[.slice none 0 0, .slice none 0 0], .int .i64 z])) ((w1.setCell ⟨w.heap.size + 2, 0, none⟩ (.slice none 0 0)).setCell ⟨w.heap.size + 2, 1, none⟩ (.slice none 0 0)) from ⟨((HB0.out.trans (hb.mono HB0.out.size)).setCell (Nat.le_add_right _ _) _).setCell (Nat.le_add_right _ _) _, rfl⟩); clear hb hR1; simp only; go_wp2; refine bodyPost_ret (v := .tuple #[.agg #[.slice none 0 0, .slice none 0 0], .int .i64 z]) (by simp [results, Tryz.results47, go_sem, *]) rfl ?_; exact HE.out
 | ok s' =>
   obtain ⟨_, vb, vs, vm, rfl, hO⟩ := hA; obtain ⟨a5, c5, rfl⟩ := jx hO.boxes; obtain ⟨a6, c6, rfl⟩ := jx hO.spool; obtain ⟨v0, v1, j0, j1⟩ := zu (zK (u0 := .slice a5 s'.boxes.length c5) (u1 := .slice a6 s'.spool.length c6) hR1); have HE := hid (show AllP w (.ok s') (.returned (.tuple #[.agg #[.slice a5 s'.boxes.length c5, .slice a6 s'.spool.length c6], .int .i64 0])) ((w1.setCell ⟨w.heap.size + 2, 0, none⟩ (.slice a5 s'.boxes.length c5)).setCell ⟨w.heap.size + 2, 1, none⟩ (.slice a6 s'.spool.length c6)) by
    refine ⟨((HB0.out.trans (hb.mono HB0.out.size)).setCell (Nat.le_add_right _ _) _).setCell (Nat.le_add_right _ _) _, _, _, vm, rfl, (hO.base HB0.out.size).keep fun q hq => ?_⟩; have hq' : q ≠ w.heap.size + 2 := by have := (hO.lt hq).1; have := HZ0.out; omega
    exact (jp hq').trans (jp hq'))
   clear hb hR1 hO; simp only; go_wp2; refine bodyPost_ret (v := .tuple #[.agg #[.slice a5 s'.boxes.length c5, .slice a6 s'.spool.length c6], .int .i64 0]) (by simp [results, Tryz.results47, go_sem, *]) rfl ?_; exact HE.out
end Go.Proofs.YtgooljlpffnaeaaGreatDoor
