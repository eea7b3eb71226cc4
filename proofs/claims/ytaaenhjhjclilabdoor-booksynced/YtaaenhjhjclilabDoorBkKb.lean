/-
  Batches that the laws make of raw numbers: the walks of batchOf and batchesOf.
-/
import Derived.Test.YtaaenhjhjclilabDoorBkKp
import Derived.Test.YtaaenhjhjclilabDoorBkRow
import Derived.Test.YtaaenhjhjclilabDoorBkSy
namespace Go.Proofs.YtaaenhjhjclilabDoor
open Go.RowKit Go.Proofs

/-- What batchOf hands back. -/
def BoP (w : World) (b : Bat) (e : Ending) (w' : World) : Prop := ∃ a c, e = .returned (.agg #[.int .i64 b.user, .slice a b.ents.length c]) ∧ EntsM (fun k => w.heap.size ≤ k) w' (.slice a b.ents.length c) b.ents ∧ Below w.heap.size w w'
theorem ent_row1 (w : World) (x : Ent) (p B : Nat) (hB : B ≤ p) (h : w.heap[p]? = some (.cells #[.int .i64 x.kind, .string (S x.box), .int .i64 x.uid, .int .i64 x.flags, .string (S x.goal), .string (S x.text)] 61)) : EntsM (fun k => B ≤ k) w (.slice (some ⟨p, 0, none⟩) 1 1) [x] := by
  refine ⟨some ⟨p, 0, none⟩, 1, rfl, by simp [maxLen], fun i y hy => ?_⟩
  cases i with
  | succ i => simp at hy
  | zero =>
    simp at hy
    subst hy
    refine ⟨p, 0, entC x, rfl, (Array.getElem?_eq_some_iff.1 h).1, hB, rfl, fun j u hj => ?_, rfl⟩
    simp only [Nat.zero_mul, Nat.zero_add, World.cell?, h]
    simpa [entC] using hj
set_option maxHeartbeats 1000000 in
set_option maxRecDepth 100000 in
theorem batchOf_any (l : List Chr) (a : Option Addr) (c : Nat) (u : Int) (w : World) (Q : Nat → Prop) (hL : ChsM Q w (.slice a l.length c) l) (hW : ∀ x ∈ l, chrW x) (hu : (Lit.int .i64 u).wf = true) :
    Calls Tryd.prog 15 #[.slice a l.length c, .int .i64 u] w (BoP w (batP l u)) := by
  obtain ⟨W1, hW1⟩ : ∃ W1, W1 = w.alloc (.cells #[.int .i64 0, .slice none 0 0] 34) := ⟨_, rfl⟩
  have HWE := hid hW1
  have hB1 : Below w.heap.size w W1 := by rw [hW1]; exact (Below.refl _ _).alloc (Nat.le_refl _) _
  have hp : W1.heap[w.heap.size]? = some (.cells #[.int .i64 0, .slice none 0 0] 34) := by rw [hW1]; exact heap_alloc_new w _
  have HP := hid hp
  have HB1 := hid hB1
  have HZ := hid (show W1.heap.size = w.heap.size + 1 by rw [hW1]; simp)
  have HPK := hid (fun v => picked_any u 3 v hu (by decide) (by decide))
  have HEO := hid (entriesOf_new l a c 10 W1 Q (hL.next hB1) hW (by decide))
  obtain ⟨bt, hbt⟩ : ∃ bt, bt = batP l u := ⟨_, rfl⟩
  have HBT := hid hbt
  rw [← hbt]
  obtain ⟨E, hE⟩ : ∃ E, E = entsK l 10 := ⟨_, rfl⟩
  rw [← hE] at HEO
  have HEE := hid hE
  have HEL := hid (show E.length = min 10 l.length by rw [hE]; exact entsK_len _ _)
  have hE10 : E.length ≤ 10 := by rw [HEL.out]; omega
  obtain ⟨pk, hpk⟩ : ∃ pk, pk = pickN u 3 := ⟨_, rfl⟩
  rw [← hpk] at HPK
  have HPE := hid hpk
  clear hL hW hu hW1 hB1 hp hbt hE hpk
  go_enter Tryd.func15, Tryd.ntmps15
  go_wp2_with fail
  rw [← HWE.out]
  refine (HPK.out _).mono ?_
  rintro e v ⟨rfl, hv⟩
  have hv' := hv.symm
  subst hv'
  clear hv
  go_wp2_with fail
  refine HEO.out.mono ?_
  rintro e w2 ⟨a2, c2, rfl, hE2, hb2⟩
  obtain ⟨W3, hW3⟩ : ∃ W3, W3 = w2.alloc (.cells #[.int .i64 pk, .slice a2 E.length c2] 34) := ⟨_, rfl⟩
  have HWE3 := hid hW3
  have hB3 : Below w2.heap.size w2 W3 := by rw [hW3]; exact (Below.refl _ _).alloc (Nat.le_refl _) _
  have hq : W3.heap[w2.heap.size]? = some (.cells #[.int .i64 pk, .slice a2 E.length c2] 34) := by rw [hW3]; exact heap_alloc_new w2 _
  have hb13 : Below W1.heap.size W1 W3 := hb2.trans (hB3.mono hb2.size)
  have hp3 := bk_low hb13 HP.out
  have HP3 := hid hp3
  have HQ3 := hid hq
  have HE3 := hid (hE2.next hB3)
  have HB3 := hid (show Below w.heap.size w W3 from HB1.out.trans (hb13.mono HB1.out.size))
  have HS3 := hid (show w.heap.size < w2.heap.size by have := HZ.out; have := hb2.size; omega)
  obtain ⟨x0, x1, f0, f1⟩ := bk_box2 hq
  obtain ⟨y0, y1, g0, g1⟩ := bk_box2 hp3
  clear hW3 hB3 hq hb13 hp3 hE2 hb2
  go_upto_region 2 with fail
  rw [← HWE3.out]
  by_cases h0 : l = []
  · have hE0 : E.length = 0 := by rw [HEL.out, h0]; simp
    have HB0 := hid (show bt = ⟨(pk : Nat), [xpE]⟩ by rw [HBT.out, HPE.out]; unfold batP; rw [if_pos h0])
    have hw23 : w2.heap.size < W3.heap.size := (Array.getElem?_eq_some_iff.1 HQ3.out).1
    obtain ⟨W4, hW4⟩ : ∃ W4, W4 = W3.setCell ⟨w2.heap.size, 1, none⟩ (.slice (some ⟨W3.heap.size, 0, none⟩) 1 1) := ⟨_, rfl⟩
    have hz4 : W4.heap.size = W3.heap.size := by rw [hW4]; simp [World.setCell]
    have hq4' : W4.heap[w2.heap.size]? = some (.cells #[.int .i64 pk, .slice (some ⟨W3.heap.size, 0, none⟩) 1 1] 34) := by rw [hW4]; exact bk_put1 HQ3.out
    have hp4' : W4.heap[w.heap.size]? = some (.cells #[.int .i64 0, .slice none 0 0] 34) := by rw [hW4]; exact (bk_other (by have := HS3.out; omega)).trans HP3.out
    have hb4' : Below w.heap.size w W4 := by rw [hW4]; exact HB3.out.setCell (Nat.le_of_lt HS3.out) _
    obtain ⟨W5, hW5⟩ : ∃ W5, W5 = W4.alloc (.cells #[.int .i64 4, .string ⟨#[73, 78, 66, 79, 88]⟩, .int .i64 0, .int .i64 0, .string ⟨#[]⟩, .string ⟨#[]⟩] 61) := ⟨_, rfl⟩
    have HWE5 := hid (show W5 = (W3.setCell ⟨w2.heap.size, 1, none⟩ (.slice (some ⟨W3.heap.size, 0, none⟩) 1 1)).alloc (.cells #[.int .i64 4, .string ⟨#[73, 78, 66, 79, 88]⟩, .int .i64 0, .int .i64 0, .string ⟨#[]⟩, .string ⟨#[]⟩] 61) by rw [hW5, hW4])
    have hB4 : Below W4.heap.size W4 W5 := by rw [hW5]; exact (Below.refl _ _).alloc (Nat.le_refl _) _
    have hx5 : W5.heap[W3.heap.size]? = some (.cells #[.int .i64 4, .string ⟨#[73, 78, 66, 79, 88]⟩, .int .i64 0, .int .i64 0, .string ⟨#[]⟩, .string ⟨#[]⟩] 61) := by rw [hW5, ← hz4]; exact heap_alloc_new W4 _
    have hq4 := bk_low hB4 hq4'
    have hp4 := bk_low hB4 hp4'
    have hb5 : Below w.heap.size w W5 := hb4'.trans (hB4.mono (by have := hb4'.size; omega))
    have HB5 := hid hb5
    obtain ⟨m0, m1, _, _⟩ := bk_box2 hq4
    obtain ⟨n0, n1, r0, r1⟩ := bk_box2 hp4
    obtain ⟨s0, s1, _, _⟩ := bk_box2 (bk_put (u0 := .int .i64 pk) (u1 := .slice (some ⟨W3.heap.size, 0, none⟩) 1 1) hp4)
    have HX5 := hid hx5
    have HE := hid (show BoP w bt (.returned (.agg #[.int .i64 pk, .slice (some ⟨W3.heap.size, 0, none⟩) 1 1])) ((W5.setCell ⟨w.heap.size, 0, none⟩ (.int .i64 pk)).setCell ⟨w.heap.size, 1, none⟩ (.slice (some ⟨W3.heap.size, 0, none⟩) 1 1)) by
      rw [HB0.out]
      have hs := HS3.out
      refine ⟨_, _, rfl, ?_, (HB5.out.setCell (Nat.le_refl _) _).setCell (Nat.le_refl _) _⟩
      refine ent_row1 _ xpE W3.heap.size w.heap.size (by omega) ?_
      exact (bk_other (by omega)).trans ((bk_other (by omega)).trans HX5.out))
    clear hW4 hz4 hq4' hp4' hb4' hq4 hp4 hW5 hx5 hB4 hb5
    rw [hE0]
    rw [hE0] at x1
    go_upto_region 4 with fail
    rw [← HWE5.out]
    go_wp2
    refine bodyPost_ret (v := .agg #[.int .i64 pk, .slice (some ⟨W3.heap.size, 0, none⟩) 1 1]) (by simp [results, Tryd.results15, go_sem, *]) rfl ?_
    exact HE.out
  · have hEn : ¬ (E.length : Int) = 0 := by
      have : l.length ≠ 0 := fun e => h0 (List.length_eq_zero_iff.1 e)
      have := HEL.out
      omega
    have hEb : ((E.length : Int) == 0) = false := by rw [beq_eq_false_iff_ne]; exact hEn
    have HB0 := hid (show bt = ⟨(pk : Nat), E⟩ by rw [HBT.out, HPE.out, HEE.out]; unfold batP; rw [if_neg h0])
    obtain ⟨s0, s1, _, _⟩ := bk_box2 (bk_put (u0 := .int .i64 pk) (u1 := .slice a2 E.length c2) HP3.out)
    have HE := hid (show BoP w bt (.returned (.agg #[.int .i64 pk, .slice a2 E.length c2])) ((W3.setCell ⟨w.heap.size, 0, none⟩ (.int .i64 pk)).setCell ⟨w.heap.size, 1, none⟩ (.slice a2 E.length c2)) by
      rw [HB0.out]
      have hz := HZ.out
      refine ⟨_, _, rfl, ?_, (HB3.out.setCell (Nat.le_refl _) _).setCell (Nat.le_refl _) _⟩
      exact HE3.out.imp (fun k (hk : W1.heap.size ≤ k) => (by omega : w.heap.size ≤ k)) ⟨by simp [World.setCell], fun k _ hk => (bk_other (by omega)).trans (bk_other (by omega))⟩)
    go_wp2
    refine bodyPost_ret (v := .agg #[.int .i64 pk, .slice a2 E.length c2]) (by simp [results, Tryd.results15, go_sem, *]) rfl ?_
    exact HE.out
end Go.Proofs.YtaaenhjhjclilabDoor
