/-
  Tapes: Sync and Crash: the walks.
-/
import Derived.Test.YtkkkbggbeihbnaaDoorBkBz
namespace Go.Proofs.YtkkkbggbeihbnaaDoor
open Go.RowKit Go.Proofs

set_option maxHeartbeats 1000000 in
set_option maxRecDepth 100000 in
theorem sync_any (a : Option Addr) (c : Nat) (l : List UInt8) (s : Int) (Q : Nat → Prop) (w : World) (h : BysM Q w (.slice a l.length c) l) :
    Calls Tryd.prog 20 #[.agg #[.slice a l.length c, .int .i64 s]] w (if mayN l.length s then TpP w l l.length 0 else TpP w [] 0 11) := by
  obtain ⟨W1, hW1⟩ : ∃ W1, W1 = (w.alloc (.cells #[.slice a l.length c, .int .i64 s] 49)).alloc (.cells #[.slice none 0 0, .int .i64 0] 49) := ⟨_, rfl⟩
  have HWE := bhid hW1
  have HB1 := bhid (show Below w.heap.size w W1 by rw [hW1]; exact tp_low2 _ _ _)
  have hp0 : W1.heap[w.heap.size]? = some (.cells #[.slice a l.length c, .int .i64 s] 49) := by rw [hW1]; exact (tp_new2 w _ _).1
  have hr0 : W1.heap[w.heap.size + 1]? = some (.cells #[.slice none 0 0, .int .i64 0] 49) := by rw [hW1]; exact (tp_new2 w _ _).2
  have HP := bhid hp0
  have HR := bhid hr0
  obtain ⟨x0, x1, _, _⟩ := bk_box2 hp0
  have HH := bhid (h.next HB1.out)
  cases hm : mayN l.length s with
  | false =>
    rw [if_neg (by simp)]
    have HM := bhid hm
    clear hm h hp0 hr0 hW1
    go_enter Tryd.func20, Tryd.ntmps20
    go_wp2_with fail
    rw [← HWE.out]
    refine (tmay_any a l.length c s W1).mono ?_
    rintro e w2 ⟨rfl, hb⟩
    rw [HM.out]
    obtain ⟨y0, y1, f0, f1⟩ := bk_box2 (bk_low hb HR.out)
    obtain ⟨z0, z1, _, _⟩ := bk_box2 (bk_put (u0 := .slice none 0 0) (u1 := .int .i64 0) (bk_low hb HR.out))
    have HE := bhid (TpP.refused w w2 11 (w.heap.size + 1) (Nat.le_succ _) (HB1.out.trans (hb.mono HB1.out.size)))
    clear hb
    go_wp2
    refine bodyPost_ret (v := .tuple #[.agg #[.slice none 0 0, .int .i64 0], .int .i64 11]) (by simp [results, Tryd.results20, go_sem, *]) rfl ?_
    exact HE.out
  | true =>
    rw [if_pos rfl]
    have HM := bhid hm
    have hl : l.length ≤ 140737488355328 := by
      unfold mayN at hm
      simp at hm
      omega
    clear hm h hp0 hr0 hW1
    go_enter Tryd.func20, Tryd.ntmps20
    go_wp2_with fail
    rw [← HWE.out]
    refine (tmay_any a l.length c s W1).mono ?_
    rintro e w2 ⟨rfl, hb⟩
    rw [HM.out]
    have hP2 := bk_low hb HP.out
    have hR2 := bk_low hb HR.out
    obtain ⟨y0, y1, _, _⟩ := bk_box2 hP2
    have HB2 := bhid (HB1.out.trans (hb.mono HB1.out.size))
    have HC := bhid (fun (u : World) (hu : Below w2.heap.size w2 u) => clone_by a c l Q u ((HH.out.next hb).next hu) hl)
    have HP2 := bhid hP2
    have HR2 := bhid hR2
    clear hb hP2 hR2 x0 x1 hl
    go_upto_region 3 with fail
    go_region_held3 (fun w' => w'.cell? ⟨w.heap.size, 0, none⟩ = some (.slice a l.length c) ∧ w'.cell? ⟨w.heap.size, 1, none⟩ = some (.int .i64 s)) (go_keep)
      (first
        | (go_at_call 34
           with_reducible refine (HC.out w2.drew (Below.refl _ _).drew).mono ?_
           rintro e w3 ⟨a3, c3, rfl, hO3, hb3⟩
           have hb3' : Below w2.heap.size w2 w3 := (Below.refl _ _).drew.trans hb3
           obtain ⟨z0, z1, _, _⟩ := bk_box2 (bk_low hb3' HP2.out)
           obtain ⟨r0, r1, f0, f1⟩ := bk_box2 (bk_low hb3' HR2.out)
           obtain ⟨q0, q1, _, _⟩ := bk_box2 (bk_put (u0 := .slice a3 l.length c3) (u1 := .int .i64 l.length) (bk_low hb3' HR2.out))
           have HE := bhid (TpP.done (s := l.length) (p := w.heap.size + 1) (Nat.le_succ _) (Array.getElem?_eq_some_iff.1 HR2.out).1 HB2.out (show TpC w2 l (.returned (.slice a3 l.length c3)) w3 from ⟨a3, c3, rfl, hO3, hb3'⟩))
           clear hO3 hb3 hb3')
        | fail)
    all_goals
      go_wp2
      refine bodyPost_ret (v := .tuple #[.agg #[.slice a3 l.length c3, .int .i64 l.length], .int .i64 0]) (by simp [results, Tryd.results20, go_sem, *]) rfl ?_
      exact HE.out
end Go.Proofs.YtkkkbggbeihbnaaDoor
