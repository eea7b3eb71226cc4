/-
  Tapes: Crash: the walk.
-/
import Derived.Test.YtkkkbggbeihbnaaDoorBkBz
namespace Go.Proofs.YtkkkbggbeihbnaaDoor
open Go.RowKit Go.Proofs

/-- How many bytes a crash leaves. -/
def leftN (n : Nat) (s keep : Int) : Nat := if keep < n - s then (s + keep).toNat else n
theorem leftN_le {n : Nat} {s keep : Int} : leftN n s keep ≤ n := by unfold leftN; split <;> omega
theorem leftN_ge {n : Nat} {s keep : Int} (hk : 0 ≤ keep) (hs : 0 ≤ s) (hn : s ≤ n) : s ≤ leftN n s keep := by unfold leftN; split <;> omega
/-- What Crash answers. -/
def crashP (w : World) (l : List UInt8) (s keep : Int) : Ending → World → Prop :=
  if mayN l.length s then (if keep < 0 then TpP w [] 0 6 else TpP w (l.take (leftN l.length s keep)) (leftN l.length s keep) 0) else TpP w [] 0 11
set_option maxHeartbeats 1000000 in
set_option maxRecDepth 100000 in
theorem crash_any (a : Option Addr) (c : Nat) (l : List UInt8) (s keep : Int) (Q : Nat → Prop) (w : World) (h : BysM Q w (.slice a l.length c) l) :
    Calls Tryd.prog 22 #[.agg #[.slice a l.length c, .int .i64 s], .int .i64 keep] w (crashP w l s keep) := by
  obtain ⟨W1, hW1⟩ : ∃ W1, W1 = (w.alloc (.cells #[.slice a l.length c, .int .i64 s] 49)).alloc (.cells #[.slice none 0 0, .int .i64 0] 49) := ⟨_, rfl⟩
  have HWE := bhid hW1
  have HB1 := bhid (show Below w.heap.size w W1 by rw [hW1]; exact tp_low2 _ _ _)
  have hp0 : W1.heap[w.heap.size]? = some (.cells #[.slice a l.length c, .int .i64 s] 49) := by rw [hW1]; exact (tp_new2 w _ _).1
  have hr0 : W1.heap[w.heap.size + 1]? = some (.cells #[.slice none 0 0, .int .i64 0] 49) := by rw [hW1]; exact (tp_new2 w _ _).2
  have HP := bhid hp0
  have HR := bhid hr0
  obtain ⟨x0, x1, _, _⟩ := bk_box2 hp0
  have HH := bhid (h.next HB1.out)
  unfold crashP
  cases hm : mayN l.length s with
  | false =>
    rw [if_neg (by simp)]
    have HM := bhid hm
    clear hm h hp0 hr0 hW1
    go_enter Tryd.func22, Tryd.ntmps22
    go_wp2_with fail
    rw [← HWE.out]
    refine (tmay_any a l.length c s W1).mono ?_
    rintro e w2 ⟨rfl, hb⟩
    rw [HM.out]
    obtain ⟨y0, y1, f0, f1⟩ := bk_box2 (bk_low hb HR.out)
    obtain ⟨z0, z1, _, _⟩ := bk_box2 (bk_put (u0 := .slice none 0 0) (u1 := .int .i64 0) (bk_low hb HR.out))
    have HE := bhid (TpP.refused w w2 11 (w.heap.size + 1) (Nat.le_succ _) (HB1.out.trans (hb.mono HB1.out.size)))
    clear hb
    go_wp2
    refine bodyPost_ret (v := .tuple #[.agg #[.slice none 0 0, .int .i64 0], .int .i64 11]) (by simp [results, Tryd.results22, go_sem, *]) rfl ?_
    exact HE.out
  | true =>
    rw [if_pos rfl]
    have HM := bhid hm
    unfold mayN at hm
    simp at hm
    obtain ⟨hn, hs0, hs1⟩ := hm
    by_cases hk : keep < 0
    · rw [if_pos hk]
      clear h hp0 hr0 hW1 hn hs0 hs1
      go_enter Tryd.func22, Tryd.ntmps22
      go_wp2_with fail
      rw [← HWE.out]
      refine (tmay_any a l.length c s W1).mono ?_
      rintro e w2 ⟨rfl, hb⟩
      rw [HM.out]
      obtain ⟨y0, y1, f0, f1⟩ := bk_box2 (bk_low hb HR.out)
      obtain ⟨z0, z1, _, _⟩ := bk_box2 (bk_put (u0 := .slice none 0 0) (u1 := .int .i64 0) (bk_low hb HR.out))
      have HE := bhid (TpP.refused w w2 6 (w.heap.size + 1) (Nat.le_succ _) (HB1.out.trans (hb.mono HB1.out.size)))
      clear hb
      go_wp2
      refine bodyPost_ret (v := .tuple #[.agg #[.slice none 0 0, .int .i64 0], .int .i64 6]) (by simp [results, Tryd.results22, go_sem, *]) rfl ?_
      exact HE.out
    · rw [if_neg hk]
      obtain ⟨t, ht⟩ : ∃ t, t = leftN l.length s keep := ⟨_, rfl⟩
      have htl : t ≤ l.length := by rw [ht]; exact leftN_le
      have HT0 := bhid (show (keep ≤ (l.length : Int) - s → s + keep = (t : Int)) ∧ ((l.length : Int) - s < keep → s + ((l.length : Int) - s) = (t : Int)) by
        rw [ht]
        unfold leftN
        constructor <;> intro hlt <;> split <;> omega)
      rw [← ht]
      have hcl : l.length ≤ c := by
        obtain ⟨a', c', e, h2, _⟩ := h.slice
        simp only [Value.slice.injEq] at e
        omega
      obtain ⟨d, hd⟩ : ∃ d, d = l.take t := ⟨_, rfl⟩
      have hdl : d.length = t := by rw [hd, List.length_take]; omega
      have HDL := bhid hdl
      have HC := bhid (fun (u : World) (hu : Below W1.heap.size W1 u) => clone_by a c d Q u (by rw [hdl, hd]; exact (HH.out.next hu).take htl) (by rw [hdl]; omega))
      rw [hdl] at HC
      rw [← hd]
      clear h hp0 hr0 hW1 ht hd hdl
      go_enter Tryd.func22, Tryd.ntmps22
      go_wp2_with fail
      rw [← HWE.out]
      refine (tmay_any a l.length c s W1).mono ?_
      rintro e w2 ⟨rfl, hb⟩
      rw [HM.out]
      have hP2 := bk_low hb HP.out
      have hR2 := bk_low hb HR.out
      obtain ⟨y0, y1, _, _⟩ := bk_box2 hP2
      have HB2 := bhid (HB1.out.trans (hb.mono HB1.out.size))
      have HC2 := bhid (fun (u : World) (hu : Below w2.heap.size w2 u) => HC.out u (hb.trans (hu.mono hb.size)))
      have HP2 := bhid hP2
      have HR2 := bhid hR2
      clear hb hP2 hR2 x0 x1 HC
      by_cases hlt : keep ≤ (l.length : Int) - s
      · have HT := bhid (HT0.out.1 hlt)
        go_wp2_with fail
        rw [HT.out]
        simp only [Int.toNat_natCast]
        refine (HC2.out w2 (Below.refl _ _)).mono ?_
        rintro e w3 ⟨a3, c3, rfl, hO3, hb3⟩
        obtain ⟨r0, r1, f0, f1⟩ := bk_box2 (bk_low hb3 HR2.out)
        obtain ⟨q0, q1, _, _⟩ := bk_box2 (bk_put (u0 := .slice a3 t c3) (u1 := .int .i64 t) (bk_low hb3 HR2.out))
        have HE := bhid (TpP.done (s := t) (p := w.heap.size + 1) (Nat.le_succ _) (Array.getElem?_eq_some_iff.1 HR2.out).1 HB2.out (show TpC w2 d (.returned (.slice a3 d.length c3)) w3 from ⟨a3, c3, rfl, hO3, hb3⟩))
        rw [HDL.out] at HE ⊢
        clear hO3 hb3
        go_wp2
        refine bodyPost_ret (v := .tuple #[.agg #[.slice a3 t c3, .int .i64 t], .int .i64 0]) (by simp [results, Tryd.results22, go_sem, *]) rfl ?_
        exact HE.out
      · have hlt' : (l.length : Int) - s < keep := by omega
        have HT := bhid (HT0.out.2 hlt')
        clear hlt
        go_wp2_with fail
        rw [HT.out]
        simp only [Int.toNat_natCast]
        refine (HC2.out w2 (Below.refl _ _)).mono ?_
        rintro e w3 ⟨a3, c3, rfl, hO3, hb3⟩
        obtain ⟨r0, r1, f0, f1⟩ := bk_box2 (bk_low hb3 HR2.out)
        obtain ⟨q0, q1, _, _⟩ := bk_box2 (bk_put (u0 := .slice a3 t c3) (u1 := .int .i64 t) (bk_low hb3 HR2.out))
        have HE := bhid (TpP.done (s := t) (p := w.heap.size + 1) (Nat.le_succ _) (Array.getElem?_eq_some_iff.1 HR2.out).1 HB2.out (show TpC w2 d (.returned (.slice a3 d.length c3)) w3 from ⟨a3, c3, rfl, hO3, hb3⟩))
        rw [HDL.out] at HE ⊢
        clear hO3 hb3
        go_wp2
        refine bodyPost_ret (v := .tuple #[.agg #[.slice a3 t c3, .int .i64 t], .int .i64 0]) (by simp [results, Tryd.results22, go_sem, *]) rfl ?_
        exact HE.out
end Go.Proofs.YtkkkbggbeihbnaaDoor
