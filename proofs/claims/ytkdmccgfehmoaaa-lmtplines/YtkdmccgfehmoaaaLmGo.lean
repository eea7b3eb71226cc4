/-
  What lmtp.goOnFrom does: the walk.
-/
import Derived.Test.YtkdmccgfehmoaaaLmGoal
namespace Go.Proofs.Ytkdmccgfehmoaaa
open Go.RowKit Go.Proofs

theorem own_low {w : World} {B b j : Nat} {v u : Value} {l : List Adr} (h : OwnL w B v l) (hb : b < B) : OwnL (w.setCell ⟨b, j, none⟩ u) B v l := by
  unfold OwnL at *
  refine ⟨h.1, ?_⟩
  rcases h.2 with h' | ⟨g, cap, cur, hv, hB, hg, hr⟩
  · exact .inl h'
  · exact .inr ⟨g, cap, cur, hv, hB, (Below.heap_setCell _ _ _ _ (show g ≠ b by omega)).trans hg, hr⟩
theorem own_from {w : World} {B B' : Nat} {v : Value} {l : List Adr} (h : OwnL w B v l) (hb : B' ≤ B) : OwnL w B' v l := by
  unfold OwnL at *
  refine ⟨h.1, ?_⟩
  rcases h.2 with h' | ⟨g, cap, cur, hv, hB, hg, hr⟩
  · exact .inl h'
  · exact .inr ⟨g, cap, cur, hv, by omega, hg, hr⟩
/-- What goOnFrom hands back. -/
def GoP (w : World) (s : Ses) (e : Ending) (w' : World) : Prop := ∃ v, e = .returned (.agg #[.int .i64 s.step, .string (S s.frm.1), .string (S s.frm.2), v, .string (S s.text), .bool s.large, .slice none 0 0]) ∧ OwnL w' w.heap.size v s.to ∧ Below w.heap.size w w'
theorem sev7 {W : World} {p : Nat} {u0 u1 u2 u3 u4 u5 u6 v0 v1 v2 v3 v4 v5 v6 : Value} {t : TypeId} (h : W.heap[p]? = some (.cells #[u0, u1, u2, u3, u4, u5, u6] t)) : (((((((W.setCell ⟨p, 0, none⟩ v0).setCell ⟨p, 1, none⟩ v1).setCell ⟨p, 2, none⟩ v2).setCell ⟨p, 3, none⟩ v3).setCell ⟨p, 4, none⟩ v4).setCell ⟨p, 5, none⟩ v5).setCell ⟨p, 6, none⟩ v6).heap[p]? = some (.cells #[v0, v1, v2, v3, v4, v5, v6] t) := by
  have := lm_put (j := 6) (u := v6) (six7 (v0 := v0) (v1 := v1) (v2 := v2) (v3 := v3) (v4 := v4) (v5 := v5) h)
  simp only [List.setIfInBounds_toArray, List.set_cons_succ, List.set_cons_zero] at this
  exact this
set_option maxHeartbeats 2000000 in
set_option maxRecDepth 100000 in
theorem goOnFrom_any (Q : Nat → Prop) (s : Ses) (v : Value) (w : World) (ha : AdrsM Q w v s.to) (hn : s.to.length ≤ 1000) :
    Calls Try.prog 17 #[sesV s v] w (GoP w s) := by
  obtain ⟨W1, hW1⟩ : ∃ W1, W1 = (w.alloc (.cells #[.int .i64 s.step, .string (S s.frm.1), .string (S s.frm.2), v, .string (S s.text), .bool s.large] 26)).alloc (.cells #[.int .i64 0, .string ⟨#[]⟩, .string ⟨#[]⟩, .slice none 0 0, .string ⟨#[]⟩, .bool false, .slice none 0 0] 43) := ⟨_, rfl⟩
  have HWE := hid hW1
  have hB1 : Below w.heap.size w W1 := by rw [hW1]; exact ((Below.refl _ _).alloc (Nat.le_refl _) _).alloc (by simp) _
  have HB1 := hid hB1
  have hX0 : W1.heap[w.heap.size]? = some (.cells #[.int .i64 s.step, .string (S s.frm.1), .string (S s.frm.2), v, .string (S s.text), .bool s.large] 26) := by rw [hW1]; exact heap_old _ (heap_alloc_new w _)
  have hX1 : W1.heap[w.heap.size + 1]? = some (.cells #[.int .i64 0, .string ⟨#[]⟩, .string ⟨#[]⟩, .slice none 0 0, .string ⟨#[]⟩, .bool false, .slice none 0 0] 43) := by rw [hW1]; exact heap_at _ (by simp)
  have hz : W1.heap.size = w.heap.size + 2 := by rw [hW1]; simp
  have HZ := hid hz
  have HC := hid (cloneA_any Q s.to v W1 (ha.next hB1) hn)
  have HX0 := hid hX0
  have HX1 := hid hX1
  obtain ⟨x0, x1, x2, x3, x4, x5⟩ := ses_box hX0
  clear hW1 hX0 hX1 hB1 ha hz
  unfold sesV
  go_enter Try.func17, Try.ntmps17
  go_upto_region 1 with fail
  rw [← HWE.out]
  go_wp2_with fail
  refine HC.out.mono ?_
  rintro e u ⟨v', rfl, ho, hb⟩
  obtain ⟨a', c', rfl⟩ := ho.slice
  have hY0 := lm_next hb HX0.out
  have hY1 := lm_next hb HX1.out
  obtain ⟨y0, y1, y2, y3, y4, y5⟩ := ses_box hY0
  have f3 := lm_frz hY0 3
  have hne : w.heap.size + 1 ≠ w.heap.size := by omega
  obtain ⟨U, hU⟩ : ∃ U, U = u.setCell ⟨w.heap.size, 3, none⟩ (.slice a' s.to.length c') := ⟨_, rfl⟩
  have HUE := hid hU
  have hV0 := lm_put (j := 3) (u := (.slice a' s.to.length c')) hY0
  have hV1 : (u.setCell ⟨w.heap.size, 3, none⟩ (.slice a' s.to.length c')).heap[w.heap.size + 1]? = _ := (Below.heap_setCell _ _ _ _ hne).trans hY1
  simp only [List.setIfInBounds_toArray, List.set_cons_zero, List.set_cons_succ] at hV0
  rw [← hU] at hV0 hV1
  have HV0 := hid hV0
  have HV1 := hid hV1
  have HF := hid (show GoP w s (.returned (.agg #[.int .i64 s.step, .string (S s.frm.1), .string (S s.frm.2), (.slice a' s.to.length c'), .string (S s.text), .bool s.large, .slice none 0 0])) (((((((U.setCell ⟨w.heap.size + 1, 0, none⟩ (.int .i64 s.step)).setCell ⟨w.heap.size + 1, 1, none⟩ (.string (S s.frm.1))).setCell ⟨w.heap.size + 1, 2, none⟩ (.string (S s.frm.2))).setCell ⟨w.heap.size + 1, 3, none⟩ (.slice a' s.to.length c')).setCell ⟨w.heap.size + 1, 4, none⟩ (.string (S s.text))).setCell ⟨w.heap.size + 1, 5, none⟩ (.bool s.large)).setCell ⟨w.heap.size + 1, 6, none⟩ (.slice none 0 0)) by
    have hz := HZ.out
    have h1 : w.heap.size < W1.heap.size := by omega
    have h2 : w.heap.size + 1 < W1.heap.size := by omega
    have hbU : Below w.heap.size w U := by rw [hU]; exact (HB1.out.trans (hb.mono HB1.out.size)).setCell (p := ⟨w.heap.size, 3, none⟩) (Nat.le_refl _) _
    refine ⟨(.slice a' s.to.length c'), rfl, own_from (own_low (own_low (own_low (own_low (own_low (own_low (own_low (by rw [hU]; exact own_low ho h1) h2) h2) h2) h2) h2) h2) h2) (by omega), ?_⟩
    exact (hbU.trans (low7 U _ _ _ _ _ _ (Nat.le_succ _))).setCell (p := ⟨w.heap.size + 1, 6, none⟩) (Nat.le_succ _) _)
  clear hY0 hY1 hV0 hV1 ho hb hU
  go_upto_region 2 with fail
  rw [← HUE.out]
  clear y0 y1 y2 y3 y4 y5 f3 x0 x1 x2 x3 x4 x5
  obtain ⟨p0, p1, p2, p3, p4, p5⟩ := ses_box HV0.out
  obtain ⟨⟨q0, q1, q2, q3, q4, q5, q6⟩, hgz⟩ := lm_box7 HV1.out
  have g0 := hgz 0
  have g1 := hgz 1
  have g2 := hgz 2
  have g3 := hgz 3
  have g4 := hgz 4
  have g5 := hgz 5
  have g6 := hgz 6
  have hR := sev7 (v0 := .int .i64 s.step) (v1 := .string (S s.frm.1)) (v2 := .string (S s.frm.2)) (v3 := (.slice a' s.to.length c')) (v4 := .string (S s.text)) (v5 := .bool s.large) (v6 := .slice none 0 0) HV1.out
  have HR := hid hR
  clear hR hgz
  go_wp2
  obtain ⟨⟨r0, r1, r2, r3, r4, r5, r6⟩, _⟩ := lm_box7 HR.out
  clear p0 p1 p2 p3 p4 p5 q0 q1 q2 q3 q4 q5 q6 g0 g1 g2 g3 g4 g5 g6
  refine bodyPost_ret (v := .agg #[.int .i64 s.step, .string (S s.frm.1), .string (S s.frm.2), (.slice a' s.to.length c'), .string (S s.text), .bool s.large, .slice none 0 0]) (by simp [results, Try.results17, go_sem, *]) rfl ?_
  exact HF.out
end Go.Proofs.Ytkdmccgfehmoaaa
