/-
  LmtpChecks: the walk.
-/
import Derived.Test.YtkdmccgfehmoaaaRefSef
import Derived.Test.YtkdmccgfehmoaaaLmLn
namespace Go.Proofs.Ytkdmccgfehmoaaa
open Go.RowKit Go.Proofs

/-- What sessions hands back: a copy. -/
def CoS (w : World) (s : Ses) (e : Ending) (w' : World) : Prop := ∃ v, e = .returned (sesV s v) ∧ AdrsM anyB w' v s.to ∧ Roomy v ∧ Below w.heap.size w w'
theorem roomy_nil : Roomy (.slice none 0 0) := fun a n c h => by cases h; exact Nat.le_refl _
theorem adrs_nil (w : World) (a : Option Addr) (c : Nat) : AdrsM anyB w (.slice a 0 c) [] := ⟨a, c, rfl, by simp, fun i x h => by simp at h⟩
set_option maxHeartbeats 1000000 in
set_option maxRecDepth 100000 in
theorem sessions_any (s : Ses) (a : Option Addr) (k : Nat) (w : World) (h : AdrsM anyB w (.slice a s.to.length k) s.to) (hl : s.to.length ≤ 4398046511104) :
    Calls Try.prog 6 #[sesV s (.slice a s.to.length k)] w (CoS w s) := by
  obtain ⟨i0, hi, hz0, hz1, hz2⟩ := info_parts infoAdr
  obtain ⟨st, fr, tos, tx, lg⟩ := s
  simp only at h hl ⊢
  unfold sesV
  by_cases h0 : tos = []
  · subst h0
    clear h hl
    cases a
    all_goals
      go_enter Try.func6, Try.ntmps6
      go_wp2
      refine bodyPost_ret (v := .agg #[.int .i64 st, .string (S fr.1), .string (S fr.2), .slice none 0 0, .string (S tx), .bool lg]) (by simp [results, Try.results6, go_sem, *]) rfl ?_
      refine ⟨.slice none 0 0, rfl, adrs_nil _ _ _, roomy_nil, ?_⟩
      repeat' first | refine Below.setCell ?_ (by simp) _ | refine Below.alloc ?_ (by simp) _ | exact Below.refl _ _
  · have hpos : 0 < tos.length := List.length_pos_iff.2 h0
    obtain ⟨W1, hW1⟩ : ∃ W1, W1 = (w.alloc (.cells #[.int .i64 st, .string (S fr.1), .string (S fr.2), .slice a tos.length k, .string (S tx), .bool lg] 26)).alloc (.cells #[.int .i64 0, .string ⟨#[]⟩, .string ⟨#[]⟩, .slice none 0 0, .string ⟨#[]⟩, .bool false] 26) := ⟨_, rfl⟩
    have HWE := hid hW1
    have hB1 : Below w.heap.size w W1 := by rw [hW1]; exact ((Below.refl _ _).alloc (Nat.le_refl _) _).alloc (by simp) _
    have hs1 : W1.heap.size = w.heap.size + 2 := by rw [hW1]; simp
    have hX0 : W1.heap[w.heap.size]? = some (.cells #[.int .i64 st, .string (S fr.1), .string (S fr.2), .slice a tos.length k, .string (S tx), .bool lg] 26) := by rw [hW1]; exact heap_old _ (heap_alloc_new w _)
    have hX1 : W1.heap[w.heap.size + 1]? = some (.cells #[.int .i64 0, .string ⟨#[]⟩, .string ⟨#[]⟩, .slice none 0 0, .string ⟨#[]⟩, .bool false] 26) := by rw [hW1]; exact heap_at _ (by simp)
    obtain ⟨ab, ao, rfl⟩ : ∃ ab ao, a = some ⟨ab, ao, none⟩ := by
      cases tos with
      | nil => exact absurd rfl h0
      | cons x r => obtain ⟨b, o, e, _⟩ := adr_get h (i := 0) (x := x) rfl; exact ⟨_, _, e⟩
    have HC := hid (cellsL_lies (h.next hB1))
    have H1 := hid (adr_one tos)
    have HL := hid (cellsL_length tos)
    have HB1 := hid hB1
    have HX0 := hid hX0
    have HX1 := hid hX1
    have HS1 := hid hs1
    clear h hW1 hB1 hX0 hX1 hs1 h0
    go_enter Try.func6, Try.ntmps6
    go_upto_region 1 with fail
    rw [← HWE.out]
    obtain ⟨x0, x1, x2, x3, x4, x5⟩ := ses_box HX0.out
    go_wp2_with (first | (at_builtin; refine wpList_append_lies _ rfl _ _ 24 rfl (w.heap.size + 2) 23 i0 _ 2 32 Try.underlying24 hi hz0 hz1 hz2 rfl (by decide) (.slice none 0 0) 0 [] rfl (World.ownsRow_nil _ _ _ _) ⟨ab, ao, none⟩ tos.length k (cellsL tos) rfl HL.out HC.out H1.out hpos ?k3 ?k4 ?k5 _ rfl ?_) | fail)
    case k3 => unfold maxLen; omega
    case k4 => omega
    case k5 => rw [HS1.out]; exact Nat.le_refl _
    intro g cap w3 hown hgrow hat hlt
    have HG := hid (show OwnL w3 (w.heap.size + 2) (.slice (some ⟨g, 0, none⟩) tos.length cap) tos by unfold OwnL; simpa using hown)
    have HB3 := hid (show Below w.heap.size w w3 from HB1.out.grown hgrow HB1.out.size (fun j hj => by cases hj))
    have hY0 := (hgrow.block w.heap.size (by rw [HS1.out]; omega) (by intro e; cases e)).trans HX0.out
    have hY1 := (hgrow.block (w.heap.size + 1) (by rw [HS1.out]; omega) (by intro e; cases e)).trans HX1.out
    clear hown hgrow hat x0 x1 x2 x3 x4 x5
    have hZ0 := lm_put (j := 3) (u := .slice (some ⟨g, 0, none⟩) tos.length cap) hY0
    simp only [List.setIfInBounds_toArray, List.set_cons_zero, List.set_cons_succ] at hZ0
    have hZ1 : (w3.setCell ⟨w.heap.size, 3, none⟩ (.slice (some ⟨g, 0, none⟩) tos.length cap)).heap[w.heap.size + 1]? = _ := (Below.heap_setCell _ _ _ _ (show w.heap.size + 1 ≠ w.heap.size by omega)).trans hY1
    obtain ⟨U, hU⟩ : ∃ U, U = w3.setCell ⟨w.heap.size, 3, none⟩ (.slice (some ⟨g, 0, none⟩) tos.length cap) := ⟨_, rfl⟩
    have HUE := hid hU
    rw [← hU] at hZ0 hZ1
    have HZ0 := hid hZ0
    have HZ1 := hid hZ1
    have HGU := hid (show OwnL U (w.heap.size + 2) (.slice (some ⟨g, 0, none⟩) tos.length cap) tos by rw [hU]; exact own_low HG.out (by omega))
    have HBU := hid (show Below w.heap.size w U by rw [hU]; exact HB3.out.setCell (p := ⟨w.heap.size, 3, none⟩) (Nat.le_refl _) _)
    obtain ⟨y0, y1, y2, y3, y4, y5⟩ := ses_box hY0
    have f3 := lm_frz hY0 3
    clear hY0 hY1 hZ0 hZ1 hU hlt
    go_upto_region 2 with fail
    rw [← HUE.out]
    clear y0 y1 y2 y3 y4 y5 f3
    obtain ⟨p0, p1, p2, p3, p4, p5⟩ := ses_box HZ0.out
    obtain ⟨q0, q1, q2, q3, q4, q5⟩ := ses_box HZ1.out
    obtain ⟨f0, f1, f2, f3, f4, f5⟩ := ses_frz HZ1.out
    go_wp2
    obtain ⟨r0, r1, r2, r3, r4, r5⟩ := ses_box (six_put' (v0 := .int .i64 st) (v1 := .string (S fr.1)) (v2 := .string (S fr.2)) (v3 := .slice (some ⟨g, 0, none⟩) tos.length cap) (v4 := .string (S tx)) (v5 := .bool lg) HZ1.out)
    clear p0 p1 p2 p3 p4 p5 q0 q1 q2 q3 q4 q5 f0 f1 f2 f3 f4 f5
    refine bodyPost_ret (v := .agg #[.int .i64 st, .string (S fr.1), .string (S fr.2), .slice (some ⟨g, 0, none⟩) tos.length cap, .string (S tx), .bool lg]) (by simp [results, Try.results6, go_sem, *]) rfl ?_
    have h1 : w.heap.size + 1 < w.heap.size + 2 := by omega
    have ho := own_low (j := 5) (u := .bool lg) (own_low (j := 4) (u := .string (S tx)) (own_low (j := 3) (u := .slice (some ⟨g, 0, none⟩) tos.length cap) (own_low (j := 2) (u := .string (S fr.2)) (own_low (j := 1) (u := .string (S fr.1)) (own_low (j := 0) (u := .int .i64 st) HGU.out h1) h1) h1) h1) h1) h1
    exact ⟨_, rfl, AdrsM.any (ho.row (by unfold maxLen; omega)), own_roomy ho, HBU.out.trans (low7 U _ _ _ _ _ _ (Nat.le_succ _))⟩
set_option maxHeartbeats 1000000 in
set_option maxRecDepth 100000 in
theorem lmtpChecks_walk (s : Ses) (a : Option Addr) (k : Nat) (w : World) (h : AdrsM anyB w (.slice a s.to.length k) s.to) (hr : s.to.length ≤ k) (hl : s.to.length ≤ 4398046511104) (hf : Fit s) :
    Calls Try.prog 3 #[sesV s (.slice a s.to.length k)] w fun e w' => e = .returned (.bool true) ∧ Below w.heap.size w w' := by
  obtain ⟨W0, hW0⟩ : ∃ W0, W0 = w.alloc (.cells #[.int .i64 s.step, .string (S s.frm.1), .string (S s.frm.2), .slice a s.to.length k, .string (S s.text), .bool s.large] 26) := ⟨_, rfl⟩
  have HWE := hid hW0
  have HB := hid (show Below w.heap.size w W0 by rw [hW0]; exact (Below.refl _ _).alloc (Nat.le_refl _) _)
  have HH := hid (show W0.heap[w.heap.size]? = some (.cells #[.int .i64 s.step, .string (S s.frm.1), .string (S s.frm.2), .slice a s.to.length k, .string (S s.text), .bool s.large] 26) by rw [hW0]; exact heap_alloc_new w _)
  have HL := hid (h.next HB.out)
  have HC := hid (sessions_any s a k W0 HL.out hl)
  have HF := hid hf
  have HRR := hid (show Roomy (.slice a s.to.length k) from fun _ _ _ e => by cases e; exact hr)
  unfold sesV at HC ⊢
  clear h hW0 hl hf hr
  obtain ⟨x0, x1, x2, x3, x4, x5⟩ := ses_box HH.out
  go_enter Try.func3, Try.ntmps3
  go_upto_region 1 with fail
  rw [← HWE.out]
  go_wp2_with fail
  refine HC.out.mono ?_
  rintro e w1 ⟨v, rfl, hv, hvr, hb1⟩
  have HX := hid (lmCheck_any anyB s v w1 HF.out hvr hv)
  have HB1 := hid hb1
  clear hb1 hv hvr
  go_wp2_with fail
  refine HX.out.mono ?_
  rintro e w2 ⟨rfl, hb2⟩
  obtain ⟨R, hR⟩ : ∃ R : Int, R = if mayS s = true then 0 else 11 := ⟨_, rfl⟩
  rw [← hR]
  have hb02 : Below W0.heap.size W0 w2 := HB1.out.trans (hb2.mono HB1.out.size)
  have y0 := wcell_next x0 hb02
  have y1 := wcell_next x1 hb02
  have y2 := wcell_next x2 hb02
  have y3 := wcell_next x3 hb02
  have y4 := wcell_next x4 hb02
  have y5 := wcell_next x5 hb02
  have HX2 := hid (sesFault_any anyB s (.slice a s.to.length k) w2 HF.out HRR.out (HL.out.next hb02))
  rw [← hR] at HX2
  unfold sesV at HX2
  have HB2 := hid (HB.out.trans (hb02.mono HB.out.size))
  clear hb2 hb02 hR x0 x1 x2 x3 x4 x5
  go_wp2_with fail
  refine HX2.out.mono ?_
  rintro e w3 ⟨rfl, hb3⟩
  have HB3 := hid (HB2.out.trans (hb3.mono HB2.out.size))
  clear hb3
  go_wp2
  go_ret
  exact ⟨ret_bool (by simp), HB3.out⟩
end Go.Proofs.Ytkdmccgfehmoaaa
