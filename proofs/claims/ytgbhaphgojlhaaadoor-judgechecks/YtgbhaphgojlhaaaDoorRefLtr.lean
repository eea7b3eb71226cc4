/-
  What the reference's LetterOf does: the walk.
-/
import Derived.Test.YtgbhaphgojlhaaaDoorJudChk
import Derived.Test.YtgbhaphgojlhaaaDoorRefWho
import Derived.Test.YtgbhaphgojlhaaaDoorRefMsg
namespace Go.Proofs.YtgbhaphgojlhaaaDoor
open Go.RowKit Go.Proofs

set_option maxHeartbeats 4000000 in
set_option maxRecDepth 100000 in
theorem letterOf_any (fl fd tl td tx : ByteArray) (w : World) (h1 : fl.size ≤ 140737488355328) (h2 : fd.size ≤ 140737488355328) (h3 : tl.size ≤ 140737488355328) (h4 : td.size ≤ 140737488355328) (h5 : tx.size ≤ maxLen) :
    Calls Tryd.prog 16 #[.agg #[.string fl, .string fd, .string tl, .string td, .string tx]] w (MsgR w (judgeL fl.data.toList fd.data.toList tl.data.toList td.data.toList tx.data.toList)) := by
  have H1 := hid h1
  have H2 := hid h2
  have H3 := hid h3
  have H4 := hid h4
  have H5 := hid h5
  obtain ⟨q, hq⟩ : ∃ q, q = judgeL fl.data.toList fd.data.toList tl.data.toList td.data.toList tx.data.toList := ⟨_, rfl⟩
  rw [← hq]
  unfold judgeL at hq
  have HQ := hid hq
  clear h1 h2 h3 h4 h5 hq
  obtain ⟨W0, hW0⟩ : ∃ W0, W0 = (w.alloc (.cells #[.string fl, .string fd, .string tl, .string td, .string tx] 43)).alloc (.cells #[.slice none 0 0, .string ⟨#[]⟩] 46) := ⟨_, rfl⟩
  have HB0 := hid (show Below w.heap.size w W0 by rw [hW0]; exact ((Below.refl _ _).alloc (Nat.le_refl _) _).alloc (by simp) _)
  have hH : W0.heap[w.heap.size]? = some (.cells #[.string fl, .string fd, .string tl, .string td, .string tx] 43) := by rw [hW0]; exact jheap_old _ (heap_alloc_new w _)
  have HR0 := hid (show W0.heap[w.heap.size + 1]? = some (.cells #[.slice none 0 0, .string ⟨#[]⟩] 46) by rw [hW0]; have := heap_alloc_new (w.alloc (.cells #[.string fl, .string fd, .string tl, .string td, .string tx] 43)) (.cells #[.slice none 0 0, .string ⟨#[]⟩] 46); simpa using this)
  have hs0 : W0.heap.size = w.heap.size + 2 := by rw [hW0]; simp
  have HWE := hid hW0
  have g2 : W0.cell? ⟨w.heap.size, 2, none⟩ = some (.string tl) := by simp [World.cell?, hH]
  have g3 : W0.cell? ⟨w.heap.size, 3, none⟩ = some (.string td) := by simp [World.cell?, hH]
  have g4 : W0.cell? ⟨w.heap.size, 4, none⟩ = some (.string tx) := by simp [World.cell?, hH]
  clear hH hW0
  go_enter Tryd.func16, Tryd.ntmps16
  go_wp2_with fail
  rw [← HWE.out]
  refine (addressFault_any fl fd W0 H1.out H2.out).mono ?_
  rintro e w1 ⟨rfl, hb1⟩
  simp only
  have HB1 := hid (HB0.out.trans (hb1.mono HB0.out.size))
  have HR1 := hid (low_heap hb1 HR0.out (by omega))
  have hs1 := hb1.size
  have k2 := wcell_next g2 hb1
  have k3 := wcell_next g3 hb1
  have k4 := wcell_next g4 hb1
  clear hb1 g2 g3 g4 HWE
  obtain ⟨x, hx⟩ : ∃ x, x = checkA fl.data.toList fd.data.toList := ⟨_, rfl⟩
  rw [← hx]
  rw [← hx] at HQ
  clear hx
  by_cases hx : x = 0
  · rw [if_neg (by simpa using hx)] at HQ
    subst hx
    go_wp2_with fail
    refine (addressFault_any tl td w1 H3.out H4.out).mono ?_
    rintro e w2 ⟨rfl, hb2⟩
    simp only
    have HB2 := hid (HB1.out.trans (hb2.mono HB1.out.size))
    have HR2 := hid (low_heap hb2 HR1.out (by omega))
    have hs2 := hb2.size
    have d4 := wcell_next k4 hb2
    clear hb2 k2 k3 k4
    obtain ⟨y, hy⟩ : ∃ y, y = checkA tl.data.toList td.data.toList := ⟨_, rfl⟩
    rw [← hy]
    rw [← hy] at HQ
    clear hy
    by_cases hy : y = 0
    · rw [if_neg (by simpa using hy)] at HQ
      subst hy
      go_wp2_with fail
      refine (messageOf_any tx w2 H5.out).mono ?_
      intro e w3 h3
      obtain ⟨P, hP⟩ : ∃ P, P = parseM tx.data.toList := ⟨_, rfl⟩
      rw [← hP] at h3
      rw [← hP] at HQ
      clear hP
      obtain ⟨fs, body, p, er⟩ := P
      obtain ⟨a3, c3, he3, hF, hb3⟩ := h3
      have he3' : e = .returned (.tuple #[.agg #[.slice a3 fs.length c3, .string (S body)], .int .i64 p, .int .i64 er]) := he3
      subst he3'
      clear he3
      simp only
      have HB3 := hid (HB2.out.trans (hb3.mono HB2.out.size))
      have HF := hid hF
      have HR3 := hid (low_heap hb3 HR2.out (by omega))
      have HR4 := hid (jheap_old (.cells #[.slice a3 fs.length c3, .string (S body)] 46) HR3.out)
      have HA4 := hid (show Below w3.heap.size w3 (w3.alloc (.cells #[.slice a3 fs.length c3, .string (S body)] 46)) from (Below.refl _ _).alloc (Nat.le_refl _) _)
      obtain ⟨r0, r1, f0, f1⟩ := box2 HR4.out
      clear hb3 hF
      have HE := hid (show MsgR w q (.returned (.tuple #[.agg #[.slice a3 fs.length c3, .string (S body)], .int .i64 er])) (((w3.alloc (.cells #[.slice a3 fs.length c3, .string (S body)] 46)).setCell ⟨w.heap.size + 1, 0, none⟩ (.slice a3 fs.length c3)).setCell ⟨w.heap.size + 1, 1, none⟩ (.string (S body))) by
        rw [HQ.out]
        exact ⟨a3, c3, rfl, fields_box (HF.out.below HA4.out) HR4.out _ _, ((HB3.out.trans (HA4.out.mono HB3.out.size)).setCell (by simp) _).setCell (by simp) _⟩)
      go_wp2
      refine bodyPost_ret (v := .tuple #[.agg #[.slice a3 fs.length c3, .string (S body)], .int .i64 er]) (by simp [results, Tryd.results16, go_sem, *]) rfl ?_
      exact HE.out
    · rw [if_pos (by simpa using hy)] at HQ
      obtain ⟨r0, r1, f0, f1⟩ := box2 HR2.out
      go_wp2
      refine bodyPost_ret (v := .tuple #[.agg #[.slice none 0 0, .string ⟨#[]⟩], .int .i64 y]) (by simp [results, Tryd.results16, go_sem, *]) rfl ?_
      exact MsgR.bad HQ.out ((HB2.out.setCell (by simp) _).setCell (by simp) _)
  · rw [if_pos (by simpa using hx)] at HQ
    obtain ⟨r0, r1, f0, f1⟩ := box2 HR1.out
    go_wp2
    refine bodyPost_ret (v := .tuple #[.agg #[.slice none 0 0, .string ⟨#[]⟩], .int .i64 x]) (by simp [results, Tryd.results16, go_sem, *]) rfl ?_
    exact MsgR.bad HQ.out ((HB1.out.setCell (by simp) _).setCell (by simp) _)
end Go.Proofs.YtgbhaphgojlhaaaDoor
