/-
  judge.Check against the reference: walked.
-/
import Derived.Test.YtgbhaphgojlhaaaDoorRefLtr
import Derived.Test.YtgbhaphgojlhaaaDoorLetSameL
import Derived.Test.YtgbhaphgojlhaaaDoorLetLaws
namespace Go.Proofs.YtgbhaphgojlhaaaDoor
open Go.RowKit Go.Proofs

theorem jparse_len (l : List UInt8) : (parseM l).1.length ≤ 30 := by
  unfold parseM
  by_cases hb : 2000 < l.length
  · rw [if_pos hb]; simp
  · rw [if_neg hb]
    have h := parse_inv l.length l (Nat.le_refl _) 0 [] (by simp) (by simp)
    by_cases he : (parseR 0 [] l).2.2.2 = 0
    · exact (h.1 he).2.1
    · rw [(h.2 he).1]; simp
theorem judgeL_len (a b c d e : List UInt8) : (judgeL a b c d e).1.length ≤ 30 := by
  unfold judgeL
  split
  · simp
  · split
    · simp
    · exact jparse_len e
set_option maxHeartbeats 4000000 in
set_option maxRecDepth 100000 in
theorem judgeChecks_walk (w : World) (hm : maxLenCell w) (fl fd tl td tx : ByteArray) (h1 : fl.size ≤ 140737488355328) (h2 : fd.size ≤ 140737488355328) (h3 : tl.size ≤ 140737488355328) (h4 : td.size ≤ 140737488355328) (h5 : tx.size ≤ maxLen) :
    Calls Tryd.prog 7 #[.agg #[.string fl, .string fd, .string tl, .string td, .string tx]] w fun e w' => e = .returned (.bool true) ∧ Below w.heap.size w w' := by
  have HC := hid (fun W hW => jcheck_any fl fd tl td tx W h1 h2 h3 h4 h5 hW)
  have HR := hid (fun W => letterOf_any fl fd tl td tx W h1 h2 h3 h4 h5)
  have HM := hid hm
  obtain ⟨q, hq⟩ : ∃ q, q = judgeL fl.data.toList fd.data.toList tl.data.toList td.data.toList tx.data.toList := ⟨_, rfl⟩
  rw [← hq] at HC HR
  have hl : q.1.length ≤ 30 := by rw [hq]; exact judgeL_len _ _ _ _ _
  obtain ⟨fs, body, er⟩ := q
  clear hq h1 h2 h3 h4 h5 hm
  obtain ⟨W0, hW0⟩ : ∃ W0, W0 = w.alloc (.cells #[.string fl, .string fd, .string tl, .string td, .string tx] 43) := ⟨_, rfl⟩
  have HB0 := hid (show Below w.heap.size w W0 by rw [hW0]; exact (Below.refl _ _).alloc (Nat.le_refl _) _)
  have hH : W0.heap[w.heap.size]? = some (.cells #[.string fl, .string fd, .string tl, .string td, .string tx] 43) := by rw [hW0]; exact heap_alloc_new w _
  have HWE := hid hW0
  have g0 : W0.cell? ⟨w.heap.size, 0, none⟩ = some (.string fl) := by simp [World.cell?, hH]
  have g1 : W0.cell? ⟨w.heap.size, 1, none⟩ = some (.string fd) := by simp [World.cell?, hH]
  have g2 : W0.cell? ⟨w.heap.size, 2, none⟩ = some (.string tl) := by simp [World.cell?, hH]
  have g3 : W0.cell? ⟨w.heap.size, 3, none⟩ = some (.string td) := by simp [World.cell?, hH]
  have g4 : W0.cell? ⟨w.heap.size, 4, none⟩ = some (.string tx) := by simp [World.cell?, hH]
  clear hH hW0
  go_enter Tryd.func7, Tryd.ntmps7
  go_wp2_with fail
  rw [← HWE.out]
  refine (HC.out W0 (maxLenCell_below HM.out HB0.out)).mono ?_
  rintro e w1 ⟨a1, c1, rfl, hF1, hb1⟩
  simp only
  have HF1 := hid hF1
  have HN1 := hid (show Below w1.heap.size w1 (w1.alloc (.cells #[.slice a1 fs.length c1, .string (S body)] 46)) from (Below.refl _ _).alloc (Nat.le_refl _) _)
  have HB1 := hid ((HB0.out.trans (hb1.mono HB0.out.size)).trans (HN1.out.mono (HB0.out.trans (hb1.mono HB0.out.size)).size))
  have HBW := hid (hb1.trans (HN1.out.mono hb1.size))
  have k0 := wcell_next g0 HBW.out
  have k1 := wcell_next g1 HBW.out
  have k2 := wcell_next g2 HBW.out
  have k3 := wcell_next g3 HBW.out
  have k4 := wcell_next g4 HBW.out
  clear hF1 hb1 g0 g1 g2 g3 g4 HWE
  go_wp2_with fail
  refine (HR.out _).mono ?_
  rintro e w2 ⟨a2, c2, rfl, hF2, hb2⟩
  simp only
  have p0 : w2.cell? ⟨w1.heap.size, 0, none⟩ = some (.slice a1 fs.length c1) := wcell_next (by simp) hb2
  have p1 : w2.cell? ⟨w1.heap.size, 1, none⟩ = some (.string (S body)) := wcell_next (by simp) hb2
  have hz : w1.heap.size < w2.heap.size := World.block_lt_of_cell? w2 _ p0
  have HB2 := hid (HB1.out.trans (hb2.mono HB1.out.size))
  have HN2 := hid (show Below w2.heap.size w2 (w2.alloc (.cells #[.slice a2 fs.length c2, .string (S body)] 46)) from (Below.refl _ _).alloc (Nat.le_refl _) _)
  have HG1 := hid (((HF1.out.below HN1.out).below hb2).below HN2.out)
  have HG2 := hid (FieldsAt.below hF2 HN2.out)
  clear hF2 hb2 k0 k1 k2 k3 k4
  go_wp2_with fail
  refine (sameL_any a1 a2 c1 c2 fs (S body) _ HG1.out HG2.out (by omega)).mono ?_
  rintro e w3 ⟨rfl, hb3⟩
  simp only
  have HB3 := hid ((HB2.out.trans (HN2.out.mono HB2.out.size)).trans (hb3.mono (HB2.out.trans (HN2.out.mono HB2.out.size)).size))
  go_wp2
  go_ret
  exact ⟨by simp, HB3.out⟩
end Go.Proofs.YtgbhaphgojlhaaaDoor
