/-
  What is parsed may be, and is shown to be parsed the same: walked.
-/
import Derived.Test.YtpkfafglpilkoaaDoorLetCard
import Derived.Test.YtpkfafglpilkoaaDoorLetShow
import Derived.Test.YtpkfafglpilkoaaDoorLetParseX
import Derived.Test.YtpkfafglpilkoaaDoorLetSameK
import Derived.Test.YtpkfafglpilkoaaDoorLetLaws
namespace Go.Proofs.YtpkfafglpilkoaaDoor
open Go.ChangeShapes Go.WideShapes Go.ChangeAt Go.RowKit

/-- What Parse hands back of a text that is not refused may be, but for its length. -/
theorem parsed_may {l : List UInt8} (h : (parseM l).2.2.2 = 0) : (∀ f ∈ (parseM l).1, mayF f = true) ∧ (parseM l).1.length ≤ 30 ∧ (parseM l).2.2.1 = 0 ∧ Mild (parseM l).1 (S (parseM l).2.1) := by
  unfold parseM at h ⊢
  by_cases hb : 2000 < l.length
  · rw [if_pos hb] at h; cases h
  · rw [if_neg hb] at h ⊢
    obtain ⟨h1, h2, h3⟩ := (parse_inv l.length l (Nat.le_refl _) 0 [] (by simp) (by simp)).1 h
    obtain ⟨h4, h5⟩ := parse_size 2000 l.length l (Nat.le_refl _) 0 [] (by omega) (by simp)
    exact ⟨h1, h2, h3, by omega, by rw [size_S]; omega, fun f hf => by have := h4 f hf; omega⟩
theorem parsed_bad {l : List UInt8} (h : (parseM l).2.2.2 ≠ 0) : (parseM l).1 = [] ∧ (parseM l).2.1 = [] ∧ 0 ≤ (parseM l).2.2.1 := by
  unfold parseM at h ⊢
  by_cases hb : 2000 < l.length
  · rw [if_pos hb] at h ⊢; exact ⟨rfl, rfl, Int.le_refl _⟩
  · rw [if_neg hb] at h ⊢
    exact (parse_inv l.length l (Nat.le_refl _) 0 [] (by simp) (by simp)).2 h
theorem parse_shown {fs : List F} {body : List UInt8} (h : faultM fs body = 0) : parseM (textM fs body) = (fs, body, 0, 0) := by
  obtain ⟨h1, h2, h3⟩ := fault_few h
  unfold parseM
  rw [length_textM, if_neg (by omega)]
  exact parse_text h2 h1
theorem fault_two {fs : List F} {body : List UInt8} (h1 : ∀ f ∈ fs, mayF f = true) (h2 : fs.length ≤ 30) : faultM fs body = 1 ∨ faultM fs body = 0 := by
  unfold faultM
  rw [if_neg (by omega), if_neg (by simpa using h1)]
  by_cases h : 2000 < 2 + body.length + sumF fs
  · rw [if_pos h]; exact .inl rfl
  · rw [if_neg h]; exact .inr rfl
theorem parse_empty : parseM [] = ([], [], 0, 4) := by
  unfold parseM
  rw [if_neg (by simp), parse_short hasEnd_nil]

/-- Parse of a text whose answer is known. -/
theorem parse_is (s : ByteArray) (fs : List F) (body : List UInt8) (p e : Int) (h : parseM s.data.toList = (fs, body, p, e)) (w : World) (hs : s.size ≤ maxLen) (hm : maxLenCell w) :
    Calls Tryd.prog 15 #[.string s] w fun x w' => ∃ a c, x = .returned (.tuple #[.agg #[.slice a fs.length c, .string (S body)], .int .i64 p, .int .i64 e]) ∧ FieldsAt w' a fs ∧ Below w.heap.size w w' := by
  have := parse_any s w hs hm
  rw [h] at this
  exact this

set_option maxHeartbeats 4000000 in
set_option maxRecDepth 100000 in
theorem letterFixed_walk (w : World) (hm : maxLenCell w) (s : ByteArray) (hs : s.size ≤ maxLen) :
    Calls Tryd.prog 8 #[.string s] w fun e w' => e = .returned (.bool true) ∧ Below w.heap.size w w' := by

  obtain ⟨fs, body, p, n, hP⟩ : ∃ fs body p n, parseM s.data.toList = (fs, body, p, n) := ⟨_, _, _, _, rfl⟩
  have HS : Hid _ := hs
  clear hs
  by_cases hn : n = 0
  · have hmay := parsed_may (l := s.data.toList) (by rw [hP]; exact hn)
    rw [hP] at hmay
    obtain ⟨m1, m2, m3, m4⟩ := hmay
    simp only at m1 m2 m3 m4
    subst hn
    subst m3
    have HP : Hid _ := hP
    have HM : Hid _ := m4
    have HSB : Hid ((S body).data.toList = body) := list_S body
    rcases fault_two (body := body) m1 m2 with hf | hf
    · have HF : Hid (faultM fs (S body).data.toList = 1) := by unfold Hid; rw [list_S]; exact hf
      clear hP m1 m4 hf
      go_enter Tryd.func8, Tryd.ntmps8
      go_wp2_with fail
      refine (parse_is _ [] [] 0 4 (by exact parse_empty) _ (Nat.zero_le _) hm).mono ?_
      rintro e w1 ⟨a1, c1, rfl, _, hb1⟩
      go_wp2_with fail
      refine (parse_is s fs body 0 0 HP.out _ HS.out (maxLenCell_below hm (hb1.alloc hb1.size _))).mono ?_
      rintro e w2 ⟨a2, c2, rfl, hF2, hb2⟩
      have hB2 := bnext (hb1.alloc hb1.size _) hb2 (Nat.le_refl _)
      have hN2 : Below w2.heap.size w2 (w2.alloc (.cells #[.slice a2 fs.length c2, .string (S body)] 24)) := (Below.refl _ _).alloc (Nat.le_refl _) _
      go_wp2_with fail
      refine (show_bad a2 c2 fs (S body) _ (hF2.below hN2) HM.out (maxLenCell_below hm (bnext hB2 hN2 (Nat.le_refl _))) 1 HF.out (by decide)).mono ?_
      rintro e w3 ⟨rfl, hb3⟩
      have p0 : w3.cell? ⟨w2.heap.size, 0, none⟩ = some (.slice a2 fs.length c2) := cell_next (by simp) hb3
      have p1 : w3.cell? ⟨w2.heap.size, 1, none⟩ = some (.string (S body)) := cell_next (by simp) hb3
      have hB3 := bnext (bnext hB2 hN2 (Nat.le_refl _)) hb3 (Nat.le_refl _)
      go_wp2_with fail
      refine (check_any a2 c2 fs (S body) _ ((hF2.below hN2).below hb3) HM.out (maxLenCell_below hm hB3)).mono ?_
      rintro e w4 ⟨rfl, hb4⟩
      rw [HF.out]
      go_wp2
      go_ret
      exact ⟨rfl, bnext hB3 hb4 (Nat.le_refl _)⟩
    · have HF : Hid (faultM fs (S body).data.toList = 0) := by unfold Hid; rw [list_S]; exact hf
      have HQ : Hid (parseM (S (textM fs (S body).data.toList)).data.toList = (fs, body, 0, 0)) := by unfold Hid; rw [list_S, list_S]; exact parse_shown hf
      have HL : Hid ((S (textM fs (S body).data.toList)).size ≤ maxLen) := by
        unfold Hid; rw [size_S, list_S, length_textM]; have := (fault_few hf).2.2; unfold maxLen; omega
      clear hP m1 m4 hf
      go_enter Tryd.func8, Tryd.ntmps8
      go_wp2_with fail
      refine (parse_is _ [] [] 0 4 (by exact parse_empty) _ (Nat.zero_le _) hm).mono ?_
      rintro e w1 ⟨a1, c1, rfl, _, hb1⟩
      go_wp2_with fail
      refine (parse_is s fs body 0 0 HP.out _ HS.out (maxLenCell_below hm (hb1.alloc hb1.size _))).mono ?_
      rintro e w2 ⟨a2, c2, rfl, hF2, hb2⟩
      have hB2 := bnext (hb1.alloc hb1.size _) hb2 (Nat.le_refl _)
      have hN2 : Below w2.heap.size w2 (w2.alloc (.cells #[.slice a2 fs.length c2, .string (S body)] 24)) := (Below.refl _ _).alloc (Nat.le_refl _) _
      go_wp2_with fail
      refine (show_ok a2 c2 fs (S body) _ (hF2.below hN2) HM.out (maxLenCell_below hm (bnext hB2 hN2 (Nat.le_refl _))) HF.out).mono ?_
      rintro e w3 ⟨rfl, hb3⟩
      have p0 : w3.cell? ⟨w2.heap.size, 0, none⟩ = some (.slice a2 fs.length c2) := cell_next (by simp) hb3
      have p1 : w3.cell? ⟨w2.heap.size, 1, none⟩ = some (.string (S body)) := cell_next (by simp) hb3
      have hB3 := bnext (bnext hB2 hN2 (Nat.le_refl _)) hb3 (Nat.le_refl _)
      have hF3 := (hF2.below hN2).below hb3
      go_wp2_with fail
      refine (parse_is _ fs body 0 0 HQ.out _ HL.out (maxLenCell_below hm hB3)).mono ?_
      rintro e w4 ⟨a4, c4, rfl, hF4, hb4⟩
      have hB4 := bnext hB3 hb4 (Nat.le_refl _)
      have hN4 : Below w4.heap.size w4 (w4.alloc (.cells #[.slice a4 fs.length c4, .string (S body)] 24)) := (Below.refl _ _).alloc (Nat.le_refl _) _
      have p2 := cell_next p0 hb4
      have p3 := cell_next p1 hb4
      have hz4 : w2.heap.size < w4.heap.size := World.block_lt_of_cell? w4 _ p2
      go_wp2_with fail
      refine (sameK_any a2 a4 c2 c4 fs (S body) _ ((hF3.below hb4).below hN4) (hF4.below hN4) HM.out.1).mono ?_
      rintro e w5 ⟨rfl, hb5⟩
      go_wp2
      go_ret
      exact ⟨rfl, bnext (bnext hB4 hN4 (Nat.le_refl _)) hb5 (Nat.le_refl _)⟩
  · have hbad := parsed_bad (l := s.data.toList) (by rw [hP]; exact hn)
    rw [hP] at hbad
    obtain ⟨m1, m2, m3⟩ := hbad
    simp only at m1 m2 m3
    subst m1
    subst m2
    have hn0 : (n == 0) = false := by simpa using hn
    have HP : Hid _ := hP
    clear hP hn
    have hS0 : S [] = ⟨#[]⟩ := rfl
    go_enter Tryd.func8, Tryd.ntmps8
    go_wp2_with fail
    refine (parse_is _ [] [] 0 4 (by exact parse_empty) _ (Nat.zero_le _) hm).mono ?_
    rintro e w1 ⟨a1, c1, rfl, _, hb1⟩
    go_wp2_with fail
    refine (parse_is s [] [] p n HP.out _ HS.out (maxLenCell_below hm (hb1.alloc hb1.size _))).mono ?_
    rintro e w2 ⟨a2, c2, rfl, hF2, hb2⟩
    have hB2 := bnext (hb1.alloc hb1.size _) hb2 (Nat.le_refl _)
    go_wp2
    go_ret
    exact ⟨by simp, hB2.alloc hB2.size _⟩
end Go.Proofs.YtpkfafglpilkoaaDoor
