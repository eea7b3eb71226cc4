/-
  letter.Parse against the reference, walked.
-/
import Derived.Test.YtpkfafglpilkoaaDoorLetCard
import Derived.Test.YtpkfafglpilkoaaDoorRefMsg
import Derived.Test.YtpkfafglpilkoaaDoorLetSameL
import Derived.Test.YtpkfafglpilkoaaDoorLetLaws
namespace Go.Proofs.YtpkfafglpilkoaaDoor
open Go.ChangeShapes Go.WideShapes Go.ChangeAt Go.RowKit

theorem parseM_len (l : List UInt8) : (parseM l).1.length ≤ 30 := by
  unfold parseM
  by_cases hb : 2000 < l.length
  · rw [if_pos hb]; simp
  · rw [if_neg hb]
    have h := parse_inv l.length l (Nat.le_refl _) 0 [] (by simp) (by simp)
    by_cases he : (parseR 0 [] l).2.2.2 = 0
    · exact (h.1 he).2.1
    · rw [(h.2 he).1]; simp
theorem parse_at (s : ByteArray) (fs : List F) (body : List UInt8) (p e : Int) (h : parseM s.data.toList = (fs, body, p, e)) (w : World) (hs : s.size ≤ maxLen) (hm : maxLenCell w) :
    Calls Tryd.prog 15 #[.string s] w fun x w' => ∃ a c, x = .returned (.tuple #[.agg #[.slice a fs.length c, .string (S body)], .int .i64 p, .int .i64 e]) ∧ FieldsAt w' a fs ∧ Below w.heap.size w w' := by
  have := parse_any s w hs hm
  rw [h] at this
  exact this
theorem messageOf_at (s : ByteArray) (fs : List F) (body : List UInt8) (p e : Int) (h : parseM s.data.toList = (fs, body, p, e)) (w : World) (hs : s.size ≤ maxLen) :
    Calls Tryd.prog 16 #[.string s] w fun x w' => ∃ a c, x = .returned (.tuple #[.agg #[.slice a fs.length c, .string (S body)], .int .i64 p, .int .i64 e]) ∧ FieldsAt w' a fs ∧ Below w.heap.size w w' := by
  have := messageOf_any s w hs
  rw [h] at this
  exact this

set_option maxHeartbeats 2000000 in
set_option maxRecDepth 100000 in
theorem letterParses_walk (w : World) (hm : maxLenCell w) (s : ByteArray) (hs : s.size ≤ maxLen) :
    Calls Tryd.prog 5 #[.string s] w fun e w' => e = .returned (.bool true) ∧ Below w.heap.size w w' := by
  obtain ⟨fs, body, p, n, hP⟩ : ∃ fs body p n, parseM s.data.toList = (fs, body, p, n) := ⟨_, _, _, _, rfl⟩
  have hl : fs.length ≤ 30 := by have := parseM_len s.data.toList; rw [hP] at this; exact this
  have HS : Hid _ := hs
  have HP : Hid _ := hP
  clear hs hP
  go_enter Tryd.func5, Tryd.ntmps5
  go_wp2_with fail
  refine (parse_at s fs body p n HP.out _ HS.out hm).mono ?_
  rintro e w1 ⟨a1, c1, rfl, hF1, hb1⟩
  have hN1 : Below w1.heap.size w1 (w1.alloc (.cells #[.slice a1 fs.length c1, .string (S body)] 24)) := (Below.refl _ _).alloc (Nat.le_refl _) _
  have hB1 := bnext hb1 hN1 (Nat.le_refl _)
  go_wp2_with fail
  refine (messageOf_at s fs body p n HP.out _ HS.out).mono ?_
  rintro e w2 ⟨a2, c2, rfl, hF2, hb2⟩
  have p0 : w2.cell? ⟨w1.heap.size, 0, none⟩ = some (.slice a1 fs.length c1) := cell_next (by simp) hb2
  have p1 : w2.cell? ⟨w1.heap.size, 1, none⟩ = some (.string (S body)) := cell_next (by simp) hb2
  have hz : w1.heap.size < w2.heap.size := World.block_lt_of_cell? w2 _ p0
  have hB2 := bnext hB1 hb2 (Nat.le_refl _)
  have hN2 : Below w2.heap.size w2 (w2.alloc (.cells #[.slice a2 fs.length c2, .string (S body)] 24)) := (Below.refl _ _).alloc (Nat.le_refl _) _
  go_wp2_with fail
  refine (sameL_any a1 a2 c1 c2 fs (S body) _ (((hF1.below hN1).below hb2).below hN2) (hF2.below hN2) (by omega)).mono ?_
  rintro e w3 ⟨rfl, hb3⟩
  go_wp2
  go_ret
  exact ⟨rfl, bnext (bnext hB2 hN2 (Nat.le_refl _)) hb3 (Nat.le_refl _)⟩
end Go.Proofs.YtpkfafglpilkoaaDoor
