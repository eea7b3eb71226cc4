/-
  Two entries of one kind held against each other.
-/
import Derived.Test.YtkkkbggbeihbnaaDoorBoxPur
import Derived.Test.YtkkkbggbeihbnaaDoorTxt
import Derived.Test.YtkkkbggbeihbnaaDoorRows
import Derived.WalkKit
import Derived.Laws.StructEq
namespace Go.Proofs.YtkkkbggbeihbnaaDoor
open Go.RowKit Go.Proofs

theorem bytes_ne {a b : ByteArray} (h : ¬ a = b) : (a.toList == b.toList) = false := by
  rw [beq_eq_false_iff_ne]
  intro e
  rw [Lib.toList_data, Lib.toList_data] at e
  apply h
  obtain ⟨⟨x⟩⟩ := a
  obtain ⟨⟨y⟩⟩ := b
  simp only at e
  rw [e]
theorem bytes_eq (a : ByteArray) : (a.toList == a.toList) = true := by simp
set_option maxHeartbeats 2000000 in
set_option maxRecDepth 100000 in
theorem ent_neq (k u f yu yf : Int) (b g t yb yg yt : ByteArray) (h : ¬ (b = yb ∧ u = yu ∧ f = yf ∧ g = yg ∧ t = yt)) (w : World) : (binOp .neq 70 (.agg #[.int .i64 k, .string b, .int .i64 u, .int .i64 f, .string g, .string t]) (.agg #[.int .i64 k, .string yb, .int .i64 yu, .int .i64 yf, .string yg, .string yt])).run Tryd.prog w = .ok (.bool true) w := by
  by_cases h1 : b = yb
  · subst h1
    have e1 := bytes_eq b
    by_cases h2 : u = yu
    · subst h2
      by_cases h3 : f = yf
      · subst h3
        by_cases h4 : g = yg
        · subst h4
          have e4 := bytes_eq g
          have h5 : ¬ t = yt := fun h5 => h ⟨rfl, rfl, rfl, rfl, h5⟩
          have e5 := bytes_ne h5
          clear h h5
          simp [go_sem, *]
        · have e4 := bytes_ne h4
          clear h h4
          simp [go_sem, *]
      · have e3 : (f == yf) = false := by rw [beq_eq_false_iff_ne]; exact h3
        clear h h3
        simp [go_sem, *]
    · have e2 : (u == yu) = false := by rw [beq_eq_false_iff_ne]; exact h2
      clear h h2
      simp [go_sem, *]
  · have e1 := bytes_ne h1
    clear h h1
    simp [go_sem, *]
end Go.Proofs.YtkkkbggbeihbnaaDoor
