/-
  Of an act just what its kind has: the walks of post.bare; two acts of one kind held against each other.
-/
import Derived.Test.YtmdlfokmcikilaaTxt
import Derived.Test.YtmdlfokmcikilaaRows
import Derived.WalkKit
import Derived.Laws.StructEq
import Derived.Deep.RegionLaw
import Derived.Deep.RegionHeld3
import Derived.Deep.DeepCutAuto
namespace Go.Proofs.Ytmdlfokmcikilaa
open Go.RowKit Go.Proofs

theorem hidp {p : Prop} (h : p) : Hid p := h
theorem pbytes_ne {a b : ByteArray} (h : ¬ a = b) : (a.toList == b.toList) = false := by
  rw [beq_eq_false_iff_ne]
  intro e
  rw [Lib.toList_data, Lib.toList_data] at e
  apply h
  obtain ⟨⟨x⟩⟩ := a
  obtain ⟨⟨y⟩⟩ := b
  simp only at e
  rw [e]
theorem pbytes_eq (a : ByteArray) : (a.toList == a.toList) = true := by simp
set_option maxHeartbeats 2000000 in
set_option maxRecDepth 100000 in
theorem pbare_1 (c u p ek eu ef : Int) (d eb eg et : List UInt8) (w : World) : Calls Try.prog 7 #[.agg #[.int .i64 1, .int .i64 c, .int .i64 u, .int .i64 p, .string (S d), .int .i64 ek, .string (S eb), .int .i64 eu, .int .i64 ef, .string (S eg), .string (S et)]] w fun e w' => e = .returned (.agg #[.int .i64 1, .int .i64 c, .int .i64 0, .int .i64 0, .string (S d), .int .i64 0, .string (⟨#[]⟩), .int .i64 0, .int .i64 0, .string (⟨#[]⟩), .string (⟨#[]⟩)]) ∧ Below w.heap.size w w' := by
  have HB := hidp (show ∀ a b c : Obj, Below w.heap.size w (((w.alloc a).alloc b).alloc c) from fun a b c => (((Below.refl _ _).alloc (Nat.le_refl _) a).alloc (by simp) b).alloc (by simp; omega) c)
  go_enter Try.func7, Try.ntmps7
  go_wp2
  go_region_law (fail)
  all_goals
    go_wp2
    refine bodyPost_ret (v := .agg #[.int .i64 1, .int .i64 c, .int .i64 0, .int .i64 0, .string (S d), .int .i64 0, .string (⟨#[]⟩), .int .i64 0, .int .i64 0, .string (⟨#[]⟩), .string (⟨#[]⟩)]) (by simp [results, Try.results7, go_sem, *]) rfl ?_
    first | exact ⟨rfl, HB.out _ _ _⟩ | exact ⟨rfl, (HB.out _ _ _).drew⟩
set_option maxHeartbeats 2000000 in
set_option maxRecDepth 100000 in
theorem pbare_2 (c u p ek eu ef : Int) (d eb eg et : List UInt8) (w : World) : Calls Try.prog 7 #[.agg #[.int .i64 2, .int .i64 c, .int .i64 u, .int .i64 p, .string (S d), .int .i64 ek, .string (S eb), .int .i64 eu, .int .i64 ef, .string (S eg), .string (S et)]] w fun e w' => e = .returned (.agg #[.int .i64 2, .int .i64 0, .int .i64 0, .int .i64 0, .string (⟨#[]⟩), .int .i64 0, .string (⟨#[]⟩), .int .i64 0, .int .i64 0, .string (⟨#[]⟩), .string (⟨#[]⟩)]) ∧ Below w.heap.size w w' := by
  have HB := hidp (show ∀ a b c : Obj, Below w.heap.size w (((w.alloc a).alloc b).alloc c) from fun a b c => (((Below.refl _ _).alloc (Nat.le_refl _) a).alloc (by simp) b).alloc (by simp; omega) c)
  go_enter Try.func7, Try.ntmps7
  go_wp2
  all_goals
    refine bodyPost_ret (v := .agg #[.int .i64 2, .int .i64 0, .int .i64 0, .int .i64 0, .string (⟨#[]⟩), .int .i64 0, .string (⟨#[]⟩), .int .i64 0, .int .i64 0, .string (⟨#[]⟩), .string (⟨#[]⟩)]) (by simp [results, Try.results7, go_sem, *]) rfl ?_
    first | exact ⟨rfl, HB.out _ _ _⟩ | exact ⟨rfl, (HB.out _ _ _).drew⟩
set_option maxHeartbeats 2000000 in
set_option maxRecDepth 100000 in
theorem pbare_3 (c u p ek eu ef : Int) (d eb eg et : List UInt8) (w : World) : Calls Try.prog 7 #[.agg #[.int .i64 3, .int .i64 c, .int .i64 u, .int .i64 p, .string (S d), .int .i64 ek, .string (S eb), .int .i64 eu, .int .i64 ef, .string (S eg), .string (S et)]] w fun e w' => e = .returned (.agg #[.int .i64 3, .int .i64 0, .int .i64 0, .int .i64 p, .string (⟨#[]⟩), .int .i64 0, .string (⟨#[]⟩), .int .i64 0, .int .i64 0, .string (⟨#[]⟩), .string (⟨#[]⟩)]) ∧ Below w.heap.size w w' := by
  have HB := hidp (show ∀ a b c : Obj, Below w.heap.size w (((w.alloc a).alloc b).alloc c) from fun a b c => (((Below.refl _ _).alloc (Nat.le_refl _) a).alloc (by simp) b).alloc (by simp; omega) c)
  go_enter Try.func7, Try.ntmps7
  go_wp2
  all_goals
    refine bodyPost_ret (v := .agg #[.int .i64 3, .int .i64 0, .int .i64 0, .int .i64 p, .string (⟨#[]⟩), .int .i64 0, .string (⟨#[]⟩), .int .i64 0, .int .i64 0, .string (⟨#[]⟩), .string (⟨#[]⟩)]) (by simp [results, Try.results7, go_sem, *]) rfl ?_
    first | exact ⟨rfl, HB.out _ _ _⟩ | exact ⟨rfl, (HB.out _ _ _).drew⟩
set_option maxHeartbeats 2000000 in
set_option maxRecDepth 100000 in
theorem pbare_4 (c u p ek eu ef : Int) (d eb eg et : List UInt8) (w : World) : Calls Try.prog 7 #[.agg #[.int .i64 4, .int .i64 c, .int .i64 u, .int .i64 p, .string (S d), .int .i64 ek, .string (S eb), .int .i64 eu, .int .i64 ef, .string (S eg), .string (S et)]] w fun e w' => e = .returned (.agg #[.int .i64 4, .int .i64 0, .int .i64 0, .int .i64 0, .string (⟨#[]⟩), .int .i64 0, .string (⟨#[]⟩), .int .i64 0, .int .i64 0, .string (⟨#[]⟩), .string (⟨#[]⟩)]) ∧ Below w.heap.size w w' := by
  have HB := hidp (show ∀ a b c : Obj, Below w.heap.size w (((w.alloc a).alloc b).alloc c) from fun a b c => (((Below.refl _ _).alloc (Nat.le_refl _) a).alloc (by simp) b).alloc (by simp; omega) c)
  go_enter Try.func7, Try.ntmps7
  go_wp2
  all_goals
    refine bodyPost_ret (v := .agg #[.int .i64 4, .int .i64 0, .int .i64 0, .int .i64 0, .string (⟨#[]⟩), .int .i64 0, .string (⟨#[]⟩), .int .i64 0, .int .i64 0, .string (⟨#[]⟩), .string (⟨#[]⟩)]) (by simp [results, Try.results7, go_sem, *]) rfl ?_
    first | exact ⟨rfl, HB.out _ _ _⟩ | exact ⟨rfl, (HB.out _ _ _).drew⟩
set_option maxHeartbeats 2000000 in
set_option maxRecDepth 100000 in
theorem pbare_5 (c u p ek eu ef : Int) (d eb eg et : List UInt8) (w : World) : Calls Try.prog 7 #[.agg #[.int .i64 5, .int .i64 c, .int .i64 u, .int .i64 p, .string (S d), .int .i64 ek, .string (S eb), .int .i64 eu, .int .i64 ef, .string (S eg), .string (S et)]] w fun e w' => e = .returned (.agg #[.int .i64 5, .int .i64 0, .int .i64 u, .int .i64 0, .string (⟨#[]⟩), .int .i64 ek, .string (S eb), .int .i64 eu, .int .i64 ef, .string (S eg), .string (S et)]) ∧ Below w.heap.size w w' := by
  have HB := hidp (show ∀ a b c : Obj, Below w.heap.size w (((w.alloc a).alloc b).alloc c) from fun a b c => (((Below.refl _ _).alloc (Nat.le_refl _) a).alloc (by simp) b).alloc (by simp; omega) c)
  go_enter Try.func7, Try.ntmps7
  go_wp2
  go_region_law (fail)
  all_goals
    go_wp2
    refine bodyPost_ret (v := .agg #[.int .i64 5, .int .i64 0, .int .i64 u, .int .i64 0, .string (⟨#[]⟩), .int .i64 ek, .string (S eb), .int .i64 eu, .int .i64 ef, .string (S eg), .string (S et)]) (by simp [results, Try.results7, go_sem, *]) rfl ?_
    first | exact ⟨rfl, HB.out _ _ _⟩ | exact ⟨rfl, (HB.out _ _ _).drew⟩
set_option maxHeartbeats 4000000 in
set_option maxRecDepth 100000 in
theorem act_neq (k c u p ek eu ef yc yu yp yek yeu yef : Int) (d eb eg et yd yeb yeg yet : ByteArray) (h : ¬ (c = yc ∧ u = yu ∧ p = yp ∧ d = yd ∧ ek = yek ∧ eb = yeb ∧ eu = yeu ∧ ef = yef ∧ eg = yeg ∧ et = yet)) (w : World) : (binOp .neq 25 (.agg #[.int .i64 k, .int .i64 c, .int .i64 u, .int .i64 p, .string d, .int .i64 ek, .string eb, .int .i64 eu, .int .i64 ef, .string eg, .string et]) (.agg #[.int .i64 k, .int .i64 yc, .int .i64 yu, .int .i64 yp, .string yd, .int .i64 yek, .string yeb, .int .i64 yeu, .int .i64 yef, .string yeg, .string yet])).run Try.prog w = .ok (.bool true) w := by
  by_cases h0 : c = yc
  · subst h0
    by_cases h1 : u = yu
    · subst h1
      by_cases h2 : p = yp
      · subst h2
        by_cases h3 : d = yd
        · subst h3
          have e3 := pbytes_eq d
          by_cases h4 : ek = yek
          · subst h4
            by_cases h5 : eb = yeb
            · subst h5
              have e5 := pbytes_eq eb
              by_cases h6 : eu = yeu
              · subst h6
                by_cases h7 : ef = yef
                · subst h7
                  by_cases h8 : eg = yeg
                  · subst h8
                    have e8 := pbytes_eq eg
                    have h9 : ¬ et = yet := fun h9 => h ⟨rfl, rfl, rfl, rfl, rfl, rfl, rfl, rfl, rfl, h9⟩
                    have e9 := pbytes_ne h9
                    clear h h9
                    simp [go_sem, *]
                  · have e8 := pbytes_ne h8
                    clear h h8
                    simp [go_sem, *]
                · have e7 : (ef == yef) = false := by rw [beq_eq_false_iff_ne]; exact h7
                  clear h h7
                  simp [go_sem, *]
              · have e6 : (eu == yeu) = false := by rw [beq_eq_false_iff_ne]; exact h6
                clear h h6
                simp [go_sem, *]
            · have e5 := pbytes_ne h5
              clear h h5
              simp [go_sem, *]
          · have e4 : (ek == yek) = false := by rw [beq_eq_false_iff_ne]; exact h4
            clear h h4
            simp [go_sem, *]
        · have e3 := pbytes_ne h3
          clear h h3
          simp [go_sem, *]
      · have e2 : (p == yp) = false := by rw [beq_eq_false_iff_ne]; exact h2
        clear h h2
        simp [go_sem, *]
    · have e1 : (u == yu) = false := by rw [beq_eq_false_iff_ne]; exact h1
      clear h h1
      simp [go_sem, *]
  · have e0 : (c == yc) = false := by rw [beq_eq_false_iff_ne]; exact h0
    clear h h0
    simp [go_sem, *]
set_option maxHeartbeats 4000000 in
set_option maxRecDepth 100000 in
theorem act_same (k c u p ek eu ef : Int) (d eb eg et : ByteArray) (w : World) : (binOp .neq 25 (.agg #[.int .i64 k, .int .i64 c, .int .i64 u, .int .i64 p, .string d, .int .i64 ek, .string eb, .int .i64 eu, .int .i64 ef, .string eg, .string et]) (.agg #[.int .i64 k, .int .i64 c, .int .i64 u, .int .i64 p, .string d, .int .i64 ek, .string eb, .int .i64 eu, .int .i64 ef, .string eg, .string et])).run Try.prog w = .ok (.bool false) w := by
  have e1 := pbytes_eq d
  have e2 := pbytes_eq eb
  have e3 := pbytes_eq eg
  have e4 := pbytes_eq et
  simp [go_sem, *]
theorem act_eq (k c u p ek eu ef yc yu yp yek yeu yef : Int) (d eb eg et yd yeb yeg yet : ByteArray) (h : c = yc ∧ u = yu ∧ p = yp ∧ d = yd ∧ ek = yek ∧ eb = yeb ∧ eu = yeu ∧ ef = yef ∧ eg = yeg ∧ et = yet) (w : World) : (binOp .neq 25 (.agg #[.int .i64 k, .int .i64 c, .int .i64 u, .int .i64 p, .string d, .int .i64 ek, .string eb, .int .i64 eu, .int .i64 ef, .string eg, .string et]) (.agg #[.int .i64 k, .int .i64 yc, .int .i64 yu, .int .i64 yp, .string yd, .int .i64 yek, .string yeb, .int .i64 yeu, .int .i64 yef, .string yeg, .string yet])).run Try.prog w = .ok (.bool false) w := by
  obtain ⟨rfl, rfl, rfl, rfl, rfl, rfl, rfl, rfl, rfl, rfl⟩ := h
  exact act_same _ _ _ _ _ _ _ _ _ _ _ w
end Go.Proofs.Ytmdlfokmcikilaa
