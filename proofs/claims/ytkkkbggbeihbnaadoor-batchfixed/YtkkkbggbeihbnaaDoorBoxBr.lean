/-
  Of an entry just what its kind has: the walks.
-/
import Derived.Test.YtkkkbggbeihbnaaDoorBoxPur
import Derived.Test.YtkkkbggbeihbnaaDoorTxt
import Derived.Test.YtkkkbggbeihbnaaDoorRows
import Derived.WalkKit
import Derived.Deep.RegionLaw
namespace Go.Proofs.YtkkkbggbeihbnaaDoor
open Go.RowKit Go.Proofs

set_option maxHeartbeats 2000000 in
set_option maxRecDepth 100000 in
theorem bare_k1 (bx : List UInt8) (w : World) : Calls Tryd.prog 41 #[.agg #[.int .i64 1, .string (S bx), .int .i64 0, .int .i64 0, .string ⟨#[]⟩, .string ⟨#[]⟩]] w fun e w' => e = .returned (.agg #[.int .i64 1, .string (S bx), .int .i64 0, .int .i64 0, .string ⟨#[]⟩, .string ⟨#[]⟩]) ∧ Below w.heap.size w w' := by
  have HB := hid (show ∀ a b c : Obj, Below w.heap.size w (((w.alloc a).alloc b).alloc c) from fun a b c => (((Below.refl _ _).alloc (Nat.le_refl _) a).alloc (by simp) b).alloc (by simp; omega) c)
  go_enter Tryd.func41, Tryd.ntmps41
  go_wp2
  refine bodyPost_ret (v := .agg #[.int .i64 1, .string (S bx), .int .i64 0, .int .i64 0, .string ⟨#[]⟩, .string ⟨#[]⟩]) (by simp [results, Tryd.results41, go_sem, *]) rfl ?_
  first | exact ⟨rfl, HB.out _ _ _⟩ | exact ⟨rfl, (HB.out _ _ _).drew⟩
set_option maxHeartbeats 2000000 in
set_option maxRecDepth 100000 in
theorem bare_k2 (bx t : List UInt8) (f : Int) (w : World) : Calls Tryd.prog 41 #[.agg #[.int .i64 2, .string (S bx), .int .i64 0, .int .i64 f, .string ⟨#[]⟩, .string (S t)]] w fun e w' => e = .returned (.agg #[.int .i64 2, .string (S bx), .int .i64 0, .int .i64 f, .string ⟨#[]⟩, .string (S t)]) ∧ Below w.heap.size w w' := by
  have HB := hid (show ∀ a b c : Obj, Below w.heap.size w (((w.alloc a).alloc b).alloc c) from fun a b c => (((Below.refl _ _).alloc (Nat.le_refl _) a).alloc (by simp) b).alloc (by simp; omega) c)
  go_enter Tryd.func41, Tryd.ntmps41
  go_wp2
  go_region_law (fail)
  all_goals
    go_wp2
    refine bodyPost_ret (v := .agg #[.int .i64 2, .string (S bx), .int .i64 0, .int .i64 f, .string ⟨#[]⟩, .string (S t)]) (by simp [results, Tryd.results41, go_sem, *]) rfl ?_
    first | exact ⟨rfl, HB.out _ _ _⟩ | exact ⟨rfl, (HB.out _ _ _).drew⟩
set_option maxHeartbeats 2000000 in
set_option maxRecDepth 100000 in
theorem bare_k3 (bx : List UInt8) (u f : Int) (w : World) : Calls Tryd.prog 41 #[.agg #[.int .i64 3, .string (S bx), .int .i64 u, .int .i64 f, .string ⟨#[]⟩, .string ⟨#[]⟩]] w fun e w' => e = .returned (.agg #[.int .i64 3, .string (S bx), .int .i64 u, .int .i64 f, .string ⟨#[]⟩, .string ⟨#[]⟩]) ∧ Below w.heap.size w w' := by
  have HB := hid (show ∀ a b c : Obj, Below w.heap.size w (((w.alloc a).alloc b).alloc c) from fun a b c => (((Below.refl _ _).alloc (Nat.le_refl _) a).alloc (by simp) b).alloc (by simp; omega) c)
  go_enter Tryd.func41, Tryd.ntmps41
  go_wp2
  go_region_law (fail)
  all_goals
    go_wp2
    refine bodyPost_ret (v := .agg #[.int .i64 3, .string (S bx), .int .i64 u, .int .i64 f, .string ⟨#[]⟩, .string ⟨#[]⟩]) (by simp [results, Tryd.results41, go_sem, *]) rfl ?_
    first | exact ⟨rfl, HB.out _ _ _⟩ | exact ⟨rfl, (HB.out _ _ _).drew⟩
set_option maxHeartbeats 2000000 in
set_option maxRecDepth 100000 in
theorem bare_k4 (bx : List UInt8) (w : World) : Calls Tryd.prog 41 #[.agg #[.int .i64 4, .string (S bx), .int .i64 0, .int .i64 0, .string ⟨#[]⟩, .string ⟨#[]⟩]] w fun e w' => e = .returned (.agg #[.int .i64 4, .string (S bx), .int .i64 0, .int .i64 0, .string ⟨#[]⟩, .string ⟨#[]⟩]) ∧ Below w.heap.size w w' := by
  have HB := hid (show ∀ a b c : Obj, Below w.heap.size w (((w.alloc a).alloc b).alloc c) from fun a b c => (((Below.refl _ _).alloc (Nat.le_refl _) a).alloc (by simp) b).alloc (by simp; omega) c)
  go_enter Tryd.func41, Tryd.ntmps41
  go_wp2
  refine bodyPost_ret (v := .agg #[.int .i64 4, .string (S bx), .int .i64 0, .int .i64 0, .string ⟨#[]⟩, .string ⟨#[]⟩]) (by simp [results, Tryd.results41, go_sem, *]) rfl ?_
  first | exact ⟨rfl, HB.out _ _ _⟩ | exact ⟨rfl, (HB.out _ _ _).drew⟩
set_option maxHeartbeats 2000000 in
set_option maxRecDepth 100000 in
theorem bare_k5 (bx g : List UInt8) (u : Int) (w : World) : Calls Tryd.prog 41 #[.agg #[.int .i64 5, .string (S bx), .int .i64 u, .int .i64 0, .string (S g), .string ⟨#[]⟩]] w fun e w' => e = .returned (.agg #[.int .i64 5, .string (S bx), .int .i64 u, .int .i64 0, .string (S g), .string ⟨#[]⟩]) ∧ Below w.heap.size w w' := by
  have HB := hid (show ∀ a b c : Obj, Below w.heap.size w (((w.alloc a).alloc b).alloc c) from fun a b c => (((Below.refl _ _).alloc (Nat.le_refl _) a).alloc (by simp) b).alloc (by simp; omega) c)
  go_enter Tryd.func41, Tryd.ntmps41
  go_wp2
  go_region_law (fail)
  all_goals
    go_wp2
    refine bodyPost_ret (v := .agg #[.int .i64 5, .string (S bx), .int .i64 u, .int .i64 0, .string (S g), .string ⟨#[]⟩]) (by simp [results, Tryd.results41, go_sem, *]) rfl ?_
    first | exact ⟨rfl, HB.out _ _ _⟩ | exact ⟨rfl, (HB.out _ _ _).drew⟩
set_option maxHeartbeats 2000000 in
set_option maxRecDepth 100000 in
theorem bare_k6 (g t : List UInt8) (w : World) : Calls Tryd.prog 41 #[.agg #[.int .i64 6, .string ⟨#[]⟩, .int .i64 0, .int .i64 0, .string (S g), .string (S t)]] w fun e w' => e = .returned (.agg #[.int .i64 6, .string ⟨#[]⟩, .int .i64 0, .int .i64 0, .string (S g), .string (S t)]) ∧ Below w.heap.size w w' := by
  have HB := hid (show ∀ a b c : Obj, Below w.heap.size w (((w.alloc a).alloc b).alloc c) from fun a b c => (((Below.refl _ _).alloc (Nat.le_refl _) a).alloc (by simp) b).alloc (by simp; omega) c)
  go_enter Tryd.func41, Tryd.ntmps41
  go_wp2
  go_region_law (fail)
  all_goals
    go_wp2
    refine bodyPost_ret (v := .agg #[.int .i64 6, .string ⟨#[]⟩, .int .i64 0, .int .i64 0, .string (S g), .string (S t)]) (by simp [results, Tryd.results41, go_sem, *]) rfl ?_
    first | exact ⟨rfl, HB.out _ _ _⟩ | exact ⟨rfl, (HB.out _ _ _).drew⟩
theorem bare_ok (x : Ent) (w : World) (hk : 1 ≤ x.kind ∧ x.kind ≤ 6) (hb : bareP x) :
    Calls Tryd.prog 41 #[.agg #[.int .i64 x.kind, .string (S x.box), .int .i64 x.uid, .int .i64 x.flags, .string (S x.goal), .string (S x.text)]] w fun e w' => e = .returned (.agg #[.int .i64 x.kind, .string (S x.box), .int .i64 x.uid, .int .i64 x.flags, .string (S x.goal), .string (S x.text)]) ∧ Below w.heap.size w w' := by
  obtain ⟨k, bx, u, f, g, t⟩ := x
  obtain ⟨h1, h2, h3, h5, h6⟩ := hb
  simp only at hk h1 h2 h3 h5 h6 ⊢
  have hcase : k = 1 ∨ k = 2 ∨ k = 3 ∨ k = 4 ∨ k = 5 ∨ k = 6 := by omega
  rcases hcase with rfl | rfl | rfl | rfl | rfl | rfl
  · obtain ⟨rfl, rfl, rfl, rfl⟩ := h1 (.inl rfl)
    exact bare_k1 bx w
  · obtain ⟨rfl, rfl⟩ := h2 rfl
    exact bare_k2 bx t f w
  · obtain ⟨rfl, rfl⟩ := h3 rfl
    exact bare_k3 bx u f w
  · obtain ⟨rfl, rfl, rfl, rfl⟩ := h1 (.inr rfl)
    exact bare_k4 bx w
  · obtain ⟨rfl, rfl⟩ := h5 rfl
    exact bare_k5 bx g u w
  · obtain ⟨rfl, rfl, rfl⟩ := h6 rfl
    exact bare_k6 g t w
end Go.Proofs.YtkkkbggbeihbnaaDoor
