/-
  Of an entry just what its kind has, whatever the entry holds: the walks of bare.
-/
import Derived.Test.YtkkkbggbeihbnaaDoorBoxPur
import Derived.Test.YtkkkbggbeihbnaaDoorTxt
import Derived.Test.YtkkkbggbeihbnaaDoorRows
import Derived.WalkKit
import Derived.Deep.RegionLaw
import Derived.Deep.RegionHeld3
import Derived.Deep.DeepCutAuto
namespace Go.Proofs.YtkkkbggbeihbnaaDoor
open Go.RowKit Go.Proofs

set_option maxHeartbeats 2000000 in
set_option maxRecDepth 100000 in
theorem bare_g1 (bx g t : List UInt8) (u f : Int) (w : World) : Calls Tryd.prog 41 #[.agg #[.int .i64 1, .string (S bx), .int .i64 u, .int .i64 f, .string (S g), .string (S t)]] w fun e w' => e = .returned (.agg #[.int .i64 1, .string (S bx), .int .i64 0, .int .i64 0, .string ⟨#[]⟩, .string ⟨#[]⟩]) ∧ Below w.heap.size w w' := by
  have HB := hid (show ∀ a b c : Obj, Below w.heap.size w (((w.alloc a).alloc b).alloc c) from fun a b c => (((Below.refl _ _).alloc (Nat.le_refl _) a).alloc (by simp) b).alloc (by simp; omega) c)
  go_enter Tryd.func41, Tryd.ntmps41
  go_wp2
  refine bodyPost_ret (v := .agg #[.int .i64 1, .string (S bx), .int .i64 0, .int .i64 0, .string ⟨#[]⟩, .string ⟨#[]⟩]) (by simp [results, Tryd.results41, go_sem, *]) rfl ?_
  first | exact ⟨rfl, HB.out _ _ _⟩ | exact ⟨rfl, (HB.out _ _ _).drew⟩
set_option maxHeartbeats 2000000 in
set_option maxRecDepth 100000 in
theorem bare_g2 (bx g t : List UInt8) (u f : Int) (w : World) : Calls Tryd.prog 41 #[.agg #[.int .i64 2, .string (S bx), .int .i64 u, .int .i64 f, .string (S g), .string (S t)]] w fun e w' => e = .returned (.agg #[.int .i64 2, .string (S bx), .int .i64 0, .int .i64 f, .string ⟨#[]⟩, .string (S t)]) ∧ Below w.heap.size w w' := by
  have HB := hid (show ∀ a b c : Obj, Below w.heap.size w (((w.alloc a).alloc b).alloc c) from fun a b c => (((Below.refl _ _).alloc (Nat.le_refl _) a).alloc (by simp) b).alloc (by simp; omega) c)
  go_enter Tryd.func41, Tryd.ntmps41
  go_wp2
  go_region_law (fail)
  all_goals
    go_wp2
    refine bodyPost_ret (v := .agg #[.int .i64 2, .string (S bx), .int .i64 0, .int .i64 f, .string ⟨#[]⟩, .string (S t)]) (by simp [results, Tryd.results41, go_sem, *]) rfl ?_
    first | exact ⟨rfl, HB.out _ _ _⟩ | exact ⟨rfl, (HB.out _ _ _).drew⟩
set_option maxHeartbeats 2000000 in
set_option maxRecDepth 100000 in
theorem bare_g3 (bx g t : List UInt8) (u f : Int) (w : World) : Calls Tryd.prog 41 #[.agg #[.int .i64 3, .string (S bx), .int .i64 u, .int .i64 f, .string (S g), .string (S t)]] w fun e w' => e = .returned (.agg #[.int .i64 3, .string (S bx), .int .i64 u, .int .i64 f, .string ⟨#[]⟩, .string ⟨#[]⟩]) ∧ Below w.heap.size w w' := by
  have HB := hid (show ∀ a b c : Obj, Below w.heap.size w (((w.alloc a).alloc b).alloc c) from fun a b c => (((Below.refl _ _).alloc (Nat.le_refl _) a).alloc (by simp) b).alloc (by simp; omega) c)
  go_enter Tryd.func41, Tryd.ntmps41
  go_wp2
  go_region_law (fail)
  all_goals
    go_wp2
    refine bodyPost_ret (v := .agg #[.int .i64 3, .string (S bx), .int .i64 u, .int .i64 f, .string ⟨#[]⟩, .string ⟨#[]⟩]) (by simp [results, Tryd.results41, go_sem, *]) rfl ?_
    first | exact ⟨rfl, HB.out _ _ _⟩ | exact ⟨rfl, (HB.out _ _ _).drew⟩
set_option maxHeartbeats 2000000 in
set_option maxRecDepth 100000 in
theorem bare_g4 (bx g t : List UInt8) (u f : Int) (w : World) : Calls Tryd.prog 41 #[.agg #[.int .i64 4, .string (S bx), .int .i64 u, .int .i64 f, .string (S g), .string (S t)]] w fun e w' => e = .returned (.agg #[.int .i64 4, .string (S bx), .int .i64 0, .int .i64 0, .string ⟨#[]⟩, .string ⟨#[]⟩]) ∧ Below w.heap.size w w' := by
  have HB := hid (show ∀ a b c : Obj, Below w.heap.size w (((w.alloc a).alloc b).alloc c) from fun a b c => (((Below.refl _ _).alloc (Nat.le_refl _) a).alloc (by simp) b).alloc (by simp; omega) c)
  go_enter Tryd.func41, Tryd.ntmps41
  go_wp2
  refine bodyPost_ret (v := .agg #[.int .i64 4, .string (S bx), .int .i64 0, .int .i64 0, .string ⟨#[]⟩, .string ⟨#[]⟩]) (by simp [results, Tryd.results41, go_sem, *]) rfl ?_
  first | exact ⟨rfl, HB.out _ _ _⟩ | exact ⟨rfl, (HB.out _ _ _).drew⟩
set_option maxHeartbeats 2000000 in
set_option maxRecDepth 100000 in
theorem bare_g5 (bx g t : List UInt8) (u f : Int) (w : World) : Calls Tryd.prog 41 #[.agg #[.int .i64 5, .string (S bx), .int .i64 u, .int .i64 f, .string (S g), .string (S t)]] w fun e w' => e = .returned (.agg #[.int .i64 5, .string (S bx), .int .i64 u, .int .i64 0, .string (S g), .string ⟨#[]⟩]) ∧ Below w.heap.size w w' := by
  have HB := hid (show ∀ a b c : Obj, Below w.heap.size w (((w.alloc a).alloc b).alloc c) from fun a b c => (((Below.refl _ _).alloc (Nat.le_refl _) a).alloc (by simp) b).alloc (by simp; omega) c)
  go_enter Tryd.func41, Tryd.ntmps41
  go_wp2
  go_region_law (fail)
  all_goals
    go_wp2
    refine bodyPost_ret (v := .agg #[.int .i64 5, .string (S bx), .int .i64 u, .int .i64 0, .string (S g), .string ⟨#[]⟩]) (by simp [results, Tryd.results41, go_sem, *]) rfl ?_
    first | exact ⟨rfl, HB.out _ _ _⟩ | exact ⟨rfl, (HB.out _ _ _).drew⟩
set_option maxHeartbeats 2000000 in
set_option maxRecDepth 100000 in
theorem bare_g6 (bx g t : List UInt8) (u f : Int) (w : World) : Calls Tryd.prog 41 #[.agg #[.int .i64 6, .string (S bx), .int .i64 u, .int .i64 f, .string (S g), .string (S t)]] w fun e w' => e = .returned (.agg #[.int .i64 6, .string ⟨#[]⟩, .int .i64 0, .int .i64 0, .string (S g), .string (S t)]) ∧ Below w.heap.size w w' := by
  have HB := hid (show ∀ a b c : Obj, Below w.heap.size w (((w.alloc a).alloc b).alloc c) from fun a b c => (((Below.refl _ _).alloc (Nat.le_refl _) a).alloc (by simp) b).alloc (by simp; omega) c)
  go_enter Tryd.func41, Tryd.ntmps41
  go_wp2
  go_region_law (fail)
  all_goals
    go_wp2
    refine bodyPost_ret (v := .agg #[.int .i64 6, .string ⟨#[]⟩, .int .i64 0, .int .i64 0, .string (S g), .string (S t)]) (by simp [results, Tryd.results41, go_sem, *]) rfl ?_
    first | exact ⟨rfl, HB.out _ _ _⟩ | exact ⟨rfl, (HB.out _ _ _).drew⟩
end Go.Proofs.YtkkkbggbeihbnaaDoor
