/-
  Tokens of pieces, joined and cut: plain facts; a row of one token.
-/
import Derived.Test.YtfdkeodfkapncaaDoorTokKeep
namespace Go.Proofs.YtfdkeodfkapncaaDoor
open Go.RowKit Go.Proofs

theorem pcs_flat (ps : List Pce) (n : Nat) : (flatT ((pcsT ps n).map fun t => (t, [32]))).length ≤ n * 63 := by
  have key : ∀ l : List Pce, (flatT ((l.map pieceT).map fun t => (t, [32]))).length ≤ l.length * 63 := by
    intro l
    induction l with
    | nil => simp [flatT]
    | cons p l ih =>
      have := pieceT_size p
      simp only [flatT, List.map_cons, List.flatten_cons, List.length_append, List.length_cons, List.length_nil] at ih ⊢
      omega
  have h1 := key (ps.take n)
  rw [List.length_take] at h1
  unfold pcsT
  have : min n ps.length ≤ n := Nat.min_le_left _ _
  omega
theorem pcs_join (ps : List Pce) (n : Nat) (hn : n ≤ 31) : joinM (pcsT ps n) = (flatT ((pcsT ps n).map fun t => (t, [32])), 0) := by
  have h1 := pcs_flat ps n
  exact joinM_lawful (pcsT_ok ps n) (by unfold pcsT; rw [List.length_map, List.length_take]; omega) (by omega)
theorem pcs_cut (ps : List Pce) (n : Nat) (hn : n ≤ 31) : cutM (flatT ((pcsT ps n).map fun t => (t, [32]))) = (pcsT ps n, 0, 0) := by
  have h1 := pcs_flat ps n
  have h2 := back_lawful (pcsT_ok ps n) (by unfold pcsT; rw [List.length_map, List.length_take]; omega) (by omega)
  rw [pcs_join ps n hn] at h2
  exact h2
theorem toks_one (w : World) (t : Tok) : ToksAt (w.alloc (.cells #[.int .i64 t.kind, .string (S t.text), .int .i64 t.num] 34)) (some ⟨w.heap.size, 0, none⟩) [t] := by
  intro i x hx
  cases i with
  | zero =>
    simp at hx; subst hx
    exact ⟨w.heap.size, 0, rfl, by simp, (tokB_new w t).c0, (tokB_new w t).c1, (tokB_new w t).c2⟩
  | succ i => simp at hx
end Go.Proofs.YtfdkeodfkapncaaDoor
