/-
  A text of bytes 0, made of a row.
-/
import Derived.Test.YtoiblibminhojaaLmLn
import Derived.Test.YtoiblibminhojaaKeepWd
import Derived.Laws.IdiomStrings
namespace Go.Proofs.Ytoiblibminhojaa
open Go.RowKit Go.Proofs

theorem make_zeros (k : Nat) (z : Int) (hz : z = (k : Int)) (hk : k ≤ 1000) (u : World) : (Instr.makeSlice 47 (.int .i64 z) (.int .i64 z)).run Try.prog u =
    .ok (.slice (some ⟨u.heap.size, 0, none⟩) k k) (u.alloc (.cells (madeCells #[.int .u8 0] k) 5)) := by
  subst hz
  obtain ⟨i0, hi, hz0, hz1, hz2⟩ := info_parts infoB8
  have h := run_make (P := Try.prog) u 47 5 i0 (.int .u8 0) Try.underlying47 hi hz0 .i64 .i64 (k : Int) (k : Int) (by omega) (Int.le_refl _) (by rw [hz2]; omega) (by omega)
  have e : (k : Int).toNat = k := by omega
  rw [e] at h
  simpa [hz1, Value.cells] using h
theorem text_zeros (k : Nat) (u : World) : (convert 47 9 (.slice (some ⟨u.heap.size, 0, none⟩) k k)).run Try.prog (u.alloc (.cells (madeCells #[.int .u8 0] k) 5)) = .ok (.string (S (List.replicate k 0))) (u.alloc (.cells (madeCells #[.int .u8 0] k) 5)) := by
  have h := run_convert_bytes_back (P := Try.prog) (u.alloc (.cells (madeCells #[.int .u8 0] k) 5)) 47 9 5 ⟨u.heap.size, 0, none⟩ k (List.replicate k 0) Try.underlying47 Try.underlying5 Try.underlying9 (fun j hj => by
    rw [Addr.add_lit, Nat.zero_add]
    have hh := heap_alloc_new u (.cells (madeCells #[.int .u8 0] k) 5)
    rw [List.length_replicate] at hj
    simp only [World.cell?, hh]
    rw [← Array.getElem?_toList, toList_madeCells_one, List.getElem?_replicate, if_pos hj]
    simp)
  rw [List.length_replicate] at h
  exact h
end Go.Proofs.Ytoiblibminhojaa
