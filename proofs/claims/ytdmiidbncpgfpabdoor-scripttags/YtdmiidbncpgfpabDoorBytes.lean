/-
  Rows of bytes that a call has made, and the text that they are turned into.
-/
import Derived.Test.YtdmiidbncpgfpabDoorRows
import Derived.Test.YtdmiidbncpgfpabDoorPure
import Derived.Test.YtdmiidbncpgfpabDoorLetPure
import Derived.WalkKit
import Derived.WalkSpells
import Derived.WalkLawsBesides
import Derived.Laws.IdiomStrings
namespace Go.Proofs.YtdmiidbncpgfpabDoor
open Go.RowKit

theorem infoB8 : (Tryd.prog.info? 5).map (fun i => (i.zero, i.size, i.bytes)) = some (some (.int .u8 0), 1, 1) := by kernel_rfl
def bytesC (l : List UInt8) : List Value := l.map fun c => .int .u8 c.toNat
theorem bytesC_snoc (l : List UInt8) (c : UInt8) (x : Int) (hx : (c.toNat : Int) = x) : bytesC (l ++ [c]) = bytesC l ++ [.int .u8 x] := by
  simp [bytesC, ← hx]
theorem bytesC_back {w : World} {base n : Nat} {v : Value} {l : List UInt8} (h : w.ownsRow base 5 1 v n (bytesC l)) :
    (convert 82 9 v).run Tryd.prog w = .ok (.string (S l)) w := by
  have hl : l.length = n := by have := h.1; simpa [bytesC] using this
  rcases h.2 with ⟨rfl, hn⟩ | ⟨g, cap, cur, rfl, _⟩
  · rw [run_convert_bytes_nil w 82 5 Tryd.underlying82 Tryd.underlying5 0 0 9 Tryd.underlying9]
    have : l = [] := List.length_eq_zero_iff.1 (by omega)
    subst this
    rfl
  · have := run_convert_bytes_back (P := Tryd.prog) w 82 9 5 ⟨g, 0, none⟩ cap l Tryd.underlying82 Tryd.underlying5 Tryd.underlying9 (fun j hj => by
      have e : (⟨g, 0, none⟩ : Addr).add j = ⟨g, j, none⟩ := by simp [Addr.add]; omega
      rw [e, h.cellAt j (by omega)]
      simp [bytesC, hj])
    rw [hl] at this
    exact this

theorem own_form {w : World} {base : Nat} {e : TypeId} {size : Nat} {v : Value} {n : Nat} {xs : List Value} (h : w.ownsRow base e size v n xs) : ∃ a c, v = .slice a n c := by
  rcases h.2 with ⟨hv, rfl⟩ | ⟨g, cap, cur, hv, _⟩
  · exact ⟨_, _, hv⟩
  · exact ⟨_, _, hv⟩
theorem cell_one_fresh (w : World) (x : Value) (t : TypeId) : ∀ (j : Nat) u, [x][j]? = some u → (w.alloc (.cells #[x] t)).cell? ((⟨w.heap.size, 0, none⟩ : Addr).add j) = some u := by
  intro j u hj
  rw [Addr.add_lit, Nat.zero_add]
  match j, hj with
  | 0, hj => simp at hj; subst hj; simp
end Go.Proofs.YtdmiidbncpgfpabDoor
