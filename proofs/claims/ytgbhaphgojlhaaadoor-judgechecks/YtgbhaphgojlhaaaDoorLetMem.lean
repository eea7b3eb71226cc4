/-
  Rows of fields in memory; what letter.isValue and letter.shownSize do: the walks.
-/
import Derived.Test.YtgbhaphgojlhaaaDoorRows
import Derived.Test.YtgbhaphgojlhaaaDoorPure
import Derived.Test.YtgbhaphgojlhaaaDoorLetPure
import Derived.Test.YtgbhaphgojlhaaaDoorLetName
import Derived.Test.YtgbhaphgojlhaaaDoorShelf
namespace Go.Proofs.YtgbhaphgojlhaaaDoor
open Go.RowKit

/-- The fields lie in memory from a place on, two texts each. -/
def FieldsAt (w : World) (a : Option Addr) (fs : List F) : Prop :=
  ∀ (i : Nat) f, fs[i]? = some f → ∃ b off, a = some ⟨b, off, none⟩ ∧ b < w.heap.size ∧ w.cell? ⟨b, off + i * 2, none⟩ = some (.string (S f.1)) ∧ w.cell? ⟨b, off + i * 2 + 1, none⟩ = some (.string (S f.2))
theorem FieldsAt.below {w w' : World} {a : Option Addr} {fs : List F} (h : FieldsAt w a fs) (hb : Below w.heap.size w w') : FieldsAt w' a fs := by
  intro i f hf
  obtain ⟨b, off, ha, hlt, h1, h2⟩ := h i f hf
  exact ⟨b, off, ha, Nat.lt_of_lt_of_le hlt hb.size, (hb.cell (p := ⟨b, off + i * 2, none⟩) hlt).trans h1, (hb.cell (p := ⟨b, off + i * 2 + 1, none⟩) hlt).trans h2⟩

theorem cell_more {w : World} {p : Addr} {v : Value} (h : w.cell? p = some v) (o : Obj) : (w.alloc o).cell? p = some v :=
  (((Below.refl w.heap.size w).alloc (Nat.le_refl _) o).cell (World.block_lt_of_cell? w _ h)).trans h
theorem cell_next {w w' : World} {p : Addr} {v : Value} (h : w.cell? p = some v) (hb : Below w.heap.size w w') : w'.cell? p = some v :=
  (hb.cell (World.block_lt_of_cell? w _ h)).trans h
theorem bdrew {B : Nat} {a w : World} (h : Below B a w) (n : Nat) : Below B a (w.drewN n) := h.trans ⟨rfl, rfl, rfl, Nat.le_refl _, fun _ _ => rfl⟩
theorem bnext {B : Nat} {a b c : World} (h : Below B a b) (k : Below b.heap.size b c) (hB : B ≤ a.heap.size) : Below B a c := h.trans (k.mono (Nat.le_trans hB h.size))
theorem bmore {B : Nat} {a b : World} (h : Below B a b) (hB : B ≤ a.heap.size) (o : Obj) : Below B a (b.alloc o) := h.alloc (Nat.le_trans hB h.size) o

end Go.Proofs.YtgbhaphgojlhaaaDoor
