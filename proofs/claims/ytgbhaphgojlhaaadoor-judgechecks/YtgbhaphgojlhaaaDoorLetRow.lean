/-
  Rows of fields that a call makes.
-/
import Derived.Test.YtgbhaphgojlhaaaDoorLetMem
import Derived.Deep.QuietTactic
import Derived.BigQuiet
import Derived.Deep.RegionLaw
import Derived.Deep.AppendLies
namespace Go.Proofs.YtgbhaphgojlhaaaDoor
open Go.RowKit

theorem infoField : (Tryd.prog.info? 63).map (fun i => (i.zero, i.size, i.bytes)) = some (some (.agg #[.string ByteArray.empty, .string ByteArray.empty]), 2, 32) := by kernel_rfl

/-- The fields' cells. -/
def cellsF (fs : List F) : List Value := fs.flatMap fun f => [.string (S f.1), .string (S f.2)]
theorem cellsF_length (fs : List F) : (cellsF fs).length = fs.length * 2 := by
  induction fs with
  | nil => rfl
  | cons f fs ih => simp [cellsF] at ih ⊢; omega
theorem cellsF_append (a b : List F) : cellsF (a ++ b) = cellsF a ++ cellsF b := by simp [cellsF]
theorem cellsF_one (f : F) : cellsF [f] = [.string (S f.1), .string (S f.2)] := by simp [cellsF]
theorem cellsF_get {fs : List F} {i : Nat} {f : F} (h : fs[i]? = some f) : (cellsF fs)[i * 2]? = some (.string (S f.1)) ∧ (cellsF fs)[i * 2 + 1]? = some (.string (S f.2)) := by
  induction fs generalizing i with
  | nil => simp at h
  | cons g fs ih =>
    cases i with
    | zero => simp at h; subst h; simp [cellsF]
    | succ i =>
      have := ih (i := i) (by simpa using h)
      have e1 : (i + 1) * 2 = i * 2 + 2 := by omega
      rw [e1]
      simpa [cellsF] using this
theorem cellsF_one' {fs : List F} : ∀ u ∈ cellsF fs, u.oneCell' = true := by
  intro u hu
  simp only [cellsF, List.mem_flatMap] at hu
  obtain ⟨f, _, hu⟩ := hu
  simp at hu
  rcases hu with rfl | rfl <;> rfl
theorem cellsF_at {w : World} {a : Option Addr} {b off : Nat} {fs : List F} (hF : FieldsAt w a fs) (ha : a = some ⟨b, off, none⟩) :
    ∀ (j : Nat) u, (cellsF fs)[j]? = some u → w.cell? ((⟨b, off, none⟩ : Addr).add j) = some u := by
  intro j u hu
  have hj : j < fs.length * 2 := by
    rw [← cellsF_length]
    rcases Nat.lt_or_ge j (cellsF fs).length with h | h
    · exact h
    · rw [List.getElem?_eq_none h] at hu; cases hu
  obtain ⟨f, hf⟩ : ∃ f, fs[j / 2]? = some f := ⟨_, List.getElem?_eq_getElem (by omega)⟩
  obtain ⟨b', off', ha', _, h1, h2⟩ := hF _ f hf
  rw [ha] at ha'
  simp only [Option.some.injEq, Addr.mk.injEq, and_true] at ha'
  obtain ⟨rfl, rfl⟩ := ha'
  obtain ⟨g1, g2⟩ := cellsF_get hf
  rcases Nat.mod_two_eq_zero_or_one j with e | e
  · have : j / 2 * 2 = j := by omega
    rw [this] at g1 h1
    rw [g1] at hu
    rw [Addr.add_lit, h1]; exact hu
  · have : j / 2 * 2 + 1 = j := by omega
    rw [this] at g2
    rw [Nat.add_assoc, this] at h2
    rw [g2] at hu
    rw [Addr.add_lit, h2]; exact hu
/-- A row that the call has made, as fields. -/
theorem fields_own {w : World} {base g cap : Nat} {fs : List F} (h : w.ownsRow base 63 2 (.slice (some ⟨g, 0, none⟩) fs.length cap) fs.length (cellsF fs)) (hg : g < w.heap.size) : FieldsAt w (some ⟨g, 0, none⟩) fs := by
  intro i f hf
  have hi : i < fs.length := by
    rcases Nat.lt_or_ge i fs.length with h | h
    · exact h
    · rw [List.getElem?_eq_none h] at hf; cases hf
  obtain ⟨h1, h2⟩ := cellsF_get hf
  refine ⟨g, 0, rfl, hg, ?_, ?_⟩
  · rw [Nat.zero_add, h.cellAt _ (by omega)]; exact h1
  · rw [Nat.zero_add, h.cellAt _ (by omega)]; exact h2
theorem cell_set_far {w : World} {p a : Addr} {v : Value} (h : p.block ≠ a.block) : (w.setCell p v).cell? a = w.cell? a :=
  World.cell?_of_block (heap_setCell_other w p a.block v (fun e => h e.symm))
theorem FieldsAt.set {w : World} {g : Nat} {fs : List F} (h : FieldsAt w (some ⟨g, 0, none⟩) fs) {p : Addr} (v : Value) (hp : p.block ≠ g) : FieldsAt (w.setCell p v) (some ⟨g, 0, none⟩) fs := by
  intro i f hf
  obtain ⟨b, off, ha, hb, h1, h2⟩ := h i f hf
  simp only [Option.some.injEq, Addr.mk.injEq, and_true] at ha
  obtain ⟨rfl, rfl⟩ := ha
  exact ⟨_, _, rfl, by simpa using hb, (cell_set_far hp).trans h1, (cell_set_far hp).trans h2⟩
theorem own_base {w : World} {base e size g n cap m : Nat} {xs : List Value} (h : w.ownsRow base e size (.slice (some ⟨g, 0, none⟩) n cap) m xs) : base ≤ g := by
  rcases h.2 with ⟨h', _⟩ | ⟨g', cap', cur, h', hb, _⟩
  · cases h'
  · simp only [Value.slice.injEq, Option.some.injEq, Addr.mk.injEq, and_true] at h'
    omega
theorem fields_nil (w : World) (a : Option Addr) : FieldsAt w a [] := by intro i f hf; simp at hf

end Go.Proofs.YtgbhaphgojlhaaaDoor
