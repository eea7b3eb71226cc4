/-
  Rows of fields in memory; what letter.isValue and letter.shownSize do: the walks.
-/
import Derived.Test.YtpkfafglpilkoaaDoorRows
import Derived.Test.YtpkfafglpilkoaaDoorPure
import Derived.Test.YtpkfafglpilkoaaDoorLetPure
import Derived.Test.YtpkfafglpilkoaaDoorLetName
import Derived.Test.YtpkfafglpilkoaaDoorShelf
namespace Go.Proofs.YtpkfafglpilkoaaDoor
open Go.RowKit

/-- The fields lie in memory from a place on, two texts each. -/
def FieldsAt (w : World) (a : Option Addr) (fs : List F) : Prop :=
  ∀ (i : Nat) f, fs[i]? = some f → ∃ b off, a = some ⟨b, off, none⟩ ∧ b < w.heap.size ∧ w.cell? ⟨b, off + i * 2, none⟩ = some (.string (S f.1)) ∧ w.cell? ⟨b, off + i * 2 + 1, none⟩ = some (.string (S f.2))
theorem FieldsAt.below {w w' : World} {a : Option Addr} {fs : List F} (h : FieldsAt w a fs) (hb : Below w.heap.size w w') : FieldsAt w' a fs := by
  intro i f hf
  obtain ⟨b, off, ha, hlt, h1, h2⟩ := h i f hf
  exact ⟨b, off, ha, Nat.lt_of_lt_of_le hlt hb.size, (hb.cell (p := ⟨b, off + i * 2, none⟩) hlt).trans h1, (hb.cell (p := ⟨b, off + i * 2 + 1, none⟩) hlt).trans h2⟩

theorem cell_more {w : World} {p : Addr} {v : Value} (h : w.cell? p = some v) (o : Obj) : (w.alloc o).cell? p = some v :=
  (((Below.refl w.heap.size w).alloc (Nat.le_refl _) o).cell (World.block_lt_of_cell? w _ h)).trans h
theorem cell_next {w w' : World} {p : Addr} {v : Value} (h : w.cell? p = some v) (hb : Below w.heap.size w w') : w'.cell? p = some v :=
  (hb.cell (World.block_lt_of_cell? w _ h)).trans h
theorem bdrew {B : Nat} {a w : World} (h : Below B a w) (n : Nat) : Below B a (w.drewN n) := h.trans ⟨rfl, rfl, rfl, Nat.le_refl _, fun _ _ => rfl⟩
theorem bnext {B : Nat} {a b c : World} (h : Below B a b) (k : Below b.heap.size b c) (hB : B ≤ a.heap.size) : Below B a c := h.trans (k.mono (Nat.le_trans hB h.size))
theorem bmore {B : Nat} {a b : World} (h : Below B a b) (hB : B ≤ a.heap.size) (o : Obj) : Below B a (b.alloc o) := h.alloc (Nat.le_trans hB h.size) o

set_option maxHeartbeats 400000 in
theorem isValue_any (s : ByteArray) (w : World) (hs : s.size < 4294967281) (hm : maxLenCell w) :
    Calls Tryd.prog 23 #[.string s] w fun e w' => e = .returned (.bool (valueB s.data.toList)) ∧ Below w.heap.size w w' := by
  cases hE : hasEnd s.data.toList with
  | true =>
    have HV : Hid (valueB s.data.toList = false) := by simp [Hid, valueB, hE]
    have HE : Hid (Lib.contains s.data.toList [13, 10] = true) := hE
    clear hE
    go_enter Tryd.func23, Tryd.ntmps23
    go_wp2_with fail
    refine (contains_any s ⟨#[13, 10]⟩ _ hs hm).mono ?_
    rintro e u ⟨rfl, rfl⟩
    rw [HE.out]
    go_wp2
    go_ret
    exact ⟨ret_bool HV.out.symm, Below.refl _ _⟩
  | false =>
    have HV : Hid (valueB s.data.toList = (trimW s.data.toList == s.data.toList)) := by simp [Hid, valueB, hE]
    have HE : Hid (Lib.contains s.data.toList [13, 10] = false) := hE
    clear hE
    go_enter Tryd.func23, Tryd.ntmps23
    go_wp2_with fail
    refine (contains_any s ⟨#[13, 10]⟩ _ hs hm).mono ?_
    rintro e u ⟨rfl, rfl⟩
    rw [HE.out]
    go_wp2_with fail
    refine (trim_any s _ (by omega)).mono ?_
    rintro e u2 ⟨rfl, hb⟩
    go_wp2
    go_ret
    exact ⟨ret_bool (by rw [HV.out]; simp only [Lib.toList_data, trimW]), hb⟩

set_option maxHeartbeats 400000 in
theorem shownSize_any (a : Option Addr) (c : Nat) (fs : List F) (body : ByteArray) (w : World) (hF : FieldsAt w a fs) (hl : fs.length ≤ 1000000) (hbd : body.size + sumF fs ≤ 1000000000000) :
    Calls Tryd.prog 24 #[.agg #[.slice a fs.length c, .string body]] w fun e w' => e = .returned (.int .i64 ((2 + body.size + sumF fs : Nat) : Int)) ∧ Below w.heap.size w w' := by
  have hb0 : body.size ≤ 1000000000000 := by omega
  have HB : Hid _ := hbd
  clear hbd
  go_enter Tryd.func24, Tryd.ntmps24
  go_wp2
  go_loopw [3, 13] (fun n i wr => ∃ k : Nat, k ≤ fs.length ∧ i = .int .i64 k ∧ n = .int .i64 ((2 + body.size + sumF (fs.take k) : Nat) : Int) ∧ Below w.heap.size w wr) (fun _ i _ => fs.length - (intOf i).toNat)
  case atStart => exact ⟨0, Nat.zero_le _, rfl, by simp [sumF], (Below.refl _ _).alloc (Nat.le_refl _) _⟩
  case round =>
    obtain ⟨k, hk, rfl, rfl, hB⟩ := hrel
    by_cases hlt : k < fs.length
    · obtain ⟨f, hf⟩ : ∃ f, fs[k]? = some f := ⟨_, List.getElem?_eq_getElem hlt⟩
      obtain ⟨b, off, rfl, hb, h1, h2⟩ := (hF.below hB) k f hf
      have HS : Hid _ := sumF_take hf
      have h3 := sumF_le fs (k + 1)
      rw [HS.out] at h3
      have h4 : (S f.1).size + (S f.2).size + 4 = sizeF f := by simp [size_S, sizeF]
      have h5 : sumF (fs.take k) + ((S f.1).size + (S f.2).size + 4) ≤ 1000000000000 := by have := HB.out; omega
      have H4 : Hid _ := h4
      clear h3 h4
      go_wp2
      go_roundw
      case rel => exact ⟨k + 1, by omega, by go_num, by rw [HS.out, ← H4.out]; go_num, hB.alloc hB.size _⟩
      case measure => simp [intOf]; omega
    · have h5 : sumF (fs.take k) ≤ 1000000000000 := by have := HB.out; have := sumF_le fs k; omega
      have HT : Hid (fs.take k = fs) := List.take_of_length_le (by omega)
      go_wp2
      go_ret
      exact ⟨ret_int (by rw [HT.out]), hB⟩
end Go.Proofs.YtpkfafglpilkoaaDoor
