/-
  What letter.Show does: the walk.
-/
import Derived.Test.YtpkfafglpilkoaaDoorLetCheck
import Derived.Test.YtpkfafglpilkoaaDoorLetBuild
namespace Go.Proofs.YtpkfafglpilkoaaDoor
open Go.RowKit

theorem app_list (a b : ByteArray) : (a ++ b).data.toList = a.data.toList ++ b.data.toList := by
  simp [ByteArray.data_append]
theorem field_list (f : F) : ((S f.1 ++ ⟨#[58, 32]⟩ ++ S f.2 ++ ⟨#[13, 10]⟩ : ByteArray)).data.toList = textF f := by
  simp only [app_list, list_S, textF]

theorem fault_few {fs : List F} {body : List UInt8} (h : faultM fs body = 0) : fs.length ≤ 30 ∧ (∀ f ∈ fs, mayF f = true) ∧ 2 + body.length + sumF fs ≤ 2000 := by
  unfold faultM at h
  by_cases h1 : 30 < fs.length
  · rw [if_pos h1] at h; cases h
  · rw [if_neg h1] at h
    by_cases h2 : fs.all mayF = false
    · rw [if_pos h2] at h; cases h
    · rw [if_neg h2] at h
      by_cases h3 : 2000 < 2 + body.length + sumF fs
      · rw [if_pos h3] at h; cases h
      · exact ⟨by omega, by simpa using h2, by omega⟩

set_option maxHeartbeats 1000000 in
theorem show_bad (a : Option Addr) (c : Nat) (fs : List F) (body : ByteArray) (w : World) (hF : FieldsAt w a fs) (hM : Mild fs body) (hm : maxLenCell w) (n : Int) (hf : faultM fs body.data.toList = n) (hn : (n == 0) = false) :
    Calls Tryd.prog 13 #[.agg #[.slice a fs.length c, .string body]] w fun e w' => e = .returned (.tuple #[.string ByteArray.empty, .int .i64 n]) ∧ Below w.heap.size w w' := by
  have hB0 : ∀ o, Below w.heap.size w (w.alloc o) := fun o => (Below.refl _ _).alloc (Nat.le_refl _) o
  have HF : Hid _ := hf
  clear hf
  go_enter Tryd.func13, Tryd.ntmps13
  go_wp2_with fail
  refine (check_any a c fs body _ (hF.below (hB0 _)) hM (maxLenCell_below hm (hB0 _))).mono ?_
  rintro e w1 ⟨rfl, hb1⟩
  rw [HF.out]
  go_wp2
  go_ret2
  exact ⟨rfl, bnext (hB0 _) hb1 (Nat.le_refl _)⟩

set_option maxHeartbeats 2000000 in
theorem show_ok (a : Option Addr) (c : Nat) (fs : List F) (body : ByteArray) (w : World) (hF : FieldsAt w a fs) (hM : Mild fs body) (hm : maxLenCell w) (hf : faultM fs body.data.toList = 0) :
    Calls Tryd.prog 13 #[.agg #[.slice a fs.length c, .string body]] w fun e w' => e = .returned (.tuple #[.string (S (textM fs body.data.toList)), .int .i64 0]) ∧ Below w.heap.size w w' := by
  have hB0 : ∀ o, Below w.heap.size w (w.alloc o) := fun o => (Below.refl _ _).alloc (Nat.le_refl _) o
  have HX : Hid _ := fault_few hf
  have hl := HX.out.1
  have HF : Hid _ := hf
  clear hf
  go_enter Tryd.func13, Tryd.ntmps13
  go_wp2_with fail
  refine (check_any a c fs body _ (hF.below (hB0 _)) hM (maxLenCell_below hm (hB0 _))).mono ?_
  rintro e w1 ⟨rfl, hb1⟩
  have p0 : w1.cell? ⟨w.heap.size, 0, none⟩ = some (.slice a fs.length c) := cell_next (by simp) hb1
  have p1 : w1.cell? ⟨w.heap.size, 1, none⟩ = some (.string body) := cell_next (by simp) hb1
  have hB1 := bnext (hB0 _) hb1 (Nat.le_refl _)
  have hF1 := hF.below hB1
  have hz : w.heap.size < w1.heap.size := by have := hb1.size; simp at this; omega
  rw [HF.out]
  go_wp2
  go_loopw [16] (fun i wr => ∃ k : Nat, k ≤ fs.length ∧ i = .int .i64 k ∧ Lib.IsBuilderF 51 5 w1.heap.size w1.heap.size (Lib.byteCells (linesF (fs.take k))) wr ∧ Below w1.heap.size w1 wr) (fun i _ => fs.length - (intOf i).toNat)
  case atStart => exact ⟨0, Nat.zero_le _, rfl, by simpa [linesF, Lib.byteCells] using Lib.IsBuilderF.of (Lib.fresh_isBuilder 51 5 w1), (Below.refl _ _).alloc (Nat.le_refl _) _⟩
  case round =>
    obtain ⟨k, hk, rfl, hI, hB⟩ := hrel
    have hle : (linesF (fs.take k)).length ≤ 2000 := by
      rw [length_linesF]; have := sumF_le fs k; have := HX.out.2.2; omega
    by_cases hlt : k < fs.length
    · obtain ⟨f, hf⟩ : ∃ f, fs[k]? = some f := ⟨_, List.getElem?_eq_getElem hlt⟩
      obtain ⟨b, off, rfl, hb, h1, h2⟩ := (hF1.below hB) k f hf
      have hfb := hM.2.2 f (List.mem_of_getElem? hf)
      have HL : Hid (linesF (fs.take (k + 1)) = linesF (fs.take k) ++ textF f) := by unfold Hid; rw [take_some hf, linesF_snoc]
      have HZ : Hid ((S f.1 ++ ⟨#[58, 32]⟩ ++ S f.2 ++ ⟨#[13, 10]⟩ : ByteArray).size ≤ 5000000) := by
        unfold Hid; rw [← size_list, field_list, length_textF]; unfold sizeF; omega
      have hs1 : (S f.1).size ≤ 2000000 := by rw [size_S]; exact hfb.1
      have hs2 : (S f.2).size ≤ 2000000 := by rw [size_S]; exact hfb.2
      clear hf hfb
      go_wp2_with fail
      refine (writeString_any w1.heap.size w1.heap.size _ _ _ (hI.alloc _) ?hl ?hs).mono ?_
      case hl => have := HZ.out; rw [Lib.byteCells_length]; omega
      case hs => have := hB.size; simp; omega
      rintro e w2 ⟨rfl, hI2, hb2, _⟩
      go_wp2
      go_roundw
      case rel => first | exact ⟨k + 1, by omega, by go_num, by rw [HL.out, Lib.byteCells_append]; rwa [Lib.strCells_eq, field_list] at hI2, (hB.alloc hB.size _).trans hb2⟩ | ((repeat apply Exists.intro); exact ⟨⟨k + 1, by omega, by go_num, by rw [HL.out, Lib.byteCells_append]; rwa [Lib.strCells_eq, field_list] at hI2, (hB.alloc hB.size _).trans hb2⟩, rfl⟩) | (refine ⟨trivial, ?_⟩; (repeat apply Exists.intro); exact ⟨⟨k + 1, by omega, by go_num, by rw [HL.out, Lib.byteCells_append]; rwa [Lib.strCells_eq, field_list] at hI2, (hB.alloc hB.size _).trans hb2⟩, rfl⟩)
      case measure => simp [intOf]; omega
    · have HT : Hid (fs.take k = fs) := List.take_of_length_le (by omega)
      have q1 : wr.cell? ⟨w.heap.size, 1, none⟩ = some (.string body) := cell_next p1 hB
      have hbd := hM.2.1
      have HZ : Hid ((⟨#[13, 10]⟩ ++ body : ByteArray).size ≤ 5000000) := by
        unfold Hid; rw [← size_list, app_list, List.length_append, size_list body]; simp; omega
      go_wp2_with fail
      refine (writeString_any w1.heap.size w1.heap.size _ _ _ hI ?hl hB.size).mono ?_
      case hl => have := HZ.out; rw [Lib.byteCells_length]; omega
      rintro e w2 ⟨rfl, hI2, hb2, _⟩
      rw [Lib.strCells_eq, ← Lib.byteCells_append] at hI2
      go_wp2_with fail
      refine (Tryd.Builder_String_any_k w1.heap.size w1.heap.size _ _ hI2 (by have := hB.size; have := hb2.size; omega)).mono ?_
      rintro e w3 ⟨rfl, _, hb3, _⟩
      go_wp2
      go_ret2
      refine ⟨?_, bnext hB1 ((hB.trans hb2).trans hb3) (Nat.le_refl _)⟩
      have := HT.out
      simp [textM, S, this]
end Go.Proofs.YtpkfafglpilkoaaDoor
