/-
  What letter.Check does: the walk.
-/
import Derived.Test.YtdpdcaglldojiaaDoorLetMem
namespace Go.Proofs.YtdpdcaglldojiaaDoor
open Go.RowKit

/-- What is far from every machine's bounds. -/
def Mild (fs : List F) (body : ByteArray) : Prop := fs.length ≤ 2000000 ∧ body.size ≤ 2000000 ∧ ∀ f ∈ fs, f.1.length ≤ 2000000 ∧ f.2.length ≤ 2000000
theorem sumF_bd {fs : List F} (h : ∀ f ∈ fs, f.1.length ≤ 2000000 ∧ f.2.length ≤ 2000000) : sumF fs ≤ fs.length * 4000004 := by
  induction fs with
  | nil => simp [sumF]
  | cons f fs ih =>
    have h1 := h f (by simp)
    have h2 := ih fun g hg => h g (by simp [hg])
    have e : sumF (f :: fs) = sizeF f + sumF fs := by simp [sumF]
    rw [e]
    simp only [sizeF, List.length_cons]
    omega
theorem all_take {fs : List F} {k : Nat} {f : F} (h : fs[k]? = some f) (ha : (fs.take k).all mayF = true) (hf : mayF f = true) : (fs.take (k + 1)).all mayF = true := by
  rw [take_some h, List.all_append, ha]; simp [hf]
theorem all_no {fs : List F} {k : Nat} {f : F} (h : fs[k]? = some f) (hf : mayF f = false) : fs.all mayF = false := by
  have hm : f ∈ fs := List.mem_of_getElem? h
  cases e : fs.all mayF with
  | false => rfl
  | true => rw [List.all_eq_true] at e; rw [e f hm] at hf; cases hf

set_option maxHeartbeats 1000000 in
theorem check_any (a : Option Addr) (c : Nat) (fs : List F) (body : ByteArray) (w : World) (hF : FieldsAt w a fs) (hM : Mild fs body) (hm : maxLenCell w) :
    Calls Tryd.prog 20 #[.agg #[.slice a fs.length c, .string body]] w fun e w' => e = .returned (.int .i64 (faultM fs body.data.toList)) ∧ Below w.heap.size w w' := by
  obtain ⟨hM1, hM2, hM3⟩ := hM
  by_cases h30 : 30 < fs.length
  · have HR : Hid (faultM fs body.data.toList = 5) := by unfold Hid faultM; rw [if_pos h30]
    go_enter Tryd.func20, Tryd.ntmps20
    go_wp2
    go_ret
    exact ⟨ret_int HR.out.symm, (Below.refl _ _).alloc (Nat.le_refl _) _⟩
  · have HM3 : Hid _ := hM3
    clear hM3
    go_enter Tryd.func20, Tryd.ntmps20
    go_wp2
    go_loopw [12] (fun i wr => ∃ k : Nat, k ≤ fs.length ∧ i = .int .i64 k ∧ Hid ((fs.take k).all mayF = true) ∧ Below w.heap.size w wr ∧ wr.cell? ⟨w.heap.size, 0, none⟩ = some (.slice a fs.length c) ∧ wr.cell? ⟨w.heap.size, 1, none⟩ = some (.string body) ∧ w.heap.size < wr.heap.size) (fun i _ => fs.length - (intOf i).toNat)
    case atStart => exact ⟨0, Nat.zero_le _, rfl, by simp [Hid], (Below.refl _ _).alloc (Nat.le_refl _) _, by simp, by simp, by simp⟩
    case round =>
      obtain ⟨k, hk, rfl, HA, hB, hc0, hc1, hsz⟩ := hrel
      have hmr := maxLenCell_below hm hB
      by_cases hlt : k < fs.length
      · obtain ⟨f, hf⟩ : ∃ f, fs[k]? = some f := ⟨_, List.getElem?_eq_getElem hlt⟩
        have hbd := HM3.out f (List.mem_of_getElem? hf)
        obtain ⟨b, off, rfl, hb, h1, h2⟩ := (hF.below hB) k f hf
        have HN : Hid (nameB (S f.1).data.toList = nameB f.1) := by unfold Hid; rw [list_S]
        have HV : Hid (valueB (S f.2).data.toList = valueB f.2) := by unfold Hid; rw [list_S]
        have hs1 : (S f.1).size ≤ 2000000 := by rw [size_S]; exact hbd.1
        have hs2 : (S f.2).size ≤ 2000000 := by rw [size_S]; exact hbd.2
        have HF : Hid _ := hf
        clear hf hbd
        cases hn : nameB f.1 with
        | false =>
          have HE : Hid (faultM fs body.data.toList = 3) := by
            unfold Hid faultM; rw [if_neg h30, if_pos (all_no HF.out (by simp [mayF, hn]))]
          have HX : Hid _ := hn
          clear hn
          go_wp2_with fail
          refine (isName_any _ _ (by unfold maxLen; omega)).mono ?_
          rintro e u ⟨rfl, rfl⟩
          rw [HN.out, HX.out]
          go_wp2
          go_ret
          exact ⟨ret_int HE.out.symm, hB.alloc hB.size _⟩
        | true =>
          have HX : Hid _ := hn
          clear hn
          cases hv : valueB f.2 with
          | false =>
            have HE : Hid (faultM fs body.data.toList = 3) := by
              unfold Hid faultM; rw [if_neg h30, if_pos (all_no HF.out (by simp [mayF, hv]))]
            have HY : Hid _ := hv
            clear hv
            go_wp2_with fail
            refine (isName_any _ _ (by unfold maxLen; omega)).mono ?_
            rintro e u ⟨rfl, rfl⟩
            rw [HN.out, HX.out]
            go_wp2_with fail
            refine (isValue_any _ _ (by omega) (maxLenCell_below hmr ((Below.refl _ _).alloc (Nat.le_refl _) _))).mono ?_
            rintro e u ⟨rfl, hb2⟩
            rw [HV.out, HY.out]
            go_wp2
            go_ret
            exact ⟨ret_int HE.out.symm, bnext (hB.alloc hB.size _) hb2 (Nat.le_refl _)⟩
          | true =>
            have HA2 : Hid _ := all_take HF.out HA.out (by simp [mayF, HX.out, hv])
            have HY : Hid _ := hv
            clear hv
            go_wp2_with fail
            refine (isName_any _ _ (by unfold maxLen; omega)).mono ?_
            rintro e u ⟨rfl, rfl⟩
            rw [HN.out, HX.out]
            go_wp2_with fail
            refine (isValue_any _ _ (by omega) (maxLenCell_below hmr ((Below.refl _ _).alloc (Nat.le_refl _) _))).mono ?_
            rintro e u ⟨rfl, hb2⟩
            rw [HV.out, HY.out]
            go_wp2
            go_roundw
            case rel => exact ⟨k + 1, by omega, by go_num, HA2.out, bnext (hB.alloc hB.size _) hb2 (Nat.le_refl _), cell_next (cell_more hc0 _) hb2, cell_next (cell_more hc1 _) hb2, by have := hb2.size; simp at this; omega⟩
            case measure => simp [intOf]; omega
      · have HT : Hid (fs.take k = fs) := List.take_of_length_le (by omega)
        have hsum := sumF_bd HM3.out
        by_cases hbig : 2000 < 2 + body.data.toList.length + sumF fs
        · have HE : Hid (faultM fs body.data.toList = 1) := by
            have := HA.out; rw [HT.out] at this
            unfold Hid faultM; rw [if_neg h30, if_neg (by simp [this]), if_pos hbig]
          rw [size_list] at hbig
          go_wp2_with fail
          refine (shownSize_any a c fs body _ (hF.below hB) (by omega) (by omega)).mono ?_
          rintro e u ⟨rfl, hb2⟩
          go_wp2
          go_ret
          exact ⟨ret_int HE.out.symm, bnext hB hb2 (Nat.le_refl _)⟩
        · have HE : Hid (faultM fs body.data.toList = 0) := by
            have := HA.out; rw [HT.out] at this
            unfold Hid faultM; rw [if_neg h30, if_neg (by simp [this]), if_neg hbig]
          rw [size_list] at hbig
          go_wp2_with fail
          refine (shownSize_any a c fs body _ (hF.below hB) (by omega) (by omega)).mono ?_
          rintro e u ⟨rfl, hb2⟩
          go_wp2
          go_ret
          exact ⟨ret_int HE.out.symm, bnext hB hb2 (Nat.le_refl _)⟩
end Go.Proofs.YtdpdcaglldojiaaDoor
