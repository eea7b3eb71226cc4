/-
  What letter.isValue and letter.shownSize do: the walks.
  What letter.Check does: the walk.
  What a strings.Builder does that the call has made itself: writing a text, and handing it over: the walks.
  What letter.Show does: the walk.
-/
import Derived.Test.YtkciflocpelhiaaGreatDoorLetPar
import Derived.Lib.OthersKept
namespace Go.Proofs.YtkciflocpelhiaaGreatDoor
open Go.RowKit

set_option maxHeartbeats 400000 in
theorem isValue_any (s : ByteArray) (w : World) (hs : s.size < 4294967281) (hm : maxLenCell w) :
    Calls Tryz.prog 43 #[.string s] w fun e w' => e = .returned (.bool (valueB s.data.toList)) ∧ Below w.heap.size w w' := by
  cases hE : hasEnd s.data.toList with
  | true =>
    have HV : Hid (valueB s.data.toList = false) := by simp [Hid, valueB, hE]
    have HE : Hid (Lib.contains s.data.toList [13, 10] = true) := hE
    clear hE
    go_enter Tryz.func43, Tryz.ntmps43
    go_wp2_with fail
    refine (contains_any s ⟨#[13, 10]⟩ _ hs hm).mono ?_
    rintro e u ⟨rfl, rfl⟩
    rw [HE.out]
    go_wp2
    go_ret
    exact ⟨ret_bool HV.out.symm, Below.refl _ _⟩
  | false =>
    have HV : Hid (valueB s.data.toList = (trimW s.data.toList == s.data.toList)) := by simp [Hid, valueB, hE]
    have HE : Hid (Lib.contains s.data.toList [13, 10] = false) := hE
    clear hE
    go_enter Tryz.func43, Tryz.ntmps43
    go_wp2_with fail
    refine (contains_any s ⟨#[13, 10]⟩ _ hs hm).mono ?_
    rintro e u ⟨rfl, rfl⟩
    rw [HE.out]
    go_wp2_with fail
    refine (trim_any s _ (by omega)).mono ?_
    rintro e u2 ⟨rfl, hb⟩
    go_wp2
    go_ret
    exact ⟨ret_bool (by rw [HV.out]; simp only [Lib.toList_data, trimW]), hb⟩

set_option maxHeartbeats 400000 in
theorem shownSize_any (a : Option Addr) (c : Nat) (fs : List F) (body : ByteArray) (w : World) (hF : FieldsAt w a fs) (hl : fs.length ≤ 1000000) (hbd : body.size + sumF fs ≤ 1000000000000) :
    Calls Tryz.prog 44 #[.agg #[.slice a fs.length c, .string body]] w fun e w' => e = .returned (.int .i64 ((2 + body.size + sumF fs : Nat) : Int)) ∧ Below w.heap.size w w' := by
  have hb0 : body.size ≤ 1000000000000 := by omega
  have HB : Hid _ := hbd
  clear hbd
  go_enter Tryz.func44, Tryz.ntmps44
  go_wp2
  go_loopw [3, 13] (fun n i wr => ∃ k : Nat, k ≤ fs.length ∧ i = .int .i64 k ∧ n = .int .i64 ((2 + body.size + sumF (fs.take k) : Nat) : Int) ∧ Below w.heap.size w wr) (fun _ i _ => fs.length - (intOf i).toNat)
  case atStart => exact ⟨0, Nat.zero_le _, rfl, by simp [sumF], (Below.refl _ _).alloc (Nat.le_refl _) _⟩
  case round =>
    obtain ⟨k, hk, rfl, rfl, hB⟩ := hrel
    by_cases hlt : k < fs.length
    · obtain ⟨f, hf⟩ : ∃ f, fs[k]? = some f := ⟨_, List.getElem?_eq_getElem hlt⟩
      obtain ⟨b, off, rfl, hb, h1, h2⟩ := (hF.below hB) k f hf
      have HS : Hid _ := sumF_take hf
      have h3 := sumF_le fs (k + 1)
      rw [HS.out] at h3
      have h4 : (S f.1).size + (S f.2).size + 4 = sizeF f := by simp [size_S, sizeF]
      have h5 : sumF (fs.take k) + ((S f.1).size + (S f.2).size + 4) ≤ 1000000000000 := by have := HB.out; omega
      have H4 : Hid _ := h4
      clear h3 h4
      go_wp2
      go_roundw
      case rel => exact ⟨k + 1, by omega, by go_num, by rw [HS.out, ← H4.out]; go_num, hB.alloc hB.size _⟩
      case measure => simp [intOf]; omega
    · have h5 : sumF (fs.take k) ≤ 1000000000000 := by have := HB.out; have := sumF_le fs k; omega
      have HT : Hid (fs.take k = fs) := List.take_of_length_le (by omega)
      go_wp2
      go_ret
      exact ⟨ret_int (by rw [HT.out]), hB⟩
end Go.Proofs.YtkciflocpelhiaaGreatDoor

namespace Go.Proofs.YtkciflocpelhiaaGreatDoor
open Go.RowKit

/-- What is far from every machine's bounds. -/
def Mild (fs : List F) (body : ByteArray) : Prop := fs.length ≤ 2000000 ∧ body.size ≤ 2000000 ∧ ∀ f ∈ fs, f.1.length ≤ 2000000 ∧ f.2.length ≤ 2000000
theorem sumF_bd {fs : List F} (h : ∀ f ∈ fs, f.1.length ≤ 2000000 ∧ f.2.length ≤ 2000000) : sumF fs ≤ fs.length * 4000004 := by
  induction fs with
  | nil => simp [sumF]
  | cons f fs ih =>
    have h1 := h f (by simp)
    have h2 := ih fun g hg => h g (by simp [hg])
    have e : sumF (f :: fs) = sizeF f + sumF fs := by simp [sumF]
    rw [e]
    simp only [sizeF, List.length_cons]
    omega
theorem all_take {fs : List F} {k : Nat} {f : F} (h : fs[k]? = some f) (ha : (fs.take k).all mayF = true) (hf : mayF f = true) : (fs.take (k + 1)).all mayF = true := by
  rw [take_some h, List.all_append, ha]; simp [hf]
theorem all_no {fs : List F} {k : Nat} {f : F} (h : fs[k]? = some f) (hf : mayF f = false) : fs.all mayF = false := by
  have hm : f ∈ fs := List.mem_of_getElem? h
  cases e : fs.all mayF with
  | false => rfl
  | true => rw [List.all_eq_true] at e; rw [e f hm] at hf; cases hf

set_option maxHeartbeats 1000000 in
theorem lcheck_any (a : Option Addr) (c : Nat) (fs : List F) (body : ByteArray) (w : World) (hF : FieldsAt w a fs) (hM : Mild fs body) (hm : maxLenCell w) :
    Calls Tryz.prog 19 #[.agg #[.slice a fs.length c, .string body]] w fun e w' => e = .returned (.int .i64 (faultM fs body.data.toList)) ∧ Below w.heap.size w w' := by
  obtain ⟨hM1, hM2, hM3⟩ := hM
  by_cases h30 : 30 < fs.length
  · have HR : Hid (faultM fs body.data.toList = 5) := by unfold Hid faultM; rw [if_pos h30]
    go_enter Tryz.func19, Tryz.ntmps19
    go_wp2
    go_ret
    exact ⟨ret_int HR.out.symm, (Below.refl _ _).alloc (Nat.le_refl _) _⟩
  · have HM3 : Hid _ := hM3
    clear hM3
    go_enter Tryz.func19, Tryz.ntmps19
    go_wp2
    go_loopw [12] (fun i wr => ∃ k : Nat, k ≤ fs.length ∧ i = .int .i64 k ∧ Hid ((fs.take k).all mayF = true) ∧ Below w.heap.size w wr ∧ wr.cell? ⟨w.heap.size, 0, none⟩ = some (.slice a fs.length c) ∧ wr.cell? ⟨w.heap.size, 1, none⟩ = some (.string body) ∧ w.heap.size < wr.heap.size) (fun i _ => fs.length - (intOf i).toNat)
    case atStart => exact ⟨0, Nat.zero_le _, rfl, by simp [Hid], (Below.refl _ _).alloc (Nat.le_refl _) _, by simp, by simp, by simp⟩
    case round =>
      obtain ⟨k, hk, rfl, HA, hB, hc0, hc1, hsz⟩ := hrel
      have hmr := maxLenCell_below hm hB
      by_cases hlt : k < fs.length
      · obtain ⟨f, hf⟩ : ∃ f, fs[k]? = some f := ⟨_, List.getElem?_eq_getElem hlt⟩
        have hbd := HM3.out f (List.mem_of_getElem? hf)
        obtain ⟨b, off, rfl, hb, h1, h2⟩ := (hF.below hB) k f hf
        have HN : Hid (nameB (S f.1).data.toList = nameB f.1) := by unfold Hid; rw [list_S]
        have HV : Hid (valueB (S f.2).data.toList = valueB f.2) := by unfold Hid; rw [list_S]
        have hs1 : (S f.1).size ≤ 2000000 := by rw [size_S]; exact hbd.1
        have hs2 : (S f.2).size ≤ 2000000 := by rw [size_S]; exact hbd.2
        have HF : Hid _ := hf
        clear hf hbd
        cases hn : nameB f.1 with
        | false =>
          have HE : Hid (faultM fs body.data.toList = 3) := by
            unfold Hid faultM; rw [if_neg h30, if_pos (all_no HF.out (by simp [mayF, hn]))]
          have HX : Hid _ := hn
          clear hn
          go_wp2_with fail
          refine (isName_any _ _ (by unfold maxLen; omega)).mono ?_
          rintro e u ⟨rfl, rfl⟩
          rw [HN.out, HX.out]
          go_wp2
          go_ret
          exact ⟨ret_int HE.out.symm, hB.alloc hB.size _⟩
        | true =>
          have HX : Hid _ := hn
          clear hn
          cases hv : valueB f.2 with
          | false =>
            have HE : Hid (faultM fs body.data.toList = 3) := by
              unfold Hid faultM; rw [if_neg h30, if_pos (all_no HF.out (by simp [mayF, hv]))]
            have HY : Hid _ := hv
            clear hv
            go_wp2_with fail
            refine (isName_any _ _ (by unfold maxLen; omega)).mono ?_
            rintro e u ⟨rfl, rfl⟩
            rw [HN.out, HX.out]
            go_wp2_with fail
            refine (isValue_any _ _ (by omega) (maxLenCell_below hmr ((Below.refl _ _).alloc (Nat.le_refl _) _))).mono ?_
            rintro e u ⟨rfl, hb2⟩
            rw [HV.out, HY.out]
            go_wp2
            go_ret
            exact ⟨ret_int HE.out.symm, bnext (hB.alloc hB.size _) hb2 (Nat.le_refl _)⟩
          | true =>
            have HA2 : Hid _ := all_take HF.out HA.out (by simp [mayF, HX.out, hv])
            have HY : Hid _ := hv
            clear hv
            go_wp2_with fail
            refine (isName_any _ _ (by unfold maxLen; omega)).mono ?_
            rintro e u ⟨rfl, rfl⟩
            rw [HN.out, HX.out]
            go_wp2_with fail
            refine (isValue_any _ _ (by omega) (maxLenCell_below hmr ((Below.refl _ _).alloc (Nat.le_refl _) _))).mono ?_
            rintro e u ⟨rfl, hb2⟩
            rw [HV.out, HY.out]
            go_wp2
            go_roundw
            case rel => exact ⟨k + 1, by omega, by go_num, HA2.out, bnext (hB.alloc hB.size _) hb2 (Nat.le_refl _), cell_next (cell_more hc0 _) hb2, cell_next (cell_more hc1 _) hb2, by have := hb2.size; simp at this; omega⟩
            case measure => simp [intOf]; omega
      · have HT : Hid (fs.take k = fs) := List.take_of_length_le (by omega)
        have hsum := sumF_bd HM3.out
        by_cases hbig : 2000 < 2 + body.data.toList.length + sumF fs
        · have HE : Hid (faultM fs body.data.toList = 1) := by
            have := HA.out; rw [HT.out] at this
            unfold Hid faultM; rw [if_neg h30, if_neg (by simp [this]), if_pos hbig]
          rw [size_list] at hbig
          go_wp2_with fail
          refine (shownSize_any a c fs body _ (hF.below hB) (by omega) (by omega)).mono ?_
          rintro e u ⟨rfl, hb2⟩
          go_wp2
          go_ret
          exact ⟨ret_int HE.out.symm, bnext hB hb2 (Nat.le_refl _)⟩
        · have HE : Hid (faultM fs body.data.toList = 0) := by
            have := HA.out; rw [HT.out] at this
            unfold Hid faultM; rw [if_neg h30, if_neg (by simp [this]), if_neg hbig]
          rw [size_list] at hbig
          go_wp2_with fail
          refine (shownSize_any a c fs body _ (hF.below hB) (by omega) (by omega)).mono ?_
          rintro e u ⟨rfl, hb2⟩
          go_wp2
          go_ret
          exact ⟨ret_int HE.out.symm, bnext hB hb2 (Nat.le_refl _)⟩
end Go.Proofs.YtkciflocpelhiaaGreatDoor

namespace Go.Proofs.YtkciflocpelhiaaGreatDoor
open Go.RowKit Go.Proofs Go.Shelf

set_option maxHeartbeats 1000000 in
set_option maxRecDepth 100000 in
theorem copyCheck_used (b : Nat) (w : World) (h0 : w.cell? ⟨b, 0, none⟩ = some (.pointer (some ⟨b, 0, none⟩))) :
    Calls Tryz.prog 45 #[.pointer (some ⟨b, 0, none⟩)] w fun e w' => e = .returned (.tuple #[]) ∧ w' = w := by
  obtain ⟨j, hj, _⟩ := Option.map_eq_some_iff.1 Tryz.Builder_Extra_169.sizeBuilder
  go_enter Tryz.func45, Tryz.ntmps45
  go_wp2
  rw [Lib.run_neq_ptr_same w _ Tryz.underlying69 hj]
  go_wp2
  go_end0
  exact ⟨rfl, rfl⟩

set_option maxHeartbeats 1000000 in
set_option maxRecDepth 100000 in
theorem copyCheck_fresh (b : Nat) (w : World) (h0 : w.cell? ⟨b, 0, none⟩ = some (.pointer none)) (hsh : w.shape? b = some (72, 2)) (hfz : w.frozen? ⟨b, 0, none⟩ = false) :
    Calls Tryz.prog 45 #[.pointer (some ⟨b, 0, none⟩)] w fun e w' => e = .returned (.tuple #[]) ∧ w' = w.setCell ⟨b, 0, none⟩ (.pointer (some ⟨b, 0, none⟩)) := by
  obtain ⟨j, hj, hjs⟩ := Option.map_eq_some_iff.1 Tryz.Builder_Extra_169.sizeBuilder
  go_enter Tryz.func45, Tryz.ntmps45
  go_wp2
  rw [Lib.run_to_unsafe w ⟨b, 0, none⟩ Tryz.underlying69 Tryz.underlying114 hj (by rw [hjs]; decide) hsh (Nat.zero_lt_succ 1)]
  simp only [Result.andThen]
  rw [Oper.upon_value]
  go_wp2
  rw [run_callFunc_extern Tryz.func67 (by kernel_rfl) (by kernel_rfl) (by kernel_rfl) (e := Extern.AbiNoEscape.same) (by kernel_rfl)]
  rw [Lib.run_noEscape]
  simp only [Result.andThen]
  rw [Oper.upon_value]
  go_wp2
  rw [Lib.run_from_unsafe w ⟨b, 0, none⟩ Tryz.underlying114 Tryz.underlying69 hj hsh Tryz.Builder_Extra_169.liesBuilder]
  simp only [Result.andThen]
  rw [Oper.upon_value]
  go_wp2
  go_end0
  exact ⟨rfl, rfl⟩

theorem copyCheck_any (B b : Nat) (bs : List Value) (w : World) (h : Lib.IsBuilderF 72 5 B b bs w) :
    Calls Tryz.prog 45 #[.pointer (some ⟨b, 0, none⟩)] w fun e w' => e = .returned (.tuple #[]) ∧ (Lib.BuilderAtF 72 5 B b (.pointer (some ⟨b, 0, none⟩)) bs w' ∧ Below B w w' ∧ Lib.OthersKept 5 (some b) w w') := by
  rcases h with h | h
  · refine (copyCheck_fresh b w h.cell0 h.shape h.frozen0).mono ?_
    rintro e w' ⟨rfl, rfl⟩
    exact ⟨rfl, h.used _, (Below.refl B w).setCell (p := ⟨b, 0, none⟩) h.1 _, (Lib.OthersKept.refl _ _ w).setCell ⟨b, 0, none⟩ rfl _⟩
  · refine (copyCheck_used b w h.cell0).mono ?_
    rintro e w' ⟨rfl, rfl⟩
    exact ⟨rfl, h, Below.refl B _, Lib.OthersKept.refl _ _ _⟩

set_option maxHeartbeats 2000000 in
set_option maxRecDepth 100000 in
theorem writeString_any (B b : Nat) (bs : List Value) (s : ByteArray) (w : World) (h : Lib.IsBuilderF 72 5 B b bs w) (hlen : bs.length + s.size ≤ 140737488355328) (hBw : B ≤ w.heap.size) :
    Calls Tryz.prog 20 #[.pointer (some ⟨b, 0, none⟩), .string s] w fun e w' => e = .returned (.tuple #[.int .i64 s.size, .nilIface]) ∧ (Lib.IsBuilderF 72 5 B b (bs ++ Lib.strCells s) w' ∧ Below B w w' ∧ Lib.OthersKept 5 (some b) w w') := by
  obtain ⟨i0, hi, hz0, hz1, hz2⟩ := info_parts Tryz.Builder_Extra_169.infoByte
  go_enter Tryz.func20, Tryz.ntmps20
  go_wp2_with fail
  refine (copyCheck_any B b bs _ h).mono ?_
  rintro e w1 ⟨rfl, h1, hb1, hk1⟩
  obtain ⟨hB, v, hbk, hown, hne⟩ := h1
  have c0 : w1.cell? ⟨b, 0, none⟩ = some (.pointer (some ⟨b, 0, none⟩)) := by rw [Lib.cell_of_heap hbk]; rfl
  have c1 : w1.cell? ⟨b, 1, none⟩ = some v := by rw [Lib.cell_of_heap hbk]; rfl
  go_wp2_with (at_builtin; refine Lib.wpList_append_own_stringF _ rfl _ _ 70 9 rfl B 5 i0 Tryz.underlying70 Tryz.underlying9 hi hz0 hz1 hz2 _ _ _ rfl hown s rfl ?c3 ?c4 ?c5 ?_)
  case c3 => unfold maxLen; omega
  case c4 => omega
  case c5 => have := hb1.size; omega
  intro v' w2 hown' hgrow _
  have hlt : b < w1.heap.size := by
    rcases Nat.lt_or_ge b w1.heap.size with h' | h'
    · exact h'
    · simp [Array.getElem?_eq_none h'] at hbk
  have hb2 : w2.heap[b]? = some (.cells #[.pointer (some ⟨b, 0, none⟩), v] 72 (0, 0)) := by
    rw [hgrow.block b hlt (fun e => hne e.symm)]
    exact hbk
  have d0 : w2.cell? ⟨b, 0, none⟩ = some (.pointer (some ⟨b, 0, none⟩)) := by rw [Lib.cell_of_heap hb2]; rfl
  have d1 : w2.cell? ⟨b, 1, none⟩ = some v := by rw [Lib.cell_of_heap hb2]; rfl
  have f1 : w2.frozen? ⟨b, 1, none⟩ = false := Lib.frozen_of_heap hb2 1
  obtain ⟨ao, n', cap, rfl⟩ : ∃ ao n' cap, v' = .slice ao n' cap := by
    rcases hown'.2 with ⟨hv, _⟩ | ⟨g, cap, cur, fz, hv, _⟩
    · exact ⟨_, _, _, hv⟩
    · exact ⟨_, _, _, hv⟩
  go_wp2
  go_ret2
  refine ⟨rfl, .inr ?_, ?_, (hk1.grown hgrow (Lib.ownsRowF_kind hown)).setCell ⟨b, 1, none⟩ rfl _⟩
  · exact Lib.BuilderAtF.put (T := 72) (e := 5) hB hb2 (bs' := bs ++ Lib.strCells s) (by simpa [Lib.strCells_length] using hown') Tryz.Builder_Extra_169.neB5
  · exact (hb1.grown hgrow (by have := hb1.size; omega) (fun k hk => (hown.lt k hk).1)).setCell (p := ⟨b, 1, none⟩) hB _
end Go.Proofs.YtkciflocpelhiaaGreatDoor

namespace Go.Proofs.YtkciflocpelhiaaGreatDoor
open Go.RowKit

theorem app_list (a b : ByteArray) : (a ++ b).data.toList = a.data.toList ++ b.data.toList := by
  simp [ByteArray.data_append]
theorem field_list (f : F) : ((S f.1 ++ ⟨#[58, 32]⟩ ++ S f.2 ++ ⟨#[13, 10]⟩ : ByteArray)).data.toList = textF f := by
  simp only [app_list, list_S, textF]

theorem fault_few {fs : List F} {body : List UInt8} (h : faultM fs body = 0) : fs.length ≤ 30 ∧ (∀ f ∈ fs, mayF f = true) ∧ 2 + body.length + sumF fs ≤ 2000 := by
  unfold faultM at h
  by_cases h1 : 30 < fs.length
  · rw [if_pos h1] at h; cases h
  · rw [if_neg h1] at h
    by_cases h2 : fs.all mayF = false
    · rw [if_pos h2] at h; cases h
    · rw [if_neg h2] at h
      by_cases h3 : 2000 < 2 + body.length + sumF fs
      · rw [if_pos h3] at h; cases h
      · exact ⟨by omega, by simpa using h2, by omega⟩

set_option maxHeartbeats 1000000 in
theorem show_bad (a : Option Addr) (c : Nat) (fs : List F) (body : ByteArray) (w : World) (hF : FieldsAt w a fs) (hM : Mild fs body) (hm : maxLenCell w) (n : Int) (hf : faultM fs body.data.toList = n) (hn : (n == 0) = false) :
    Calls Tryz.prog 11 #[.agg #[.slice a fs.length c, .string body]] w fun e w' => e = .returned (.tuple #[.string ByteArray.empty, .int .i64 n]) ∧ Below w.heap.size w w' := by
  have hB0 : ∀ o, Below w.heap.size w (w.alloc o) := fun o => (Below.refl _ _).alloc (Nat.le_refl _) o
  have HF : Hid _ := hf
  clear hf
  go_enter Tryz.func11, Tryz.ntmps11
  go_wp2_with fail
  refine (lcheck_any a c fs body _ (hF.below (hB0 _)) hM (maxLenCell_below hm (hB0 _))).mono ?_
  rintro e w1 ⟨rfl, hb1⟩
  rw [HF.out]
  go_wp2
  go_ret2
  exact ⟨rfl, bnext (hB0 _) hb1 (Nat.le_refl _)⟩

set_option maxHeartbeats 2000000 in
theorem show_ok (a : Option Addr) (c : Nat) (fs : List F) (body : ByteArray) (w : World) (hF : FieldsAt w a fs) (hM : Mild fs body) (hm : maxLenCell w) (hf : faultM fs body.data.toList = 0) :
    Calls Tryz.prog 11 #[.agg #[.slice a fs.length c, .string body]] w fun e w' => e = .returned (.tuple #[.string (S (textM fs body.data.toList)), .int .i64 0]) ∧ Below w.heap.size w w' := by
  have hB0 : ∀ o, Below w.heap.size w (w.alloc o) := fun o => (Below.refl _ _).alloc (Nat.le_refl _) o
  have HX : Hid _ := fault_few hf
  have hl := HX.out.1
  have HF : Hid _ := hf
  clear hf
  go_enter Tryz.func11, Tryz.ntmps11
  go_wp2_with fail
  refine (lcheck_any a c fs body _ (hF.below (hB0 _)) hM (maxLenCell_below hm (hB0 _))).mono ?_
  rintro e w1 ⟨rfl, hb1⟩
  have p0 : w1.cell? ⟨w.heap.size, 0, none⟩ = some (.slice a fs.length c) := cell_next (by simp) hb1
  have p1 : w1.cell? ⟨w.heap.size, 1, none⟩ = some (.string body) := cell_next (by simp) hb1
  have hB1 := bnext (hB0 _) hb1 (Nat.le_refl _)
  have hF1 := hF.below hB1
  have hz : w.heap.size < w1.heap.size := by have := hb1.size; simp at this; omega
  rw [HF.out]
  go_wp2
  go_loopw [16] (fun i wr => ∃ k : Nat, k ≤ fs.length ∧ i = .int .i64 k ∧ Lib.IsBuilderF 72 5 w1.heap.size w1.heap.size (Lib.byteCells (linesF (fs.take k))) wr ∧ Below w1.heap.size w1 wr) (fun i _ => fs.length - (intOf i).toNat)
  case atStart => exact ⟨0, Nat.zero_le _, rfl, by simpa [linesF, Lib.byteCells] using Lib.IsBuilderF.of (Lib.fresh_isBuilder 72 5 w1), (Below.refl _ _).alloc (Nat.le_refl _) _⟩
  case round =>
    obtain ⟨k, hk, rfl, hI, hB⟩ := hrel
    have hle : (linesF (fs.take k)).length ≤ 2000 := by
      rw [length_linesF]; have := sumF_le fs k; have := HX.out.2.2; omega
    by_cases hlt : k < fs.length
    · obtain ⟨f, hf⟩ : ∃ f, fs[k]? = some f := ⟨_, List.getElem?_eq_getElem hlt⟩
      obtain ⟨b, off, rfl, hb, h1, h2⟩ := (hF1.below hB) k f hf
      have hfb := hM.2.2 f (List.mem_of_getElem? hf)
      have HL : Hid (linesF (fs.take (k + 1)) = linesF (fs.take k) ++ textF f) := by unfold Hid; rw [take_some hf, linesF_snoc]
      have HZ : Hid ((S f.1 ++ ⟨#[58, 32]⟩ ++ S f.2 ++ ⟨#[13, 10]⟩ : ByteArray).size ≤ 5000000) := by
        unfold Hid; rw [← size_list, field_list, length_textF]; unfold sizeF; omega
      have hs1 : (S f.1).size ≤ 2000000 := by rw [size_S]; exact hfb.1
      have hs2 : (S f.2).size ≤ 2000000 := by rw [size_S]; exact hfb.2
      clear hf hfb
      go_wp2_with fail
      refine (writeString_any w1.heap.size w1.heap.size _ _ _ (hI.alloc _) ?hl ?hs).mono ?_
      case hl => have := HZ.out; rw [Lib.byteCells_length]; omega
      case hs => have := hB.size; simp; omega
      rintro e w2 ⟨rfl, hI2, hb2, _⟩
      go_wp2
      go_roundw
      case rel => first | exact ⟨k + 1, by omega, by go_num, by rw [HL.out, Lib.byteCells_append]; rwa [Lib.strCells_eq, field_list] at hI2, (hB.alloc hB.size _).trans hb2⟩ | ((repeat apply Exists.intro); exact ⟨⟨k + 1, by omega, by go_num, by rw [HL.out, Lib.byteCells_append]; rwa [Lib.strCells_eq, field_list] at hI2, (hB.alloc hB.size _).trans hb2⟩, rfl⟩) | (refine ⟨trivial, ?_⟩; (repeat apply Exists.intro); exact ⟨⟨k + 1, by omega, by go_num, by rw [HL.out, Lib.byteCells_append]; rwa [Lib.strCells_eq, field_list] at hI2, (hB.alloc hB.size _).trans hb2⟩, rfl⟩)
      case measure => simp [intOf]; omega
    · have HT : Hid (fs.take k = fs) := List.take_of_length_le (by omega)
      have q1 : wr.cell? ⟨w.heap.size, 1, none⟩ = some (.string body) := cell_next p1 hB
      have hbd := hM.2.1
      have HZ : Hid ((⟨#[13, 10]⟩ ++ body : ByteArray).size ≤ 5000000) := by
        unfold Hid; rw [← size_list, app_list, List.length_append, size_list body]; simp; omega
      go_wp2_with fail
      refine (writeString_any w1.heap.size w1.heap.size _ _ _ hI ?hl hB.size).mono ?_
      case hl => have := HZ.out; rw [Lib.byteCells_length]; omega
      rintro e w2 ⟨rfl, hI2, hb2, _⟩
      rw [Lib.strCells_eq, ← Lib.byteCells_append] at hI2
      go_wp2_with fail
      refine (Tryz.Builder_String_any_k w1.heap.size w1.heap.size _ _ hI2 (by have := hB.size; have := hb2.size; omega)).mono ?_
      rintro e w3 ⟨rfl, _, hb3, _⟩
      go_wp2
      go_ret2
      refine ⟨?_, bnext hB1 ((hB.trans hb2).trans hb3) (Nat.le_refl _)⟩
      have := HT.out
      simp [textM, S, this]
end Go.Proofs.YtkciflocpelhiaaGreatDoor
