/-
  What postroomref.MessageFault does: the walk.
-/
import Derived.Test.YtpkfafglpilkoaaDoorRefLet
import Derived.Test.YtpkfafglpilkoaaDoorLetCheck
import Derived.Deep.QuietTactic
import Derived.BigQuiet
namespace Go.Proofs.YtpkfafglpilkoaaDoor
open Go.RowKit

theorem nameMay_is (l : List UInt8) (b : Bool) (h : nameB l = b) (hl : (S l).size ≤ 2000000) (w : World) :
    Calls Tryd.prog 25 #[.string (S l)] w fun e w' => e = .returned (.bool b) ∧ w' = w := by
  have := nameMay_any (S l) w (by unfold maxLen; omega)
  rwa [list_S, h] at this
theorem lineEnd_is (l : List UInt8) (n : Int) (h : endAt l 0 = n) (hl : (S l).size ≤ 2000000) (w : World) :
    Calls Tryd.prog 26 #[.string (S l), .int .i64 0] w fun e w' => e = .returned (.int .i64 n) ∧ w' = w := by
  have := lineEnd_any (S l) 0 w (by omega) (Nat.zero_le _)
  rwa [list_S, h] at this
theorem trimmed_is (l t : List UInt8) (h : trimW l = t) (hl : (S l).size ≤ 2000000) (w : World) :
    Calls Tryd.prog 27 #[.string (S l)] w fun e w' => e = .returned (.string (S t)) ∧ w' = w := by
  have := trimmed_any (S l) w (by omega)
  rwa [list_S, h] at this
theorem endAt_zero (l : List UInt8) : endAt l 0 = if hasEnd l = true then Lib.index l [13, 10] else -1 := by
  simp [endAt]

set_option maxHeartbeats 2000000 in
theorem fault_any (a : Option Addr) (c : Nat) (fs : List F) (body : ByteArray) (w : World) (hF : FieldsAt w a fs) (hM : Mild fs body) :
    Calls Tryd.prog 11 #[.agg #[.slice a fs.length c, .string body]] w fun e w' => e = .returned (.int .i64 (faultM fs body.data.toList)) ∧ Below w.heap.size w w' := by
  obtain ⟨hM1, hM2, hM3⟩ := hM
  by_cases h30 : 30 < fs.length
  · have HR : Hid (faultM fs body.data.toList = 5) := by unfold Hid faultM; rw [if_pos h30]
    go_enter Tryd.func11, Tryd.ntmps11
    go_wp2
    go_ret
    exact ⟨ret_int HR.out.symm, (Below.refl _ _).alloc (Nat.le_refl _) _⟩
  · have HM3 : Hid _ := hM3
    clear hM3
    go_enter Tryd.func11, Tryd.ntmps11
    go_wp2
    go_loopw [3] (fun i wr => ∃ k : Nat, k ≤ fs.length ∧ i = .int .i64 k ∧ Hid ((fs.take k).all mayF = true) ∧ Below w.heap.size w wr ∧ wr.cell? ⟨w.heap.size, 0, none⟩ = some (.slice a fs.length c) ∧ wr.cell? ⟨w.heap.size, 1, none⟩ = some (.string body) ∧ w.heap.size < wr.heap.size) (fun i _ => fs.length - (intOf i).toNat)
    case atStart => exact ⟨0, Nat.zero_le _, rfl, by simp [Hid], (Below.refl _ _).alloc (Nat.le_refl _) _, by simp, by simp, by simp⟩
    case round =>
      obtain ⟨k, hk, rfl, HA, hB, hc0, hc1, hsz⟩ := hrel
      by_cases hlt : k < fs.length
      · obtain ⟨f, hf⟩ : ∃ f, fs[k]? = some f := ⟨_, List.getElem?_eq_getElem hlt⟩
        have hbd := HM3.out f (List.mem_of_getElem? hf)
        obtain ⟨b, off, rfl, hb, h1, h2⟩ := (hF.below hB) k f hf
        have hs1 : (S f.1).size ≤ 2000000 := by rw [size_S]; exact hbd.1
        have hs2 : (S f.2).size ≤ 2000000 := by rw [size_S]; exact hbd.2
        have HF : Hid _ := hf
        clear hf hbd
        cases hn : nameB f.1 with
        | false =>
          have HE : Hid (faultM fs body.data.toList = 3) := by
            unfold Hid faultM; rw [if_neg h30, if_pos (all_no HF.out (by simp [mayF, hn]))]
          have HX : Hid _ := hn
          clear hn
          go_wp2
          go_quiet ((go_at_call 25; exact Calls.quiet_of_same (nameMay_is f.1 false HX.out hs1 _)))
          go_wp2
          go_ret
          exact ⟨ret_int HE.out.symm, bdrew (hB.alloc hB.size _) _⟩
        | true =>
          have HX : Hid _ := hn
          clear hn
          cases he : hasEnd f.2 with
          | true =>
            have HE : Hid (faultM fs body.data.toList = 3) := by
              unfold Hid faultM; rw [if_neg h30, if_pos (all_no HF.out (by simp [mayF, valueB, he]))]
            obtain ⟨m, hm⟩ : ∃ m : Nat, Hid (endAt f.2 0 = (m : Int)) := by
              have h0 : 0 ≤ Lib.index f.2 [13, 10] := by simpa [hasEnd, Lib.contains] using he
              exact ⟨(Lib.index f.2 [13, 10]).toNat, by unfold Hid; rw [endAt_zero, if_pos he]; omega⟩
            clear he
            go_wp2
            go_quiet ((first | (go_at_call 25; exact Calls.quiet_of_same (nameMay_is f.1 true HX.out hs1 _)) | (go_at_call 26; exact Calls.quiet_of_same (lineEnd_is f.2 m hm.out hs2 _))))
            go_wp2
            go_ret
            exact ⟨ret_int HE.out.symm, bdrew (hB.alloc hB.size _) _⟩
          | false =>
            have hm : Hid (endAt f.2 0 = -1) := by unfold Hid; rw [endAt_zero, he]; rfl
            cases ht : (trimW f.2 == f.2) with
            | false =>
              have HE : Hid (faultM fs body.data.toList = 3) := by
                unfold Hid faultM; rw [if_neg h30, if_pos (all_no HF.out (by simp [mayF, valueB, ht]))]
              have hq : ((S (trimW f.2)).toList == (S f.2).toList) = false := by rw [Lib.toList_data, Lib.toList_data, list_S, list_S]; exact ht
              clear he ht
              go_wp2
              go_quiet ((first | (go_at_call 25; exact Calls.quiet_of_same (nameMay_is f.1 true HX.out hs1 _)) | (go_at_call 26; exact Calls.quiet_of_same (lineEnd_is f.2 (-1) hm.out hs2 _)) | (go_at_call 27; exact Calls.quiet_of_same (trimmed_is f.2 (trimW f.2) rfl hs2 _))))
              go_wp2
              go_ret
              exact ⟨ret_int HE.out.symm, bdrew (hB.alloc hB.size _) _⟩
            | true =>
              have HA2 : Hid _ := all_take HF.out HA.out (by simp [mayF, valueB, HX.out, he, ht])
              have HT : Hid (trimW f.2 = f.2) := by simpa [Hid] using ht
              clear he ht
              go_wp2
              go_quiet ((first | (go_at_call 25; exact Calls.quiet_of_same (nameMay_is f.1 true HX.out hs1 _)) | (go_at_call 26; exact Calls.quiet_of_same (lineEnd_is f.2 (-1) hm.out hs2 _)) | (go_at_call 27; exact Calls.quiet_of_same (trimmed_is f.2 f.2 HT.out hs2 _))))
              go_wp2
              go_roundw
              case rel => first | exact ⟨k + 1, by omega, by go_num, HA2.out, bdrew (hB.alloc hB.size _) _, cell_more hc0 _, cell_more hc1 _, by simp; omega⟩ | ((repeat apply Exists.intro); exact ⟨⟨k + 1, by omega, by go_num, HA2.out, bdrew (hB.alloc hB.size _) _, cell_more hc0 _, cell_more hc1 _, by simp; omega⟩, rfl⟩) | (refine ⟨trivial, ?_⟩; (repeat apply Exists.intro); exact ⟨⟨k + 1, by omega, by go_num, HA2.out, bdrew (hB.alloc hB.size _) _, cell_more hc0 _, cell_more hc1 _, by simp; omega⟩, rfl⟩)
              case measure => simp [intOf]; omega
      · have HT : Hid (fs.take k = fs) := List.take_of_length_le (by omega)
        have HAll : Hid (fs.all mayF = true) := by have := HA.out; rwa [HT.out] at this
        have HS : Hid _ := sumF_bd HM3.out
        have hs0 : sumF fs ≤ 200000000 := by have := HS.out; omega
        clear HA HT
        have hk2 : k = fs.length := by omega
        subst hk2
        clear hk hlt
        obtain ⟨wo, hwo⟩ : ∃ wo, wo = wr := ⟨_, rfl⟩
        subst hwo
        go_wp2
        go_loopw [5, 6] (fun n i wq => ∃ k : Nat, k ≤ fs.length ∧ i = .int .i64 k ∧ n = .int .i64 ((2 + body.size + sumF (fs.take k) : Nat) : Int) ∧ ∃ q, wq = wo.drewN q) (fun _ i _ => fs.length - (intOf i).toNat)
        case atStart => exact ⟨0, Nat.zero_le _, rfl, by simp [sumF], 0, rfl⟩
        case round =>
          obtain ⟨k, hk, rfl, rfl, q, rfl⟩ := hrel
          by_cases hlt : k < fs.length
          · obtain ⟨f, hf⟩ : ∃ f, fs[k]? = some f := ⟨_, List.getElem?_eq_getElem hlt⟩
            obtain ⟨b, off, rfl, hb, h1, h2⟩ := (hF.below hB) k f hf
            have HF2 : Hid _ := sumF_take hf
            have h3 := sumF_le fs (k + 1)
            rw [HF2.out] at h3
            have h4 : (S f.1).size + (S f.2).size + 4 = sizeF f := by simp [size_S, sizeF]
            have h5 : sumF (fs.take k) + ((S f.1).size + (S f.2).size + 4) ≤ 200000000 := by omega
            have H4 : Hid _ := h4
            clear h3 h4 hf
            go_wp2
            go_quiet (fail)
            go_wp2
            go_roundw
            case rel => first | exact ⟨k + 1, by omega, by go_num, by rw [HF2.out, ← H4.out]; go_num, _, rfl⟩ | ((repeat apply Exists.intro); exact ⟨⟨k + 1, by omega, by go_num, by rw [HF2.out, ← H4.out]; go_num, _, rfl⟩, rfl⟩) | (refine ⟨trivial, ?_⟩; (repeat apply Exists.intro); exact ⟨⟨k + 1, by omega, by go_num, by rw [HF2.out, ← H4.out]; go_num, _, rfl⟩, rfl⟩)
            case measure => simp [intOf]; omega
          · have h5 : sumF (fs.take k) ≤ 200000000 := by have := sumF_le fs k; omega
            have HT : Hid (fs.take k = fs) := List.take_of_length_le (by omega)
            by_cases hbig : 2000 < 2 + body.data.toList.length + sumF fs
            · have HE : Hid (faultM fs body.data.toList = 1) := by
                unfold Hid faultM; rw [if_neg h30, if_neg (by simp [HAll.out]), if_pos hbig]
              rw [size_list, ← HT.out] at hbig
              go_wp2
              go_ret
              exact ⟨ret_int HE.out.symm, bdrew hB _⟩
            · have HE : Hid (faultM fs body.data.toList = 0) := by
                unfold Hid faultM; rw [if_neg h30, if_neg (by simp [HAll.out]), if_neg hbig]
              rw [size_list, ← HT.out] at hbig
              go_wp2
              go_ret
              exact ⟨ret_int HE.out.symm, bdrew hB _⟩
end Go.Proofs.YtpkfafglpilkoaaDoor
