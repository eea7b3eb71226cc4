/-
  What strings.TrimPrefix, CutPrefix and CutSuffix do at one byte, and lmtp.behind, addressOf: the walks.
-/
import Derived.Test.YtkdmccgfehmoaaaLmPur
import Derived.Test.YtkdmccgfehmoaaaWhoChk
import Derived.Test.YtkdmccgfehmoaaaMatchIs
import Derived.Lib.Strings
import Derived.Laws.Strings3
namespace Go.Proofs.Ytkdmccgfehmoaaa
open Go.RowKit

set_option maxHeartbeats 1000000 in
theorem hasPre_any (s p : ByteArray) (w : World) :
    Calls Try.prog 51 #[.string s, .string p] w fun e w' => e = .returned (.bool (Lib.hasPrefix s.data.toList p.data.toList)) ∧ w' = w := by
  rw [← Lib.hasPrefix_of_take, ← Lib.size_eq, ← Lib.size_eq]
  go_enter Try.func51, Try.ntmps51
  go_wp2
  · rename_i h
    go_ret
    refine ⟨?_, rfl⟩
    show Ending.returned (Value.bool ((s.extract 0 p.size).toList == p.toList)) = _
    rw [Lib.extract_toList, Lib.toList_data]
    simp [h]
  · rename_i h
    go_ret
    refine ⟨?_, rfl⟩
    show Ending.returned (Value.bool false) = _
    simp [h]
theorem pre_one (l : List UInt8) (c : UInt8) : Lib.hasPrefix l [c] = (l.head? == some c) := by
  cases l with
  | nil => rfl
  | cons x t =>
    have e : (x == c) = (c == x) := by
      by_cases h : x = c
      · subst h; rfl
      · have h' : ¬ c = x := fun e => h e.symm
        rw [beq_eq_false_iff_ne.2 h, beq_eq_false_iff_ne.2 h']
    simp [Lib.hasPrefix, List.isPrefixOf, e]
set_option maxHeartbeats 1000000 in
theorem lcutPre_no (s p : ByteArray) (w : World) (_hs : s.size ≤ 9223372036854775807) (h : Lib.hasPrefix s.data.toList p.data.toList = false) :
    Calls Try.prog 63 #[.string s, .string p] w fun e w' => e = .returned (.tuple #[.string s, .bool false]) ∧ w' = w := by
  have H : Hid _ := h
  clear h
  go_enter Try.func63, Try.ntmps63
  go_wp2_with fail
  refine (hasPre_any s p _).mono ?_
  rintro e u ⟨rfl, hu⟩
  have hu' := hu.symm
  subst hu'
  rw [H.out]
  go_wp2
  all_goals go_ret2
  all_goals exact ⟨rfl, rfl⟩
set_option maxHeartbeats 1000000 in
theorem lcutPre_yes (s p : ByteArray) (w : World) (_hs : s.size ≤ 9223372036854775807) (h : Lib.hasPrefix s.data.toList p.data.toList = true) :
    Calls Try.prog 63 #[.string s, .string p] w fun e w' => e = .returned (.tuple #[.string (s.extract p.size s.size), .bool true]) ∧ w' = w := by
  have hz : p.size ≤ s.size := by rw [Lib.size_eq, Lib.size_eq]; exact (List.isPrefixOf_iff_prefix.1 h).length_le
  have hz' : (p.size : Int) ≤ (s.size : Int) := by omega
  have H : Hid _ := h
  clear h
  go_enter Try.func63, Try.ntmps63
  go_wp2_with fail
  refine (hasPre_any s p _).mono ?_
  rintro e u ⟨rfl, hu⟩
  have hu' := hu.symm
  subst hu'
  rw [H.out]
  go_wp2
  all_goals go_ret2
  all_goals exact ⟨rfl, rfl⟩
set_option maxHeartbeats 1000000 in
theorem cutPre_no (s p : ByteArray) (w : World) (_hs : s.size ≤ 9223372036854775807) (h : Lib.hasPrefix s.data.toList p.data.toList = false) :
    Calls Try.prog 55 #[.string s, .string p] w fun e w' => e = .returned (.tuple #[.string s, .bool false]) ∧ w' = w := by
  go_enter Try.func55, Try.ntmps55
  go_wp2_with fail
  refine (lcutPre_no s p _ _hs h).mono ?_
  rintro e u ⟨rfl, hu⟩
  have hu' := hu.symm
  subst hu'
  go_wp2
  all_goals go_ret2
  all_goals exact ⟨rfl, rfl⟩
set_option maxHeartbeats 1000000 in
theorem cutPre_yes (s p : ByteArray) (w : World) (_hs : s.size ≤ 9223372036854775807) (h : Lib.hasPrefix s.data.toList p.data.toList = true) :
    Calls Try.prog 55 #[.string s, .string p] w fun e w' => e = .returned (.tuple #[.string (s.extract p.size s.size), .bool true]) ∧ w' = w := by
  go_enter Try.func55, Try.ntmps55
  go_wp2_with fail
  refine (lcutPre_yes s p _ _hs h).mono ?_
  rintro e u ⟨rfl, hu⟩
  have hu' := hu.symm
  subst hu'
  go_wp2
  all_goals go_ret2
  all_goals exact ⟨rfl, rfl⟩
set_option maxHeartbeats 1000000 in
theorem hasSuf_any (s p : ByteArray) (w : World) (hs : s.size ≤ 9223372036854775807) :
    Calls Try.prog 69 #[.string s, .string p] w fun e w' => e = .returned (.bool (Lib.hasSuffix s.data.toList p.data.toList)) ∧ w' = w := by
  rw [← Lib.hasSuffix_raw]
  have hlo : p.size ≤ s.size → ((s.size : Int) - (p.size : Int) + 9223372036854775808) % 18446744073709551616 - 9223372036854775808 = ((s.size - p.size : Nat) : Int) := fun _ => by omega
  go_enter Try.func69, Try.ntmps69
  go_wp2
  · have h : p.size ≤ s.size := by assumption
    go_ret
    refine ⟨?_, rfl⟩
    show Ending.returned (Value.bool ((s.extract (s.size - p.size) s.size).toList == p.toList)) = _
    simp [h]
  · have h : ¬ p.size ≤ s.size := by assumption
    go_ret
    refine ⟨?_, rfl⟩
    show Ending.returned (Value.bool false) = _
    simp [h]
set_option maxHeartbeats 1000000 in
theorem lcutSuf_no (s p : ByteArray) (w : World) (_hs : s.size ≤ 9223372036854775807) (h : Lib.hasSuffix s.data.toList p.data.toList = false) :
    Calls Try.prog 64 #[.string s, .string p] w fun e w' => e = .returned (.tuple #[.string s, .bool false]) ∧ w' = w := by
  have H : Hid _ := h
  clear h
  go_enter Try.func64, Try.ntmps64
  go_wp2_with fail
  refine (hasSuf_any s p _ _hs).mono ?_
  rintro e u ⟨rfl, hu⟩
  have hu' := hu.symm
  subst hu'
  rw [H.out]
  go_wp2
  all_goals go_ret2
  all_goals exact ⟨rfl, rfl⟩
set_option maxHeartbeats 1000000 in
theorem lcutSuf_yes (s p : ByteArray) (w : World) (_hs : s.size ≤ 9223372036854775807) (h : Lib.hasSuffix s.data.toList p.data.toList = true) :
    Calls Try.prog 64 #[.string s, .string p] w fun e w' => e = .returned (.tuple #[.string (s.extract 0 (s.size - p.size)), .bool true]) ∧ w' = w := by
  have hz : p.size ≤ s.size := by rw [Lib.size_eq, Lib.size_eq]; exact (List.isSuffixOf_iff_suffix.1 h).length_le
  have hlo : ((s.size : Int) - (p.size : Int) + 9223372036854775808) % 18446744073709551616 - 9223372036854775808 = ((s.size - p.size : Nat) : Int) := by omega
  have hlo2 : IntKind.i64.wrap ((s.size : Int) - (p.size : Int)) = ((s.size - p.size : Nat) : Int) := by simp only [IntKind.wrap_i64]; omega
  have hz' : (p.size : Int) ≤ (s.size : Int) := by omega
  have H : Hid _ := h
  clear h
  go_enter Try.func64, Try.ntmps64
  go_wp2_with fail
  refine (hasSuf_any s p _ _hs).mono ?_
  rintro e u ⟨rfl, hu⟩
  have hu' := hu.symm
  subst hu'
  rw [H.out]
  go_wp2
  all_goals go_ret2
  all_goals exact ⟨rfl, rfl⟩
set_option maxHeartbeats 1000000 in
theorem cutSuf_no (s p : ByteArray) (w : World) (_hs : s.size ≤ 9223372036854775807) (h : Lib.hasSuffix s.data.toList p.data.toList = false) :
    Calls Try.prog 56 #[.string s, .string p] w fun e w' => e = .returned (.tuple #[.string s, .bool false]) ∧ w' = w := by
  go_enter Try.func56, Try.ntmps56
  go_wp2_with fail
  refine (lcutSuf_no s p _ _hs h).mono ?_
  rintro e u ⟨rfl, hu⟩
  have hu' := hu.symm
  subst hu'
  go_wp2
  all_goals go_ret2
  all_goals exact ⟨rfl, rfl⟩
set_option maxHeartbeats 1000000 in
theorem cutSuf_yes (s p : ByteArray) (w : World) (_hs : s.size ≤ 9223372036854775807) (h : Lib.hasSuffix s.data.toList p.data.toList = true) :
    Calls Try.prog 56 #[.string s, .string p] w fun e w' => e = .returned (.tuple #[.string (s.extract 0 (s.size - p.size)), .bool true]) ∧ w' = w := by
  go_enter Try.func56, Try.ntmps56
  go_wp2_with fail
  refine (lcutSuf_yes s p _ _hs h).mono ?_
  rintro e u ⟨rfl, hu⟩
  have hu' := hu.symm
  subst hu'
  go_wp2
  all_goals go_ret2
  all_goals exact ⟨rfl, rfl⟩
theorem suf_one (l : List UInt8) (c : UInt8) : Lib.hasSuffix l [c] = (l.getLast? == some c) := by
  have h : Lib.hasSuffix l [c] = Lib.hasPrefix l.reverse [c] := by
    simp [Lib.hasSuffix, Lib.hasPrefix, List.isSuffixOf]
  rw [h, pre_one, List.head?_reverse]
set_option maxHeartbeats 1000000 in
theorem ltrimDot_any (s : ByteArray) (w : World) :
    Calls Try.prog 42 #[.string s, .string ⟨#[46]⟩] w fun e w' => e = .returned (.string (S (undot s.data.toList))) ∧ w' = w := by
  have hp := pre_one s.data.toList 46
  cases h : (s.data.toList.head? == some 46) with
  | false =>
    rw [h] at hp
    have H : Hid _ := hp
    have HU : Hid (S (undot s.data.toList) = s) := by
      unfold Hid
      cases hl : s.data.toList with
      | nil => rw [show undot [] = s.data.toList by rw [hl]; rfl]; rfl
      | cons c t =>
        have hc : ¬ c = 46 := by rw [hl] at h; simpa using h
        rw [show undot (c :: t) = s.data.toList by rw [hl]; simp [undot, hc]]; rfl
    clear h hp
    go_enter Try.func42, Try.ntmps42
    go_wp2_with fail
    refine (hasPre_any s _ _).mono ?_
    rintro e u ⟨rfl, hu⟩
    have hu' := hu.symm
    subst hu'
    rw [H.out]
    go_wp2
    go_ret
    exact ⟨by rw [HU.out]; rfl, rfl⟩
  | true =>
    rw [h] at hp
    have H : Hid _ := hp
    have HU : Hid (S (undot s.data.toList) = s.extract 1 s.size ∧ 1 ≤ s.size) := by
      unfold Hid
      cases hl : s.data.toList with
      | nil => rw [hl] at h; cases h
      | cons c t =>
        have hc : c = 46 := by rw [hl] at h; simpa using h
        have e : s = S (c :: t) := by rw [← hl]; rfl
        have e2 : undot (c :: t) = (c :: t).drop 1 := by simp [undot, hc]
        constructor
        · rw [e, S_drop, e2]
        · rw [e, size_S]; simp
    have hz : (1 : Int) ≤ (s.size : Int) := by have := HU.out.2; omega
    clear h hp
    go_enter Try.func42, Try.ntmps42
    go_wp2_with fail
    refine (hasPre_any s _ _).mono ?_
    rintro e u ⟨rfl, hu⟩
    have hu' := hu.symm
    subst hu'
    rw [H.out]
    go_wp2
    go_ret
    exact ⟨by rw [HU.out.1]; rfl, rfl⟩
set_option maxHeartbeats 1000000 in
theorem trimDot_any (s : ByteArray) (w : World) :
    Calls Try.prog 28 #[.string s, .string ⟨#[46]⟩] w fun e w' => e = .returned (.string (S (undot s.data.toList))) ∧ w' = w := by
  go_enter Try.func28, Try.ntmps28
  go_wp2_with fail
  refine (ltrimDot_any s _).mono ?_
  rintro e u ⟨rfl, hu⟩
  have hu' := hu.symm
  subst hu'
  go_wp2
  go_ret
  exact ⟨rfl, rfl⟩
end Go.Proofs.Ytkdmccgfehmoaaa
