/-
  What token.Check does: the walk.
-/
import Derived.Test.YtnjlakengbhokaaDoorTokMem
import Derived.Test.YtnjlakengbhokaaDoorTokWord
import Derived.Test.YtnjlakengbhokaaDoorTokMark
import Derived.Deep.RegionHeld3
namespace Go.Proofs.YtnjlakengbhokaaDoor
open Go.RowKit Go.Proofs

theorem S_isEmpty' (l : List UInt8) : ((S l).toList == []) = l.isEmpty := by rw [Lib.toList_data, list_S]; cases l <;> rfl

def formN (n : Int) (b : Bool) : Int := if n ≠ 0 ∨ b = false then 3 else 0
def numN (t : Tok) : Int := if ¬ (0 ≤ t.num ∧ t.num ≤ 2147483647) then 6 else if t.text ≠ [] then 3 else 0

set_option maxHeartbeats 2000000 in
theorem formOf_any (t : Tok) (b : Bool) (w : World) :
    Calls Tryd.prog 38 #[.agg #[.int .i64 t.kind, .string (S t.text), .int .i64 t.num], .bool b] w fun e w' => e = .returned (.int .i64 (formN t.num b)) ∧ Below w.heap.size w w' := by
  obtain ⟨k, x, n⟩ := t
  by_cases h : n = 0
  · subst h
    cases b with
    | true =>
      have HR : Hid (formN 0 true = 0) := by unfold Hid formN; simp
      go_enter Tryd.func38, Tryd.ntmps38
      go_wp2
      go_ret
      exact ⟨ret_int HR.out.symm, (Below.refl _ _).alloc (Nat.le_refl _) _⟩
    | false =>
      have HR : Hid (formN 0 false = 3) := by unfold Hid formN; simp
      go_enter Tryd.func38, Tryd.ntmps38
      go_wp2
      go_ret
      exact ⟨ret_int HR.out.symm, (Below.refl _ _).alloc (Nat.le_refl _) _⟩
  · have HR : Hid (formN n b = 3) := by unfold Hid formN; simp [h]
    go_enter Tryd.func38, Tryd.ntmps38
    go_wp2
    go_ret
    exact ⟨ret_int HR.out.symm, (Below.refl _ _).alloc (Nat.le_refl _) _⟩

set_option maxHeartbeats 2000000 in
theorem checkNumber_any (t : Tok) (w : World) :
    Calls Tryd.prog 37 #[.agg #[.int .i64 t.kind, .string (S t.text), .int .i64 t.num]] w fun e w' => e = .returned (.int .i64 (numN t)) ∧ Below w.heap.size w w' := by
  obtain ⟨k, x, n⟩ := t
  by_cases h0 : n < 0
  · have HR : Hid (numN ⟨k, x, n⟩ = 6) := by unfold Hid numN; simp only; rw [if_pos (by omega)]
    go_enter Tryd.func37, Tryd.ntmps37
    go_wp2
    go_ret
    exact ⟨ret_int HR.out.symm, (Below.refl _ _).alloc (Nat.le_refl _) _⟩
  · by_cases h1 : 2147483647 < n
    · have HR : Hid (numN ⟨k, x, n⟩ = 6) := by unfold Hid numN; simp only; rw [if_pos (by omega)]
      go_enter Tryd.func37, Tryd.ntmps37
      go_wp2
      go_ret
      exact ⟨ret_int HR.out.symm, (Below.refl _ _).alloc (Nat.le_refl _) _⟩
    · cases x with
      | nil =>
        have he := S_none
        have HR : Hid (numN ⟨k, [], n⟩ = 0) := by unfold Hid numN; simp only; rw [if_neg (by omega)]; rfl
        go_enter Tryd.func37, Tryd.ntmps37
        go_wp2
        go_ret
        exact ⟨ret_int HR.out.symm, (Below.refl _ _).alloc (Nat.le_refl _) _⟩
      | cons c x =>
        have he := S_some c x
        have HR : Hid (numN ⟨k, c :: x, n⟩ = 3) := by unfold Hid numN; simp only; rw [if_neg (by omega)]; rfl
        go_enter Tryd.func37, Tryd.ntmps37
        go_wp2
        go_ret
        exact ⟨ret_int HR.out.symm, (Below.refl _ _).alloc (Nat.le_refl _) _⟩

theorem fault_three {t : Tok} (h : t.kind = 3) : faultT t = numN t := by
  unfold faultT; rw [if_neg (by omega), if_pos h]; rfl
theorem fault_word {t : Tok} (h : t.kind = 1 ∨ t.kind = 2) : faultT t = formN t.num (wordB t.text) := by
  unfold faultT formN
  rw [if_neg (by omega), if_neg (by omega)]
  by_cases hn : t.num = 0
  · rw [if_neg (by simpa using hn), if_neg (by omega), if_neg (by omega)]
    cases wordB t.text <;> simp [hn]
  · rw [if_pos hn, if_pos (Or.inl hn)]
theorem fault_str {t : Tok} (h : t.kind = 4) : faultT t = formN t.num true := by
  unfold faultT formN
  rw [if_neg (by omega), if_neg (by omega), if_neg (show ¬ t.kind = 5 by omega), if_pos h]
  simp
theorem fault_mark {t : Tok} (h : t.kind = 5) : faultT t = formN t.num (markB t.text) := by
  unfold faultT formN
  rw [if_neg (by omega), if_neg (by omega)]
  by_cases hn : t.num = 0
  · rw [if_neg (by simpa using hn), if_pos h]
    have e : (t.text.length = 1 ∧ t.text.all markC = true) ↔ markB t.text = true := by
      match t.text with
      | [] => simp [markB]
      | [c] => simp [markB]
      | a :: b :: r => simp [markB]
    cases hm : markB t.text with
    | true => rw [if_pos (e.2 hm), if_neg (by simp [hn])]
    | false => rw [if_neg (fun q => by have := e.1 q; rw [hm] at this; cases this), if_pos (Or.inr rfl)]
  · rw [if_pos hn, if_pos (Or.inl hn)]
theorem fault_none {t : Tok} (h : ¬ (1 ≤ t.kind ∧ t.kind ≤ 5)) : faultT t = 2 := by unfold faultT; rw [if_pos h]

theorem hid' {p : Prop} (h : p) : Hid p := h
set_option maxHeartbeats 8000000 in
set_option maxRecDepth 100000 in
theorem tcheck_w (t : Tok) (w : World) (hs : t.kind = 1 ∨ t.kind = 2 → t.text.length ≤ maxLen) :
    Calls Tryd.prog 27 #[.agg #[.int .i64 t.kind, .string (S t.text), .int .i64 t.num]] w fun e w' => e = .returned (.int .i64 (faultT t)) ∧ Below w.heap.size w w' := by
  have HS : Hid _ := hs
  clear hs
  obtain ⟨W0, hW0⟩ : ∃ W0, W0 = w.alloc (.cells #[.int .i64 t.kind, .string (S t.text), .int .i64 t.num] 44) := ⟨_, rfl⟩
  have hT : TokB W0 w.heap.size t := by rw [hW0]; exact tokB_new w t
  have HB0 : Hid (Below w.heap.size w W0) := by unfold Hid; rw [hW0]; exact (Below.refl _ _).alloc (Nat.le_refl _) _
  have HW : Hid _ := hW0
  have k0 := hT.c0
  have k1 := hT.c1
  have k2 := hT.c2
  clear hW0 hT
  by_cases h3 : t.kind = 3
  · have HF : Hid _ := fault_three h3
    have hq : (t.kind == 3) = true := by simp [h3]
    clear h3
    go_enter Tryd.func27, Tryd.ntmps27
    go_wp2_with fail
    rw [← HW.out]
    refine (checkNumber_any t _).mono ?_
    rintro e u ⟨rfl, hb⟩
    go_wp2
    go_ret
    exact ⟨ret_int (by rw [HF.out]), HB0.out.trans (hb.mono HB0.out.size)⟩
  have q3 : (t.kind == 3) = false := by simp [h3]
  by_cases h1 : t.kind = 1
  · have HF : Hid _ := fault_word (t := t) (Or.inl h1)
    have q1 : (t.kind == 1) = true := by simp [h1]
    have HS := hid' (HS.out (Or.inl h1))
    clear h1 h3
    go_enter Tryd.func27, Tryd.ntmps27
    go_wp2
    rw [← HW.out]
    go_region_held3 (fun w' => w'.cell? ⟨w.heap.size, 0, none⟩ = some (.int .i64 t.kind) ∧ w'.cell? ⟨w.heap.size, 1, none⟩ = some (.string (S t.text)) ∧ w'.cell? ⟨w.heap.size, 2, none⟩ = some (.int .i64 t.num)) (go_keep)
      (first
         | (go_at_call 39
            refine (isWord_any t.text _ HS.out).mono ?_
            rintro e u ⟨rfl, hu⟩
            have hu' := hu.symm
            subst hu')
         | (go_at_call 38
            refine (formOf_any t (wordB t.text) _).mono ?_
            rintro e u2 ⟨rfl, hb⟩
            have d0 : u2.cell? ⟨w.heap.size, 0, none⟩ = some (.int .i64 t.kind) := wcell_next (w := W0.drew) k0 hb
            have d1 : u2.cell? ⟨w.heap.size, 1, none⟩ = some (.string (S t.text)) := wcell_next (w := W0.drew) k1 hb
            have d2 : u2.cell? ⟨w.heap.size, 2, none⟩ = some (.int .i64 t.num) := wcell_next (w := W0.drew) k2 hb))
    go_wp2
    go_ret
    exact ⟨ret_int (by rw [HF.out]), (HB0.out.drew).trans (hb.mono HB0.out.drew.size)⟩
  have q1 : (t.kind == 1) = false := by simp [h1]
  by_cases h2 : t.kind = 2
  · have HF : Hid _ := fault_word (t := t) (Or.inr h2)
    have q2 : (t.kind == 2) = true := by simp [h2]
    have HS := hid' (HS.out (Or.inr h2))
    clear h1 h2 h3
    go_enter Tryd.func27, Tryd.ntmps27
    go_wp2
    rw [← HW.out]
    go_region_held3 (fun w' => w'.cell? ⟨w.heap.size, 0, none⟩ = some (.int .i64 t.kind) ∧ w'.cell? ⟨w.heap.size, 1, none⟩ = some (.string (S t.text)) ∧ w'.cell? ⟨w.heap.size, 2, none⟩ = some (.int .i64 t.num)) (go_keep)
      (first
         | (go_at_call 39
            refine (isWord_any t.text _ HS.out).mono ?_
            rintro e u ⟨rfl, hu⟩
            have hu' := hu.symm
            subst hu')
         | (go_at_call 38
            refine (formOf_any t (wordB t.text) _).mono ?_
            rintro e u2 ⟨rfl, hb⟩
            have d0 : u2.cell? ⟨w.heap.size, 0, none⟩ = some (.int .i64 t.kind) := wcell_next (w := W0.drew) k0 hb
            have d1 : u2.cell? ⟨w.heap.size, 1, none⟩ = some (.string (S t.text)) := wcell_next (w := W0.drew) k1 hb
            have d2 : u2.cell? ⟨w.heap.size, 2, none⟩ = some (.int .i64 t.num) := wcell_next (w := W0.drew) k2 hb))
    go_wp2
    go_ret
    exact ⟨ret_int (by rw [HF.out]), (HB0.out.drew).trans (hb.mono HB0.out.drew.size)⟩
  have q2 : (t.kind == 2) = false := by simp [h2]
  by_cases h4 : t.kind = 4
  · have HF : Hid _ := fault_str h4
    have q4 : (t.kind == 4) = true := by simp [h4]
    clear h1 h2 h3 h4
    go_enter Tryd.func27, Tryd.ntmps27
    go_wp2_with fail
    rw [← HW.out]
    refine (formOf_any t true _).mono ?_
    rintro e u ⟨rfl, hb⟩
    go_wp2
    go_ret
    exact ⟨ret_int (by rw [HF.out]), HB0.out.trans (hb.mono HB0.out.size)⟩
  have q4 : (t.kind == 4) = false := by simp [h4]
  by_cases h5 : t.kind = 5
  · have HF : Hid _ := fault_mark h5
    have q5 : (t.kind == 5) = true := by simp [h5]
    clear h1 h2 h3 h4 h5
    go_enter Tryd.func27, Tryd.ntmps27
    go_wp2
    rw [← HW.out]
    go_region_held3 (fun w' => w'.cell? ⟨w.heap.size, 0, none⟩ = some (.int .i64 t.kind) ∧ w'.cell? ⟨w.heap.size, 1, none⟩ = some (.string (S t.text)) ∧ w'.cell? ⟨w.heap.size, 2, none⟩ = some (.int .i64 t.num)) (go_keep)
      (first
         | (go_at_call 40
            refine (isMark_any t.text _).mono ?_
            rintro e u ⟨rfl, hu⟩
            have hu' := hu.symm
            subst hu')
         | (go_at_call 38
            refine (formOf_any t (markB t.text) _).mono ?_
            rintro e u2 ⟨rfl, hb⟩
            have d0 : u2.cell? ⟨w.heap.size, 0, none⟩ = some (.int .i64 t.kind) := wcell_next (w := W0.drew) k0 hb
            have d1 : u2.cell? ⟨w.heap.size, 1, none⟩ = some (.string (S t.text)) := wcell_next (w := W0.drew) k1 hb
            have d2 : u2.cell? ⟨w.heap.size, 2, none⟩ = some (.int .i64 t.num) := wcell_next (w := W0.drew) k2 hb))
    go_wp2
    go_ret
    exact ⟨ret_int (by rw [HF.out]), (HB0.out.drew).trans (hb.mono HB0.out.drew.size)⟩
  have q5 : (t.kind == 5) = false := by simp [h5]
  have HF : Hid _ := fault_none (t := t) (by omega)
  clear h1 h2 h3 h4 h5
  go_enter Tryd.func27, Tryd.ntmps27
  go_wp2
  go_ret
  exact ⟨ret_int (by rw [HF.out]), by first | exact HB0.out | exact (Below.refl _ _).alloc (Nat.le_refl _) _⟩
theorem tcheck_any (t : Tok) (w : World) (hs : t.text.length ≤ maxLen) :
    Calls Tryd.prog 27 #[.agg #[.int .i64 t.kind, .string (S t.text), .int .i64 t.num]] w fun e w' => e = .returned (.int .i64 (faultT t)) ∧ Below w.heap.size w w' := tcheck_w t w fun _ => hs
end Go.Proofs.YtnjlakengbhokaaDoor
