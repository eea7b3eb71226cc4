/-
  code.Check: the walks.
-/
import Derived.Test.YtlcnfpeabnnjoaaGreatDoorCodCo
import Derived.Test.YtlcnfpeabnnjoaaGreatDoorJudReq
import Derived.Deep.MidRow
namespace Go.Proofs.YtlcnfpeabnnjoaaGreatDoor
open Go.RowKit Go.Proofs

def jumpB (k : Int) : Bool := (k == 3) || (k == 4) || (k == 5)
set_option maxHeartbeats 1000000 in
theorem isJump_any (k : Int) (w : World) : Calls Tryz.prog 76 #[.int .i64 k] w fun e w' => e = .returned (.bool (jumpB k)) ∧ w' = w := by
  unfold jumpB
  by_cases h3 : k = 3
  · subst h3
    go_enter Tryz.func76, Tryz.ntmps76
    go_wp2
    go_ret
    exact ⟨rfl, rfl⟩
  · have c3 : (k == 3) = false := by simp [h3]
    by_cases h4 : k = 4
    · subst h4
      go_enter Tryz.func76, Tryz.ntmps76
      go_wp2
      go_ret
      exact ⟨rfl, rfl⟩
    · have c4 : (k == 4) = false := by simp [h4]
      rw [c3, c4]
      simp only [Bool.false_or]
      clear h3 h4
      go_enter Tryz.func76, Tryz.ntmps76
      go_wp2
      go_ret
      exact ⟨rfl, rfl⟩
set_option maxHeartbeats 1000000 in
theorem hasTests_any (k : Int) (w : World) : Calls Tryz.prog 116 #[.int .i64 k] w fun e w' => e = .returned (.bool (jumpB k)) ∧ w' = w := by
  unfold jumpB
  by_cases h3 : k = 3
  · subst h3
    go_enter Tryz.func116, Tryz.ntmps116
    go_wp2
    go_ret
    exact ⟨rfl, rfl⟩
  · have c3 : (k == 3) = false := by simp [h3]
    by_cases h4 : k = 4
    · subst h4
      go_enter Tryz.func116, Tryz.ntmps116
      go_wp2
      go_ret
      exact ⟨rfl, rfl⟩
    · have c4 : (k == 4) = false := by simp [h4]
      rw [c3, c4]
      simp only [Bool.false_or]
      clear h3 h4
      go_enter Tryz.func116, Tryz.ntmps116
      go_wp2
      go_ret
      exact ⟨rfl, rfl⟩
set_option maxHeartbeats 1000000 in
set_option maxRecDepth 100000 in
theorem noTest0 (p1 p2 p3 : Option Addr) (q1 q2 q3 : Nat) (w : World) : Calls Tryz.prog 114 #[.agg #[.int .i64 0, .int .i64 0, .int .i64 0, .slice p1 0 q1, .slice p2 0 q2, .bool false, .int .i64 0, .slice p3 0 q3]] w fun e w' => e = .returned (.bool true) ∧ Below w.heap.size w w' := by
  go_enter Tryz.func114, Tryz.ntmps114
  go_wp2
  go_ret
  exact ⟨rfl, (Below.refl _ _).alloc (Nat.le_refl _) _⟩
set_option maxHeartbeats 1000000 in
set_option maxRecDepth 100000 in
theorem noCmd0 (p4 p5 p6 p7 p8 p9 : Option Addr) (q4 q5 q6 q7 q8 q9 : Nat) (w : World) : Calls Tryz.prog 115 #[.agg #[.int .i64 0, .slice p4 0 q4, .int .i64 0, .int .i64 0, .int .i64 0, .slice p5 0 q5, .slice p6 0 q6, .bool false, .int .i64 0, .slice p7 0 q7, .slice p8 0 q8, .slice p9 0 q9]] w fun e w' => e = .returned (.bool true) ∧ Below w.heap.size w w' := by
  obtain ⟨W1, hW1⟩ : ∃ W1, W1 = w.alloc (.cells #[.int .i64 0, .slice p4 0 q4, .int .i64 0, .int .i64 0, .int .i64 0, .slice p5 0 q5, .slice p6 0 q6, .bool false, .int .i64 0, .slice p7 0 q7, .slice p8 0 q8, .slice p9 0 q9] 50) := ⟨_, rfl⟩
  have HWE := hid hW1
  have HB1 := hid (show Below w.heap.size w W1 by rw [hW1]; exact (Below.refl _ _).alloc (Nat.le_refl _) _)
  have hbx : W1.heap[w.heap.size]? = some (.cells #[.int .i64 0, .slice p4 0 q4, .int .i64 0, .int .i64 0, .int .i64 0, .slice p5 0 q5, .slice p6 0 q6, .bool false, .int .i64 0, .slice p7 0 q7, .slice p8 0 q8, .slice p9 0 q9] 50) := by rw [hW1]; exact heap_alloc_new w _
  have HBX := hid hbx
  have HN := hid (noTest0 p5 p6 p7 q5 q6 q7 W1)
  clear hW1 hbx
  go_enter Tryz.func115, Tryz.ntmps115
  go_wp2_with fail
  rw [← HWE.out]
  refine HN.out.mono ?_
  rintro e w2 ⟨rfl, hb2⟩
  have h2 := gm_low hb2 HBX.out
  have x10 := gm_cell (j := 10) h2 rfl
  have x11 := gm_cell (j := 11) h2 rfl
  have HB2 := hid (HB1.out.trans (hb2.mono HB1.out.size))
  clear h2 hb2
  go_wp2
  go_ret
  exact ⟨rfl, HB2.out⟩
set_option maxHeartbeats 1000000 in
set_option maxRecDepth 100000 in
theorem allowed_ok (M : Nat) (c : Cmd) (ax an ak at' aa ae : Option Addr) (cx cn ck ct ca ce : Nat) (w : World) (hw : Tabs w) (hC : CmdM anyB (M + 2) w c [.int .i64 c.kind, .slice ax c.texts.length cx, .int .i64 c.test.kind, .int .i64 c.test.mat, .int .i64 c.test.part, .slice an c.test.names.length cn, .slice ak c.test.keys.length ck, .bool c.test.over, .int .i64 c.test.limit, .slice at' c.test.tests.length ct, .slice aa c.thn.length ca, .slice ae c.els.length ce]) (hS : ShortC (M + 2) c) (hr : ruleM (M + 2) [reqC, c] = 0) :
    Calls Tryz.prog 78 #[.agg #[.int .i64 c.kind, .slice ax c.texts.length cx, .int .i64 c.test.kind, .int .i64 c.test.mat, .int .i64 c.test.part, .slice an c.test.names.length cn, .slice ak c.test.keys.length ck, .bool c.test.over, .int .i64 c.test.limit, .slice at' c.test.tests.length ct, .slice aa c.thn.length ca, .slice ae c.els.length ce]] w fun e w' => e = .returned (.int .i64 0) ∧ Below w.heap.size w w' := by
  obtain ⟨W3, hW3⟩ : ∃ W3, W3 = (((w.alloc (.cells #[.int .i64 c.kind, .slice ax c.texts.length cx, .int .i64 c.test.kind, .int .i64 c.test.mat, .int .i64 c.test.part, .slice an c.test.names.length cn, .slice ak c.test.keys.length ck, .bool c.test.over, .int .i64 c.test.limit, .slice at' c.test.tests.length ct, .slice aa c.thn.length ca, .slice ae c.els.length ce] 50)).alloc (.cells #[.string ⟨#[102, 105, 108, 101, 105, 110, 116, 111]⟩, .string ⟨#[114, 101, 106, 101, 99, 116]⟩, .string ⟨#[101, 110, 118, 101, 108, 111, 112, 101]⟩, .string ⟨#[105, 109, 97, 112, 52, 102, 108, 97, 103, 115]⟩] 9)).alloc (.cells #[.int .i64 1, .slice (some ⟨w.heap.size + 1, 0, none⟩) 4 4, .int .i64 0, .int .i64 0, .int .i64 0, .slice none 0 0, .slice none 0 0, .bool false, .int .i64 0, .slice none 0 0, .slice none 0 0, .slice none 0 0] 50)).alloc (.cells #[.int .i64 1, .slice (some ⟨w.heap.size + 1, 0, none⟩) 4 4, .int .i64 0, .int .i64 0, .int .i64 0, .slice none 0 0, .slice none 0 0, .bool false, .int .i64 0, .slice none 0 0, .slice none 0 0, .slice none 0 0, .int .i64 c.kind, .slice ax c.texts.length cx, .int .i64 c.test.kind, .int .i64 c.test.mat, .int .i64 c.test.part, .slice an c.test.names.length cn, .slice ak c.test.keys.length ck, .bool c.test.over, .int .i64 c.test.limit, .slice at' c.test.tests.length ct, .slice aa c.thn.length ca, .slice ae c.els.length ce] 50) := ⟨_, rfl⟩
  have HWE := hid hW3
  have hal : Below w.heap.size w W3 := by rw [hW3]; exact ((((Below.refl _ _).alloc (Nat.le_refl _) _).alloc (by simp) _).alloc (by simp; omega) _).alloc (by simp; omega) _
  have HB3 := hid hal
  have HST := hid (show W3.heap[w.heap.size + 1]? = some (.cells #[.string ⟨#[102, 105, 108, 101, 105, 110, 116, 111]⟩, .string ⟨#[114, 101, 106, 101, 99, 116]⟩, .string ⟨#[101, 110, 118, 101, 108, 111, 112, 101]⟩, .string ⟨#[105, 109, 97, 112, 52, 102, 108, 97, 103, 115]⟩] 9) by rw [hW3]; exact heap_old _ (heap_old _ (heap_at _ (by simp))))
  have HRW := hid (show CmdsM anyB (M + 2) W3 (.slice (some ⟨w.heap.size + 3, 0, none⟩) [reqC, c].length 2) [reqC, c] by
    refine pairM (t := 50) (fr := (0, 0)) (cs := [.int .i64 1, .slice (some ⟨w.heap.size + 1, 0, none⟩) 4 4, .int .i64 0, .int .i64 0, .int .i64 0, .slice none 0 0, .slice none 0 0, .bool false, .int .i64 0, .slice none 0 0, .slice none 0 0, .slice none 0 0]) (ds := [.int .i64 c.kind, .slice ax c.texts.length cx, .int .i64 c.test.kind, .int .i64 c.test.mat, .int .i64 c.test.part, .slice an c.test.names.length cn, .slice ak c.test.keys.length ck, .bool c.test.over, .int .i64 c.test.limit, .slice at' c.test.tests.length ct, .slice aa c.thn.length ca, .slice ae c.els.length ce]) (by rw [hW3]; exact heap_at _ (by simp)) rfl rfl trivial ?_ (CmdM.next hC hal)
    exact ⟨_, _, _, _, _, _, rfl, reqJ_txts HST.out trivial, none_tst _ _ _, rowM_nil _ _ _ _ _ _, rowM_nil _ _ _ _ _ _⟩)
  have HCH := hid (show Calls Tryz.prog 32 #[.slice (some ⟨w.heap.size + 3, 0, none⟩) 2 2] W3 fun e w' => e = .returned (.int .i64 0) ∧ Below W3.heap.size W3 w' by
    have := rcheck_some (M + 1) [reqC, c] (w.heap.size + 3) 0 2 W3 (hw.next hal) (by simp) (fun y hy => by
      simp at hy
      rcases hy with e | e
      · rw [e]; exact ⟨(fun h => by cases h), (fun x hx => by cases hx), fun x hx => by cases hx⟩
      · rw [e]; exact hS) HRW.out
    rw [show ruleM (M + 1 + 1) [reqC, c] = 0 from hr] at this
    exact this)
  clear hw hC hS hr hal hW3
  go_enter Tryz.func78, Tryz.ntmps78
  go_wp2_with fail
  rw [← HWE.out]
  refine HCH.out.mono ?_
  rintro e w4 ⟨rfl, hb4⟩
  have HB4 := hid (HB3.out.trans (hb4.mono HB3.out.size))
  clear hb4
  go_wp2
  go_ret
  exact ⟨rfl, HB4.out⟩
end Go.Proofs.YtlcnfpeabnnjoaaGreatDoor
