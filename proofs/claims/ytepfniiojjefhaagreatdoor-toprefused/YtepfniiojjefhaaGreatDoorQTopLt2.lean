/-
  What the laws of the whole make of raw numbers: the lines of a whole letter. Plain meaning and walk.
  What the laws of the whole make of raw numbers: a line that a session may send. Plain meaning and walk.
-/
import Derived.Test.YtepfniiojjefhaaGreatDoorQScrCard9
namespace Go.Proofs.YtepfniiojjefhaaGreatDoor
open Go.RowKit Go.Proofs

def joeL (k : Nat) : List UInt8 := match k with | 0 => [106, 111, 101] | _ => [115, 112, 97, 109]
def annL (k : Nat) : List UInt8 := match k with | 0 => [97, 110, 110] | 1 => [98, 111, 98] | 2 => [99, 97, 116] | _ => [100, 97, 110]
def mailL (k : Nat) : List UInt8 := [77, 65, 73, 76, 32, 70, 82, 79, 77, 58, 60] ++ joeL k ++ [64, 122, 46, 122, 62]
def rcptL (k : Nat) : List UInt8 := [82, 67, 80, 84, 32, 84, 79, 58, 60] ++ annL k ++ [64, 120, 46, 121, 62]
def crL : List UInt8 := [13, 10]
def rcptsM (p : Nat) : Nat → List UInt8
  | 0 => []
  | k + 1 => rcptsM p k ++ if p.testBit k then rcptL k ++ crL else []
def lhloL : List UInt8 := [76, 72, 76, 79, 32, 120, 46, 121]
def lt1 (g : Gea) : List UInt8 := lhloL ++ crL ++ mailL (pickN g.a 2) ++ crL
/-- The lines of a letter. -/
def letterM (g : Gea) : List UInt8 := lt1 g ++ rcptsM (pickN g.user 8) 3 ++ ([68, 65, 84, 65, 13, 10] ++ headM g ++ crL) ++ [46] ++ gWd g ++ [13, 10, 46, 13, 10]
theorem joe_at {k : Nat} (h : k < 2) : ∀ h, ([.string { data := #[106, 111, 101] }, .string { data := #[115, 112, 97, 109] }] : List Value)[k]'h = .string (S (joeL k)) := by
  match k, h with
  | 0, _ | 1, _ => intro _; rfl
theorem joe_size (k : Nat) : (S (joeL k)).size ≤ 4 := by rw [size_S]; unfold joeL; split <;> decide
theorem rcptL_len (k : Nat) : (rcptL k ++ crL).length ≤ 20 := by
  unfold rcptL annL crL
  split <;> decide
theorem rcptsM_len (p k : Nat) : (rcptsM p k).length ≤ 20 * k := by
  induction k with
  | zero => simp [rcptsM]
  | succ k ih =>
    rw [rcptsM, List.length_append]
    split
    · have := rcptL_len k; omega
    · simp; omega
theorem headM_len (g : Gea) : (headM g).length ≤ 500 := by
  unfold headM headL2 headL1
  have h5 := pickN_lt g.b 5 (by decide)
  have h1 := wordL_len g.text.data.toList
  have h2 := k3_size (pickN g.b 3)
  rw [size_S] at h2
  have h3 : (if pickN g.b 4 = 1 then listL else []).length ≤ 11 := by split <;> simp [listL]
  simp only [List.length_append, xLs_len, gWd]
  simp only [subjL, List.length_cons, List.length_nil]
  omega
theorem bit_at {p j : Nat} (hp : p < 8) (hj : j < 3) : (bits BinOp.and IntKind.i64 ((p : Int) / 2 ^ j) 1 == 1) = p.testBit j := by
  obtain rfl | rfl | rfl | rfl | rfl | rfl | rfl | rfl : p = 0 ∨ p = 1 ∨ p = 2 ∨ p = 3 ∨ p = 4 ∨ p = 5 ∨ p = 6 ∨ p = 7 := by omega
  all_goals obtain rfl | rfl | rfl : j = 0 ∨ j = 1 ∨ j = 2 := by omega
  all_goals decide
theorem ann_at {k : Nat} (h : k < 3) : ∀ h, ([.string { data := #[97, 110, 110] }, .string { data := #[98, 111, 98] }, .string { data := #[99, 97, 116] }] : List Value)[k]'h = .string (S (annL k)) := by
  match k, h with
  | 0, _ | 1, _ | 2, _ => intro _; rfl
theorem ann_size (k : Nat) : (S (annL k)).size = 3 := by rw [size_S]; unfold annL; split <;> rfl
theorem rcpt_S (k : Nat) : (⟨#[82, 67, 80, 84, 32, 84, 79, 58, 60]⟩ : ByteArray) ++ S (annL k) ++ ⟨#[64, 120, 46, 121, 62, 13, 10]⟩ = S (rcptL k ++ crL) := by
  show S [82, 67, 80, 84, 32, 84, 79, 58, 60] ++ S (annL k) ++ S [64, 120, 46, 121, 62, 13, 10] = _
  rw [S_app, S_app]
  simp [rcptL, crL]
theorem rc_yes {p j : Nat} (L : List UInt8) (h : p.testBit j = true) : S (L ++ rcptsM p j) ++ S (rcptL j ++ crL) = S (L ++ rcptsM p (j + 1)) := by
  rw [S_app, rcptsM, if_pos h, List.append_assoc]
theorem rc_no {p j : Nat} (L : List UInt8) (h : p.testBit j = false) : S (L ++ rcptsM p j) = S (L ++ rcptsM p (j + 1)) := by
  rw [rcptsM, if_neg (by simp [h]), List.append_nil]
set_option maxHeartbeats 1000000 in
set_option maxRecDepth 100000 in
theorem letter_any (g : Gea) (w : World) (hw : geaW g) :
    Calls Tryz.prog 22 #[geaV g] w fun e w' => e = .returned (.string (S (letterM g))) ∧ Below w.heap.size w w' := by
  have HW := hid hw
  have h2 := pickN_lt g.a 2 (by decide)
  have h8 := pickN_lt g.user 8 (by decide)
  have HP2 := hid (fun u => Picked_any g.a 2 u HW.out.2.2.2.1 (by decide) (by decide))
  have HP8 := hid (fun u => Picked_any g.user 8 u HW.out.2.2.1 (by decide) (by decide))
  have HL1 := hid (show lt1 g = lhloL ++ crL ++ mailL (pickN g.a 2) ++ crL from rfl)
  have HLM := hid (show letterM g = lt1 g ++ rcptsM (pickN g.user 8) 3 ++ ([68, 65, 84, 65, 13, 10] ++ headM g ++ crL) ++ [46] ++ gWd g ++ [13, 10, 46, 13, 10] from rfl)
  generalize pickN g.a 2 = k at *
  generalize pickN g.user 8 = p at *
  have hget := joe_at h2
  have hsz := joe_size k
  have hi0 : (0 : Int) ≤ (k : Int) := by omega
  have hi2 : (k : Int) < 2 := by omega
  clear hw
  unfold geaV
  go_enter Tryz.func22, Tryz.ntmps22
  go_wp2_with fail
  refine (HP2.out _).mono ?_
  rintro e u ⟨rfl, hu⟩
  have hu' := hu.symm
  subst hu'
  clear hu
  obtain ⟨W1, hW1⟩ : ∃ W1, W1 = (w.alloc (.cells #[.int .i64 g.kind, .int .i64 g.conn, .int .i64 g.user, .int .i64 g.a, .int .i64 g.b, .string g.text] 51)).alloc (.cells #[.string { data := #[106, 111, 101] }, .string { data := #[115, 112, 97, 109] }] 9) := ⟨_, rfl⟩
  have HB1 := hid (show Below w.heap.size w W1 by rw [hW1]; exact ((Below.refl _ _).alloc (Nat.le_refl _) _).alloc (by simp) _)
  have hh : W1.heap[w.heap.size]? = some (.cells #[.int .i64 g.kind, .int .i64 g.conn, .int .i64 g.user, .int .i64 g.a, .int .i64 g.b, .string g.text] 51) := by
    rw [hW1]
    exact (((Below.refl _ _).alloc (Nat.le_refl _) _).block w.heap.size (by simp)).trans (heap_alloc_new w _)
  have HG := hid (show ∀ v, Below W1.heap.size W1 v → v.cell? ⟨w.heap.size, 0, none⟩ = some (.int .i64 g.kind) ∧ v.cell? ⟨w.heap.size, 1, none⟩ = some (.int .i64 g.conn) ∧ v.cell? ⟨w.heap.size, 2, none⟩ = some (.int .i64 g.user) ∧ v.cell? ⟨w.heap.size, 3, none⟩ = some (.int .i64 g.a) ∧ v.cell? ⟨w.heap.size, 4, none⟩ = some (.int .i64 g.b) ∧ v.cell? ⟨w.heap.size, 5, none⟩ = some (.string g.text) from fun v hv =>
    ⟨wcell_next (by simp [World.cell?, hh]) hv, wcell_next (by simp [World.cell?, hh]) hv, wcell_next (by simp [World.cell?, hh]) hv, wcell_next (by simp [World.cell?, hh]) hv, wcell_next (by simp [World.cell?, hh]) hv, wcell_next (by simp [World.cell?, hh]) hv⟩)
  have HT1 := hid (show (⟨#[76, 72, 76, 79, 32, 120, 46, 121, 13, 10, 77, 65, 73, 76, 32, 70, 82, 79, 77, 58, 60]⟩ : ByteArray) ++ S (joeL k) ++ ⟨#[64, 122, 46, 122, 62, 13, 10]⟩ = S (lt1 g ++ rcptsM p 0) by
    rw [HL1.out]
    show S [76, 72, 76, 79, 32, 120, 46, 121, 13, 10, 77, 65, 73, 76, 32, 70, 82, 79, 77, 58, 60] ++ S (joeL k) ++ S [64, 122, 46, 122, 62, 13, 10] = _
    rw [S_app, S_app]
    simp [lhloL, crL, mailL, rcptsM])
  have hl1 : (lt1 g).length ≤ 40 := by
    rw [HL1.out]
    rw [size_S] at hsz
    simp only [List.length_append, lhloL, crL, mailL, List.length_cons, List.length_nil]
    omega
  go_wp2_with fail
  rw [HT1.out, ← hW1]
  clear hW1 hh hget hi0 hi2
  go_loopw [3, 4] (fun s i wr => ∃ j : Nat, j ≤ 3 ∧ s = .string (S (lt1 g ++ rcptsM p j)) ∧ i = .int .i64 j ∧ Hid (Below W1.heap.size W1 wr)) (fun _ i _ => 3 - (intOf i).toNat)
  case atStart => exact ⟨0, Nat.zero_le _, rfl, rfl, hid (Below.refl _ _)⟩
  case round =>
    obtain ⟨j, hj, rfl, rfl, HBR⟩ := hrel
    obtain ⟨g0, g1, g2, g3, g4, g5⟩ := HG.out wr HBR.out
    have hxs : (S (lt1 g ++ rcptsM p j)).size ≤ 200 := by
      rw [size_S, List.length_append]
      have := rcptsM_len p j
      omega
    by_cases hlt : j < 3
    · have i1 : (j : Int) < 3 := by omega
      have HRJ := hid (show rcptsM p (j + 1) = rcptsM p j ++ if p.testBit j then rcptL j ++ crL else [] from rfl)
      go_wp2_with fail
      refine (HP8.out _).mono ?_
      rintro e u ⟨rfl, hu⟩
      have hu' := hu.symm
      subst hu'
      clear hu
      have hbit := bit_at h8 hlt
      have hget := ann_at hlt
      have hi0 : (0 : Int) ≤ (j : Int) := by omega
      have hsa := ann_size j
      cases hb : p.testBit j with
      | true =>
        have HY := hid (rc_yes (lt1 g) hb)
        rw [hb] at hbit
        clear hb
        go_wp2
        go_roundw
        case rel => exact ⟨j + 1, by omega, by rw [← HY.out, ← rcpt_S], by go_num, hid (HBR.out.alloc HBR.out.size _)⟩
        case measure => simp [intOf]; omega
      | false =>
        have HY := hid (rc_no (lt1 g) hb)
        rw [hb] at hbit
        clear hb
        go_wp2
        go_roundw
        case rel => exact ⟨j + 1, by omega, by rw [← HY.out], by go_num, HBR⟩
        case measure => simp [intOf]; omega
    · have i1 : ¬ (j : Int) < 3 := by omega
      obtain rfl : j = 3 := by omega
      have hhl := headM_len g
      have hhs : (S (headM g)).size ≤ 500 := by rw [size_S]; exact hhl
      have hwl : (S (wordL g.text.data.toList)).size ≤ 8 := by rw [size_S]; exact wordL_len _
      go_wp2_with fail
      rw [show Value.agg #[.int .i64 g.kind, .int .i64 g.conn, .int .i64 g.user, .int .i64 g.a, .int .i64 g.b, .string g.text] = geaV g from rfl]
      refine (head_any g wr HW.out).mono ?_
      rintro e w2 ⟨rfl, hb2⟩
      have HB2 := hid (HBR.out.trans (hb2.mono HBR.out.size))
      obtain ⟨g0, g1, g2, g3, g4, g5⟩ := HG.out w2 HB2.out
      clear hb2
      go_wp2_with fail
      refine (Word_any g.text w2 HW.out.2.2.2.2.2).mono ?_
      rintro e w3 ⟨rfl, hb3⟩
      have HB3 := hid (HB2.out.trans (hb3.mono HB2.out.size))
      clear hb3
      go_wp2
      go_ret
      refine ⟨?_, HB1.out.trans (HB3.out.mono HB1.out.size)⟩
      rw [HLM.out]
      show Ending.returned (.string (S (lt1 g ++ rcptsM p 3) ++ (S [68, 65, 84, 65, 13, 10] ++ S (headM g) ++ S [13, 10]) ++ S [46] ++ S (gWd g) ++ S [13, 10, 46, 13, 10])) = _
      rw [S_app, S_app, S_app, S_app, S_app, S_app]
      rfl
end Go.Proofs.YtepfniiojjefhaaGreatDoor
namespace Go.Proofs.YtepfniiojjefhaaGreatDoor
open Go.RowKit Go.Proofs

def wfL (k : Nat) : List UInt8 := match k with | 0 => [119, 111, 114, 107] | _ => [102, 117, 110]
def lineK (g : Gea) : Nat → List UInt8
  | 0 | 1 => lhloL
  | 2 | 3 | 4 => mailL (pickN g.a 2)
  | 5 | 6 | 7 => rcptL (pickN g.user 4)
  | 8 => [68, 65, 84, 65]
  | 9 => [82, 83, 69, 84]
  | 10 => [81, 85, 73, 84]
  | 11 => subjL ++ wfL (pickN g.a 2) ++ crL
  | 12 => [46]
  | 13 => [76, 105, 115, 116, 58, 32, 97]
  | _ => valL g.text.data.toList
/-- A line that a session may send. -/
def tlineM (g : Gea) : List UInt8 := lineK g (pickN g.kind 16)
theorem ann4_at {k : Nat} (h : k < 4) : ∀ h, ([.string { data := #[97, 110, 110] }, .string { data := #[98, 111, 98] }, .string { data := #[99, 97, 116] }, .string { data := #[100, 97, 110] }] : List Value)[k]'h = .string (S (annL k)) := by
  match k, h with
  | 0, _ | 1, _ | 2, _ | 3, _ => intro _; rfl
theorem wf_at {k : Nat} (h : k < 2) : ∀ h, ([.string { data := #[119, 111, 114, 107] }, .string { data := #[102, 117, 110] }] : List Value)[k]'h = .string (S (wfL k)) := by
  match k, h with
  | 0, _ | 1, _ => intro _; rfl
theorem wf_size (k : Nat) : (S (wfL k)).size ≤ 4 := by rw [size_S]; unfold wfL; split <;> decide
theorem mail_S (k : Nat) : (⟨#[77, 65, 73, 76, 32, 70, 82, 79, 77, 58, 60]⟩ : ByteArray) ++ S (joeL k) ++ ⟨#[64, 122, 46, 122, 62]⟩ = S (mailL k) := by
  show S [77, 65, 73, 76, 32, 70, 82, 79, 77, 58, 60] ++ S (joeL k) ++ S [64, 122, 46, 122, 62] = _
  rw [S_app, S_app]
  rfl
theorem rcp_S (k : Nat) : (⟨#[82, 67, 80, 84, 32, 84, 79, 58, 60]⟩ : ByteArray) ++ S (annL k) ++ ⟨#[64, 120, 46, 121, 62]⟩ = S (rcptL k) := by
  show S [82, 67, 80, 84, 32, 84, 79, 58, 60] ++ S (annL k) ++ S [64, 120, 46, 121, 62] = _
  rw [S_app, S_app]
  rfl
theorem sub_S (k : Nat) : (⟨#[83, 117, 98, 106, 101, 99, 116, 58, 32]⟩ : ByteArray) ++ S (wfL k) ++ ⟨#[13, 10]⟩ = S (subjL ++ wfL k ++ crL) := by
  show S subjL ++ S (wfL k) ++ S crL = _
  rw [S_app, S_app]
set_option maxHeartbeats 2000000 in
set_option maxRecDepth 100000 in
theorem line_any' (g : Gea) (w : World) (hw : geaW g) :
    Calls Tryz.prog 23 #[geaV g] w fun e w' => e = .returned (.string (S (tlineM g))) ∧ Below w.heap.size w w' := by
  have HW := hid hw
  have h2 := pickN_lt g.a 2 (by decide)
  have h4 := pickN_lt g.user 4 (by decide)
  have h16 := pickN_lt g.kind 16 (by decide)
  have HP2 := hid (fun u => Picked_any g.a 2 u HW.out.2.2.2.1 (by decide) (by decide))
  have HP4 := hid (fun u => Picked_any g.user 4 u HW.out.2.2.1 (by decide) (by decide))
  have HPK := hid (fun u => Picked_any g.kind 16 u HW.out.1 (by decide) (by decide))
  have HVA := hid (fun u => Value_any g.text u HW.out.2.2.2.2.2)
  have HM := hid (show tlineM g = lineK g (pickN g.kind 16) from rfl)
  have HB := hid (show ∀ a b : Obj, Below w.heap.size w ((w.alloc a).alloc b) from fun a b => ((Below.refl _ _).alloc (Nat.le_refl _) a).alloc (by simp) b)
  have HB3 := hid (show ∀ a b d : Obj, Below w.heap.size w (((w.alloc a).alloc b).alloc d) from fun a b d => (((Below.refl _ _).alloc (Nat.le_refl _) a).alloc (by simp) b).alloc (by simp; omega) d)
  have e2 : ∀ k, k = 2 ∨ k = 3 ∨ k = 4 → lineK g k = mailL (pickN g.a 2) := by rintro k (rfl | rfl | rfl) <;> rfl
  have e5 : ∀ k, k = 5 ∨ k = 6 ∨ k = 7 → lineK g k = rcptL (pickN g.user 4) := by rintro k (rfl | rfl | rfl) <;> rfl
  have e11 : lineK g 11 = subjL ++ wfL (pickN g.a 2) ++ crL := rfl
  have HE2 := hid e2
  have HE5 := hid e5
  have HE11 := hid e11
  clear e2 e5 e11 hw
  generalize pickN g.a 2 = i at *
  generalize pickN g.user 4 = j at *
  generalize pickN g.kind 16 = k at *
  have hj0 : (0 : Int) ≤ (j : Int) := by omega
  have hj4 : (j : Int) < 4 := by omega
  have hi0 : (0 : Int) ≤ (i : Int) := by omega
  have hi2 : (i : Int) < 2 := by omega
  have hget := ann4_at h4
  have hgj := joe_at h2
  have hgw := wf_at h2
  have s1 := ann_size j
  have s2 := joe_size i
  have s3 := wf_size i
  unfold geaV
  go_enter Tryz.func23, Tryz.ntmps23
  go_wp2_with fail
  refine (HP4.out _).mono ?_
  rintro e u ⟨rfl, hu⟩
  have hu' := hu.symm
  subst hu'
  clear hu
  go_wp2_with fail
  refine (HPK.out _).mono ?_
  rintro e u ⟨rfl, hu⟩
  have hu' := hu.symm
  subst hu'
  clear hu hget hj0 hj4
  obtain rfl | rfl | rfl | rfl | rfl | rfl | rfl | rfl | rfl | rfl | rfl | rfl | rfl | rfl | rfl | rfl : k = 0 ∨ k = 1 ∨ k = 2 ∨ k = 3 ∨ k = 4 ∨ k = 5 ∨ k = 6 ∨ k = 7 ∨ k = 8 ∨ k = 9 ∨ k = 10 ∨ k = 11 ∨ k = 12 ∨ k = 13 ∨ k = 14 ∨ k = 15 := by omega
  iterate 2
    · go_wp2
      go_ret
      exact ⟨by rw [HM.out]; rfl, HB.out _ _⟩
  iterate 3
    · go_wp2_with fail
      refine (HP2.out _).mono ?_
      rintro e u ⟨rfl, hu⟩
      have hu' := hu.symm
      subst hu'
      clear hu
      go_wp2
      go_ret
      exact ⟨by rw [HM.out, HE2.out _ (by decide), ← mail_S]; rfl, HB3.out _ _ _⟩
  iterate 3
    · go_wp2
      go_ret
      exact ⟨by rw [HM.out, HE5.out _ (by decide), ← rcp_S]; rfl, HB.out _ _⟩
  iterate 3
    · go_wp2
      go_ret
      exact ⟨by rw [HM.out]; rfl, HB.out _ _⟩
  · go_wp2_with fail
    refine (HP2.out _).mono ?_
    rintro e u ⟨rfl, hu⟩
    have hu' := hu.symm
    subst hu'
    clear hu
    go_wp2
    go_ret
    exact ⟨by rw [HM.out, HE11.out, ← sub_S]; rfl, HB3.out _ _ _⟩
  iterate 2
    · go_wp2
      go_ret
      exact ⟨by rw [HM.out]; rfl, HB.out _ _⟩
  iterate 2
    · go_wp2_with fail
      refine (HVA.out _).mono ?_
      rintro e u ⟨rfl, hu⟩
      have HU := hid (show Below w.heap.size w u from (HB.out _ _).trans (hu.mono (HB.out _ _).size))
      clear hu
      go_wp2
      go_ret
      exact ⟨by rw [HM.out]; rfl, HU.out⟩
end Go.Proofs.YtepfniiojjefhaaGreatDoor
