/-
  What the law ScriptDeep does: the walk.
-/
import Derived.Test.YtdmiidbncpgfpabDoorScrFace
import Derived.Test.YtdmiidbncpgfpabDoorScrBuild
import Derived.Test.YtdmiidbncpgfpabDoorKeepPick
namespace Go.Proofs.YtdmiidbncpgfpabDoor
open Go.RowKit Go.Proofs

def plainT (k : Int) : Tst := ⟨k, 0, 0, [], [], false, 0, []⟩
def deepP (ts : Bool) : Nat → Cmd
  | 0 => ⟨2, [], plainT 1, [], []⟩
  | i + 1 => if ts then ⟨2, [], ⟨3, 0, 0, [], [], false, 0, [(deepP ts i).test]⟩, [], []⟩ else ⟨2, [], plainT 1, [deepP ts i], []⟩
def flatP : Nat → Cmd
  | 0 => ⟨2, [], plainT 1, [], []⟩
  | i + 1 => ⟨2, [], plainT 2, [], [flatP i]⟩
theorem deep_form (i : Nat) : (deepP true i).texts = [] ∧ (deepP true i).thn = [] ∧ (deepP true i).els = [] ∧ (deepP true i).kind = 2 := by
  cases i <;> exact ⟨rfl, rfl, rfl, rfl⟩
def wantN (ts : Bool) (k : Nat) : Int := if (ts = true ∧ 5 < k) ∨ (ts = false ∧ 6 < k) then 1 else 0
theorem deep_check : ∀ (ts : Bool) (k : Nat), k < 12 → checkM 40 [deepP ts k] = wantN ts k := by decide +kernel
theorem flat_check : checkM 40 [flatP 20] = 0 := by decide +kernel

set_option maxHeartbeats 16000000 in
set_option maxRecDepth 100000 in
theorem scriptDeep_walk (w : World) (hm : WordsAt w) (n : Int) (hn : (Lit.int .i64 n).wf = true) (ts : Bool) :
    Calls Tryd.prog 3 #[.int .i64 n, .bool ts] w fun e w' => e = .returned (.bool true) ∧ Below w.heap.size w w' := by
  have HN := hid hn
  have HM := hid hm
  obtain ⟨k, hk⟩ : ∃ k, k = pickN n 12 := ⟨_, rfl⟩
  have hk12 : k < 12 := by rw [hk]; exact pickN_lt n 12 (by omega)
  have HK := hid hk
  obtain ⟨W0, hW0⟩ : ∃ W0, W0 = w.alloc (.cells #[.int .i64 2, .slice none 0 0, .int .i64 1, .int .i64 0, .int .i64 0, .slice none 0 0, .slice none 0 0, .bool false, .int .i64 0, .slice none 0 0, .slice none 0 0, .slice none 0 0] 29) := ⟨_, rfl⟩
  have hal : Below w.heap.size w W0 := by rw [hW0]; exact (Below.refl _ _).alloc (Nat.le_refl _) _
  have HH0 := hid (show W0.heap[w.heap.size]? = some (.cells #[.int .i64 2, .slice none 0 0, .int .i64 1, .int .i64 0, .int .i64 0, .slice none 0 0, .slice none 0 0, .bool false, .int .i64 0, .slice none 0 0, .slice none 0 0, .slice none 0 0] 29) by rw [hW0]; exact heap_alloc_new w _)
  have hz0 : w.heap.size < W0.heap.size := by rw [hW0]; simp
  have HWE := hid hW0
  have HAL := hid hal
  have HC0 := hid (show CmdM (fun b => w.heap.size < b) 2 W0 (deepP ts 0) [.int .i64 2, .slice none 0 0, .int .i64 1, .int .i64 0, .int .i64 0, .slice none 0 0, .slice none 0 0, .bool false, .int .i64 0, .slice none 0 0, .slice none 0 0, .slice none 0 0] from
    ⟨_, _, _, _, _, _, rfl, rowM_nil _ _ _ _ _ _, ⟨_, _, _, rfl, rowM_nil _ _ _ _ _ _, rowM_nil _ _ _ _ _ _, rowM_nil _ _ _ _ _ _⟩, rowM_nil _ _ _ _ _ _, rowM_nil _ _ _ _ _ _⟩)
  clear hW0 hal hk hn hm
  go_enter Tryd.func3, Tryd.ntmps3
  go_wp2_with fail
  refine (picked_any n 12 _ HN.out (by omega) (by omega)).mono ?_
  rintro e u ⟨rfl, hu⟩
  have hu' := hu.symm
  subst hu'
  rw [← HK.out]
  go_wp2
  rw [← HWE.out]
  go_loopw [7] (fun v wr => ∃ (i : Nat) (c : Cmd) (ax an ak at' aa ae : Option Addr) (cx cn ck ct ca ce : Nat), i ≤ k ∧ v = .int .i64 i ∧ Hid (c = deepP ts i) ∧ wr.heap[w.heap.size]? = some (.cells #[.int .i64 c.kind, .slice ax c.texts.length cx, .int .i64 c.test.kind, .int .i64 c.test.mat, .int .i64 c.test.part, .slice an c.test.names.length cn, .slice ak c.test.keys.length ck, .bool c.test.over, .int .i64 c.test.limit, .slice at' c.test.tests.length ct, .slice aa c.thn.length ca, .slice ae c.els.length ce] 29) ∧ CmdM (fun b => w.heap.size < b) (i + 2) wr c [.int .i64 c.kind, .slice ax c.texts.length cx, .int .i64 c.test.kind, .int .i64 c.test.mat, .int .i64 c.test.part, .slice an c.test.names.length cn, .slice ak c.test.keys.length ck, .bool c.test.over, .int .i64 c.test.limit, .slice at' c.test.tests.length ct, .slice aa c.thn.length ca, .slice ae c.els.length ce] ∧ Below w.heap.size w wr ∧ w.heap.size < wr.heap.size) (fun v _ => k - (intOf v).toNat)
  case atStart => exact ⟨0, deepP ts 0, none, none, none, none, none, none, 0, 0, 0, 0, 0, 0, Nat.zero_le _, rfl, rfl, HH0.out, HC0.out, HAL.out, hz0⟩
  case round =>
    obtain ⟨i, c, ax, an, ak, at', aa, ae, cx, cn, ck, ct, ca, ce, hi, rfl, hce, hHr, hCr, hBr, hzr⟩ := hrel
    have g0 : wr.cell? ⟨w.heap.size, 0, none⟩ = some (.int .i64 c.kind) := by simp [World.cell?, hHr]
    have g1 : wr.cell? ⟨w.heap.size, 1, none⟩ = some (.slice ax c.texts.length cx) := by simp [World.cell?, hHr]
    have g2 : wr.cell? ⟨w.heap.size, 2, none⟩ = some (.int .i64 c.test.kind) := by simp [World.cell?, hHr]
    have g3 : wr.cell? ⟨w.heap.size, 3, none⟩ = some (.int .i64 c.test.mat) := by simp [World.cell?, hHr]
    have g4 : wr.cell? ⟨w.heap.size, 4, none⟩ = some (.int .i64 c.test.part) := by simp [World.cell?, hHr]
    have g5 : wr.cell? ⟨w.heap.size, 5, none⟩ = some (.slice an c.test.names.length cn) := by simp [World.cell?, hHr]
    have g6 : wr.cell? ⟨w.heap.size, 6, none⟩ = some (.slice ak c.test.keys.length ck) := by simp [World.cell?, hHr]
    have g7 : wr.cell? ⟨w.heap.size, 7, none⟩ = some (.bool c.test.over) := by simp [World.cell?, hHr]
    have g8 : wr.cell? ⟨w.heap.size, 8, none⟩ = some (.int .i64 c.test.limit) := by simp [World.cell?, hHr]
    have g9 : wr.cell? ⟨w.heap.size, 9, none⟩ = some (.slice at' c.test.tests.length ct) := by simp [World.cell?, hHr]
    have g10 : wr.cell? ⟨w.heap.size, 10, none⟩ = some (.slice aa c.thn.length ca) := by simp [World.cell?, hHr]
    have g11 : wr.cell? ⟨w.heap.size, 11, none⟩ = some (.slice ae c.els.length ce) := by simp [World.cell?, hHr]
    have z0 : wr.frozen? ⟨w.heap.size, 0, none⟩ = false := by simp [World.frozen?, hHr]
    have z1 : wr.frozen? ⟨w.heap.size, 1, none⟩ = false := by simp [World.frozen?, hHr]
    have z2 : wr.frozen? ⟨w.heap.size, 2, none⟩ = false := by simp [World.frozen?, hHr]
    have z3 : wr.frozen? ⟨w.heap.size, 3, none⟩ = false := by simp [World.frozen?, hHr]
    have z4 : wr.frozen? ⟨w.heap.size, 4, none⟩ = false := by simp [World.frozen?, hHr]
    have z5 : wr.frozen? ⟨w.heap.size, 5, none⟩ = false := by simp [World.frozen?, hHr]
    have z6 : wr.frozen? ⟨w.heap.size, 6, none⟩ = false := by simp [World.frozen?, hHr]
    have z7 : wr.frozen? ⟨w.heap.size, 7, none⟩ = false := by simp [World.frozen?, hHr]
    have z8 : wr.frozen? ⟨w.heap.size, 8, none⟩ = false := by simp [World.frozen?, hHr]
    have z9 : wr.frozen? ⟨w.heap.size, 9, none⟩ = false := by simp [World.frozen?, hHr]
    have z10 : wr.frozen? ⟨w.heap.size, 10, none⟩ = false := by simp [World.frozen?, hHr]
    have z11 : wr.frozen? ⟨w.heap.size, 11, none⟩ = false := by simp [World.frozen?, hHr]
    have HCr := hid hCr
    have HHr := hid hHr
    have HBr := hid hBr
    by_cases hlt : i < k
    · have i1 : (i : Int) < (k : Int) := by omega
      clear hHr hCr hBr
      cases ts with
      | true =>
        have HBX := hid (boxed (t := 29) 2 [.int .i64 3, .int .i64 0, .int .i64 0, .slice none 0 0, .slice none 0 0, .bool false, .int .i64 0, .slice (some ⟨wr.heap.size, 0, none⟩) 1 1] (.cells #[.int .i64 c.test.kind, .int .i64 c.test.mat, .int .i64 c.test.part, .slice an c.test.names.length cn, .slice ak c.test.keys.length ck, .bool c.test.over, .int .i64 c.test.limit, .slice at' c.test.tests.length ct] 26) HHr.out HBr.out (Nat.le_refl _) #[.int .i64 c.kind, .slice ax c.texts.length cx, .int .i64 3, .int .i64 0, .int .i64 0, .slice none 0 0, .slice none 0 0, .bool false, .int .i64 0, .slice (some ⟨wr.heap.size, 0, none⟩) 1 1, .slice aa c.thn.length ca, .slice ae c.els.length ce] (by simp [putAll]))
        have HCN := hid (show (⟨c.kind, c.texts, ⟨3, 0, 0, [], [], false, 0, [c.test]⟩, c.thn, c.els⟩ : Cmd) = deepP true (i + 1) by
          have hf := deep_form i
          rw [hce.out]
          show _ = (if true = true then _ else _)
          rw [if_pos rfl, hf.1, hf.2.1, hf.2.2.1, hf.2.2.2])
        go_wp2
        obtain ⟨b1, b2, b3, b4, b5⟩ := HBX.out
        simp only [setAll] at b1 b2 b3 b4 b5
        obtain ⟨m, hm, q1, q2, q3, q4⟩ := cmd_parts (CmdM.imp (fun _ h => h) b3 _ _ _ HCr.out)
        refine ⟨⟨i + 1, ⟨c.kind, c.texts, ⟨3, 0, 0, [], [], false, 0, [c.test]⟩, c.thn, c.els⟩, ax, none, none, some ⟨wr.heap.size, 0, none⟩, aa, ae, cx, 0, 0, 1, ca, ce, by omega, by go_num, HCN, b1, ?_, b4, Nat.lt_trans hzr b5⟩, by simp [intOf]; omega⟩
        have hme : m = i + 1 := by omega
        subst hme
        exact ⟨_, _, _, _, _, _, rfl, q1, ⟨_, _, _, rfl, rowM_nil _ _ _ _ _ _, rowM_nil _ _ _ _ _ _, rowM_one (cs := [.int .i64 c.test.kind, .int .i64 c.test.mat, .int .i64 c.test.part, .slice an c.test.names.length cn, .slice ak c.test.keys.length ck, .bool c.test.over, .int .i64 c.test.limit, .slice at' c.test.tests.length ct]) b2 rfl hzr q2⟩, RowM.imp q3 (fun _ h => h) (Keeps.refl _ _) (fun _ _ h => CmdM.more _ _ _ _ (by omega) h), RowM.imp q4 (fun _ h => h) (Keeps.refl _ _) (fun _ _ h => CmdM.more _ _ _ _ (by omega) h)⟩
      | false =>
        have HBX := hid (boxed (t := 29) 0 [.int .i64 2, .slice none 0 0, .int .i64 1, .int .i64 0, .int .i64 0, .slice none 0 0, .slice none 0 0, .bool false, .int .i64 0, .slice none 0 0, .slice (some ⟨wr.heap.size, 0, none⟩) 1 1, .slice none 0 0] (.cells #[.int .i64 c.kind, .slice ax c.texts.length cx, .int .i64 c.test.kind, .int .i64 c.test.mat, .int .i64 c.test.part, .slice an c.test.names.length cn, .slice ak c.test.keys.length ck, .bool c.test.over, .int .i64 c.test.limit, .slice at' c.test.tests.length ct, .slice aa c.thn.length ca, .slice ae c.els.length ce] 29) HHr.out HBr.out (Nat.le_refl _) #[.int .i64 2, .slice none 0 0, .int .i64 1, .int .i64 0, .int .i64 0, .slice none 0 0, .slice none 0 0, .bool false, .int .i64 0, .slice none 0 0, .slice (some ⟨wr.heap.size, 0, none⟩) 1 1, .slice none 0 0] (by simp [putAll]))
        have HCN := hid (show (⟨2, [], ⟨1, 0, 0, [], [], false, 0, []⟩, [c], []⟩ : Cmd) = deepP false (i + 1) by
          rw [hce.out]
          show _ = (if false = true then _ else _)
          rw [if_neg (by simp)]
          rfl)
        go_wp2
        obtain ⟨b1, b2, b3, b4, b5⟩ := HBX.out
        simp only [setAll] at b1 b2 b3 b4 b5
        refine ⟨⟨i + 1, ⟨2, [], ⟨1, 0, 0, [], [], false, 0, []⟩, [c], []⟩, none, none, none, none, some ⟨wr.heap.size, 0, none⟩, none, 0, 0, 0, 0, 1, 0, by omega, by go_num, HCN, b1, ?_, b4, Nat.lt_trans hzr b5⟩, by simp [intOf]; omega⟩
        have hC1 := CmdM.imp (fun _ h => h) b3 _ _ _ HCr.out
        exact ⟨_, _, _, _, _, _, rfl, rowM_nil _ _ _ _ _ _, ⟨_, _, _, rfl, rowM_nil _ _ _ _ _ _, rowM_nil _ _ _ _ _ _, rowM_nil _ _ _ _ _ _⟩, rowM_one (cs := [.int .i64 c.kind, .slice ax c.texts.length cx, .int .i64 c.test.kind, .int .i64 c.test.mat, .int .i64 c.test.part, .slice an c.test.names.length cn, .slice ak c.test.keys.length ck, .bool c.test.over, .int .i64 c.test.limit, .slice at' c.test.tests.length ct, .slice aa c.thn.length ca, .slice ae c.els.length ce]) b2 rfl hzr hC1, rowM_nil _ _ _ _ _ _⟩
    · have i1 : ¬ (i : Int) < (k : Int) := by omega
      obtain rfl : i = k := by omega
      obtain ⟨wv, hwv⟩ : ∃ wv, wv = wr := ⟨_, rfl⟩
      subst hwv
      have HCE := hid hce.out
      have HV := hid (deep_check ts i (by omega))
      obtain ⟨V0, hV0⟩ : ∃ V0, V0 = wv.alloc (.cells #[.int .i64 2, .slice none 0 0, .int .i64 1, .int .i64 0, .int .i64 0, .slice none 0 0, .slice none 0 0, .bool false, .int .i64 0, .slice none 0 0, .slice none 0 0, .slice none 0 0] 29) := ⟨_, rfl⟩
      have hal2 : Below wv.heap.size wv V0 := by rw [hV0]; exact (Below.refl _ _).alloc (Nat.le_refl _) _
      have HH2 := hid (show V0.heap[wv.heap.size]? = some (.cells #[.int .i64 2, .slice none 0 0, .int .i64 1, .int .i64 0, .int .i64 0, .slice none 0 0, .slice none 0 0, .bool false, .int .i64 0, .slice none 0 0, .slice none 0 0, .slice none 0 0] 29) by rw [hV0]; exact heap_alloc_new wv _)
      have hz2 : wv.heap.size < V0.heap.size := by rw [hV0]; simp
      have HVE := hid hV0
      have HAL2 := hid hal2
      have HCF := hid (show CmdM (fun b => wv.heap.size < b) 2 V0 (⟨2, [], ⟨1, 0, 0, [], [], false, 0, []⟩, [], []⟩) [.int .i64 2, .slice none 0 0, .int .i64 1, .int .i64 0, .int .i64 0, .slice none 0 0, .slice none 0 0, .bool false, .int .i64 0, .slice none 0 0, .slice none 0 0, .slice none 0 0] from
        ⟨_, _, _, _, _, _, rfl, rowM_nil _ _ _ _ _ _, ⟨_, _, _, rfl, rowM_nil _ _ _ _ _ _, rowM_nil _ _ _ _ _ _, rowM_nil _ _ _ _ _ _⟩, rowM_nil _ _ _ _ _ _, rowM_nil _ _ _ _ _ _⟩)
      clear hV0 hal2 hHr hCr hBr g0 g1 g2 g3 g4 g5 g6 g7 g8 g9 g10 g11 z0 z1 z2 z3 z4 z5 z6 z7 z8 z9 z10 z11 hu hi
      have hki : (i : Int) < 12 := by omega
      have hki0 : (0 : Int) ≤ (i : Int) := by omega
      obtain ⟨v8, hv8⟩ : ∃ v8, v8 = wantN ts i := ⟨_, rfl⟩
      have HV8 := hid hv8
      have hcond : (ts = true ∧ (6 : Int) < (i : Int) + 1 ∧ v8 = 1) ∨ (ts = true ∧ ¬ (6 : Int) < (i : Int) + 1 ∧ v8 = 0) ∨ (ts = false ∧ (6 : Int) < (i : Int) ∧ v8 = 1) ∨ (ts = false ∧ ¬ (6 : Int) < (i : Int) ∧ v8 = 0) := by
        rw [hv8]
        unfold wantN
        cases ts
        · by_cases h6 : 6 < i
          · right; right; left; exact ⟨rfl, by omega, by rw [if_pos (Or.inr ⟨rfl, h6⟩)]⟩
          · right; right; right; exact ⟨rfl, by omega, by rw [if_neg (by simp; omega)]⟩
        · by_cases h5 : 5 < i
          · left; exact ⟨rfl, by omega, by rw [if_pos (Or.inl ⟨rfl, h5⟩)]⟩
          · right; left; exact ⟨rfl, by omega, by rw [if_neg (by simp; omega)]⟩
      clear hv8
      rcases hcond with ⟨rfl, hc1, rfl⟩ | ⟨rfl, hc1, rfl⟩ | ⟨rfl, hc1, rfl⟩ | ⟨rfl, hc1, rfl⟩
      all_goals
        try have hc2 : (5 : Int) < (i : Int) := by omega
        try have hc3 : (6 : Int) ≤ (i : Int) := by omega
        go_wp2
        rw [← HVE.out]
        go_loopw [10] (fun v wr => ∃ (j : Nat) (f : Cmd) (ax2 an2 ak2 at2 aa2 ae2 : Option Addr) (cx2 cn2 ck2 ct2 ca2 ce2 : Nat), j ≤ 20 ∧ v = .int .i64 j ∧ Hid (f = flatP j) ∧ wr.heap[wv.heap.size]? = some (.cells #[.int .i64 f.kind, .slice ax2 f.texts.length cx2, .int .i64 f.test.kind, .int .i64 f.test.mat, .int .i64 f.test.part, .slice an2 f.test.names.length cn2, .slice ak2 f.test.keys.length ck2, .bool f.test.over, .int .i64 f.test.limit, .slice at2 f.test.tests.length ct2, .slice aa2 f.thn.length ca2, .slice ae2 f.els.length ce2] 29) ∧ CmdM (fun b => wv.heap.size < b) (j + 2) wr f [.int .i64 f.kind, .slice ax2 f.texts.length cx2, .int .i64 f.test.kind, .int .i64 f.test.mat, .int .i64 f.test.part, .slice an2 f.test.names.length cn2, .slice ak2 f.test.keys.length ck2, .bool f.test.over, .int .i64 f.test.limit, .slice at2 f.test.tests.length ct2, .slice aa2 f.thn.length ca2, .slice ae2 f.els.length ce2] ∧ Below wv.heap.size wv wr ∧ wv.heap.size < wr.heap.size) (fun v _ => 20 - (intOf v).toNat)
        case atStart => exact ⟨0, _, none, none, none, none, none, none, 0, 0, 0, 0, 0, 0, by omega, rfl, rfl, HH2.out, HCF.out, HAL2.out, hz2⟩
        case round =>
          obtain ⟨j, f, ax2, an2, ak2, at2, aa2, ae2, cx2, cn2, ck2, ct2, ca2, ce2, hj, rfl, hfe, hHs, hCs, hBs, hzs⟩ := hrel
          have g0 : wr.cell? ⟨wv.heap.size, 0, none⟩ = some (.int .i64 f.kind) := by simp [World.cell?, hHs]
          have g1 : wr.cell? ⟨wv.heap.size, 1, none⟩ = some (.slice ax2 f.texts.length cx2) := by simp [World.cell?, hHs]
          have g2 : wr.cell? ⟨wv.heap.size, 2, none⟩ = some (.int .i64 f.test.kind) := by simp [World.cell?, hHs]
          have g3 : wr.cell? ⟨wv.heap.size, 3, none⟩ = some (.int .i64 f.test.mat) := by simp [World.cell?, hHs]
          have g4 : wr.cell? ⟨wv.heap.size, 4, none⟩ = some (.int .i64 f.test.part) := by simp [World.cell?, hHs]
          have g5 : wr.cell? ⟨wv.heap.size, 5, none⟩ = some (.slice an2 f.test.names.length cn2) := by simp [World.cell?, hHs]
          have g6 : wr.cell? ⟨wv.heap.size, 6, none⟩ = some (.slice ak2 f.test.keys.length ck2) := by simp [World.cell?, hHs]
          have g7 : wr.cell? ⟨wv.heap.size, 7, none⟩ = some (.bool f.test.over) := by simp [World.cell?, hHs]
          have g8 : wr.cell? ⟨wv.heap.size, 8, none⟩ = some (.int .i64 f.test.limit) := by simp [World.cell?, hHs]
          have g9 : wr.cell? ⟨wv.heap.size, 9, none⟩ = some (.slice at2 f.test.tests.length ct2) := by simp [World.cell?, hHs]
          have g10 : wr.cell? ⟨wv.heap.size, 10, none⟩ = some (.slice aa2 f.thn.length ca2) := by simp [World.cell?, hHs]
          have g11 : wr.cell? ⟨wv.heap.size, 11, none⟩ = some (.slice ae2 f.els.length ce2) := by simp [World.cell?, hHs]
          have z0 : wr.frozen? ⟨wv.heap.size, 0, none⟩ = false := by simp [World.frozen?, hHs]
          have z1 : wr.frozen? ⟨wv.heap.size, 1, none⟩ = false := by simp [World.frozen?, hHs]
          have z2 : wr.frozen? ⟨wv.heap.size, 2, none⟩ = false := by simp [World.frozen?, hHs]
          have z3 : wr.frozen? ⟨wv.heap.size, 3, none⟩ = false := by simp [World.frozen?, hHs]
          have z4 : wr.frozen? ⟨wv.heap.size, 4, none⟩ = false := by simp [World.frozen?, hHs]
          have z5 : wr.frozen? ⟨wv.heap.size, 5, none⟩ = false := by simp [World.frozen?, hHs]
          have z6 : wr.frozen? ⟨wv.heap.size, 6, none⟩ = false := by simp [World.frozen?, hHs]
          have z7 : wr.frozen? ⟨wv.heap.size, 7, none⟩ = false := by simp [World.frozen?, hHs]
          have z8 : wr.frozen? ⟨wv.heap.size, 8, none⟩ = false := by simp [World.frozen?, hHs]
          have z9 : wr.frozen? ⟨wv.heap.size, 9, none⟩ = false := by simp [World.frozen?, hHs]
          have z10 : wr.frozen? ⟨wv.heap.size, 10, none⟩ = false := by simp [World.frozen?, hHs]
          have z11 : wr.frozen? ⟨wv.heap.size, 11, none⟩ = false := by simp [World.frozen?, hHs]
          have HCs := hid hCs
          have HHs := hid hHs
          have HBs := hid hBs
          by_cases hlj : j < 20
          · have j1 : (j : Int) < 20 := by omega
            have HBX := hid (boxed (t := 29) 0 [.int .i64 2, .slice none 0 0, .int .i64 2, .int .i64 0, .int .i64 0, .slice none 0 0, .slice none 0 0, .bool false, .int .i64 0, .slice none 0 0, .slice none 0 0, .slice (some ⟨wr.heap.size, 0, none⟩) 1 1] (.cells #[.int .i64 f.kind, .slice ax2 f.texts.length cx2, .int .i64 f.test.kind, .int .i64 f.test.mat, .int .i64 f.test.part, .slice an2 f.test.names.length cn2, .slice ak2 f.test.keys.length ck2, .bool f.test.over, .int .i64 f.test.limit, .slice at2 f.test.tests.length ct2, .slice aa2 f.thn.length ca2, .slice ae2 f.els.length ce2] 29) HHs.out HBs.out (Nat.le_refl _) #[.int .i64 2, .slice none 0 0, .int .i64 2, .int .i64 0, .int .i64 0, .slice none 0 0, .slice none 0 0, .bool false, .int .i64 0, .slice none 0 0, .slice none 0 0, .slice (some ⟨wr.heap.size, 0, none⟩) 1 1] (by simp [putAll]))
            have HFN := hid (show (⟨2, [], ⟨2, 0, 0, [], [], false, 0, []⟩, [], [f]⟩ : Cmd) = flatP (j + 1) by rw [hfe.out]; rfl)
            clear hHs hCs hBs
            go_wp2
            obtain ⟨b1, b2, b3, b4, b5⟩ := HBX.out
            simp only [setAll] at b1 b2 b3 b4 b5
            refine ⟨⟨j + 1, ⟨2, [], ⟨2, 0, 0, [], [], false, 0, []⟩, [], [f]⟩, none, none, none, none, none, some ⟨wr.heap.size, 0, none⟩, 0, 0, 0, 0, 0, 1, by omega, by go_num, HFN, b1, ?_, b4, Nat.lt_trans hzs b5⟩, by simp [intOf]; omega⟩
            have hC1 := CmdM.imp (fun _ h => h) b3 _ _ _ HCs.out
            exact ⟨_, _, _, _, _, _, rfl, rowM_nil _ _ _ _ _ _, ⟨_, _, _, rfl, rowM_nil _ _ _ _ _ _, rowM_nil _ _ _ _ _ _, rowM_nil _ _ _ _ _ _⟩, rowM_nil _ _ _ _ _ _, rowM_one (cs := [.int .i64 f.kind, .slice ax2 f.texts.length cx2, .int .i64 f.test.kind, .int .i64 f.test.mat, .int .i64 f.test.part, .slice an2 f.test.names.length cn2, .slice ak2 f.test.keys.length ck2, .bool f.test.over, .int .i64 f.test.limit, .slice at2 f.test.tests.length ct2, .slice aa2 f.thn.length ca2, .slice ae2 f.els.length ce2]) b2 rfl hzs hC1⟩
          · have j1 : ¬ (j : Int) < 20 := by omega
            obtain rfl : j = 20 := by omega
            have hHc : wr.heap[w.heap.size]? = some (.cells #[.int .i64 c.kind, .slice ax c.texts.length cx, .int .i64 c.test.kind, .int .i64 c.test.mat, .int .i64 c.test.part, .slice an c.test.names.length cn, .slice ak c.test.keys.length ck, .bool c.test.over, .int .i64 c.test.limit, .slice at' c.test.tests.length ct, .slice aa c.thn.length ca, .slice ae c.els.length ce] 29) := (HBs.out.block _ hzr).trans HHr.out
            have p0 : wr.cell? ⟨w.heap.size, 0, none⟩ = some (.int .i64 c.kind) := by simp [World.cell?, hHc]
            have p1 : wr.cell? ⟨w.heap.size, 1, none⟩ = some (.slice ax c.texts.length cx) := by simp [World.cell?, hHc]
            have p2 : wr.cell? ⟨w.heap.size, 2, none⟩ = some (.int .i64 c.test.kind) := by simp [World.cell?, hHc]
            have p3 : wr.cell? ⟨w.heap.size, 3, none⟩ = some (.int .i64 c.test.mat) := by simp [World.cell?, hHc]
            have p4 : wr.cell? ⟨w.heap.size, 4, none⟩ = some (.int .i64 c.test.part) := by simp [World.cell?, hHc]
            have p5 : wr.cell? ⟨w.heap.size, 5, none⟩ = some (.slice an c.test.names.length cn) := by simp [World.cell?, hHc]
            have p6 : wr.cell? ⟨w.heap.size, 6, none⟩ = some (.slice ak c.test.keys.length ck) := by simp [World.cell?, hHc]
            have p7 : wr.cell? ⟨w.heap.size, 7, none⟩ = some (.bool c.test.over) := by simp [World.cell?, hHc]
            have p8 : wr.cell? ⟨w.heap.size, 8, none⟩ = some (.int .i64 c.test.limit) := by simp [World.cell?, hHc]
            have p9 : wr.cell? ⟨w.heap.size, 9, none⟩ = some (.slice at' c.test.tests.length ct) := by simp [World.cell?, hHc]
            have p10 : wr.cell? ⟨w.heap.size, 10, none⟩ = some (.slice aa c.thn.length ca) := by simp [World.cell?, hHc]
            have p11 : wr.cell? ⟨w.heap.size, 11, none⟩ = some (.slice ae c.els.length ce) := by simp [World.cell?, hHc]
            have hCc := (CmdM.imp (fun _ h => h) (Keeps.of_below HBs.out) _ _ _ HCr.out)
            have hws : WordsAt wr := (HM.out.next HBr.out).next HBs.out
            obtain ⟨S0, hS0⟩ : ∃ S0, S0 = wr.alloc (.cells #[.int .i64 c.kind, .slice ax c.texts.length cx, .int .i64 c.test.kind, .int .i64 c.test.mat, .int .i64 c.test.part, .slice an c.test.names.length cn, .slice ak c.test.keys.length ck, .bool c.test.over, .int .i64 c.test.limit, .slice at' c.test.tests.length ct, .slice aa c.thn.length ca, .slice ae c.els.length ce] 29) := ⟨_, rfl⟩
            have hal3 : Below wr.heap.size wr S0 := by rw [hS0]; exact (Below.refl _ _).alloc (Nat.le_refl _) _
            have hHS : S0.heap[wr.heap.size]? = some (.cells #[.int .i64 c.kind, .slice ax c.texts.length cx, .int .i64 c.test.kind, .int .i64 c.test.mat, .int .i64 c.test.part, .slice an c.test.names.length cn, .slice ak c.test.keys.length ck, .bool c.test.over, .int .i64 c.test.limit, .slice at' c.test.tests.length ct, .slice aa c.thn.length ca, .slice ae c.els.length ce] 29) := by rw [hS0]; exact heap_alloc_new wr _
            have HR1 := hid (show CmdsM anyB 40 S0 (.slice (some ⟨wr.heap.size, 0, none⟩) [c].length 1) [c] from rowM_one (cs := [.int .i64 c.kind, .slice ax c.texts.length cx, .int .i64 c.test.kind, .int .i64 c.test.mat, .int .i64 c.test.part, .slice an c.test.names.length cn, .slice ak c.test.keys.length ck, .bool c.test.over, .int .i64 c.test.limit, .slice at' c.test.tests.length ct, .slice aa c.thn.length ca, .slice ae c.els.length ce]) hHS rfl trivial (CmdM.more _ _ _ _ (by omega) (CmdM.imp (fun _ _ => trivial) (Keeps.of_below hal3) _ _ _ hCc)))
            have HSE := hid hS0
            have HAL3 := hid hal3
            have HWS := hid (hws.next hal3)
            have HK1 := hid (show checkM 40 [c] = _ by rw [HCE.out, HV.out, ← HV8.out])
            clear hHs hCs hBs hHc hCc hws hS0 hal3 hHS
            go_wp2_with fail
            rw [← HSE.out]
            refine (scheck_any 40 [c] _ _ S0 HWS.out HR1.out).mono ?_
            rw [HK1.out]
            rintro e u ⟨rfl, hbu⟩
            have HBu := hid hbu
            have hBsu : Below wr.heap.size wr u := HAL3.out.trans (hbu.mono HAL3.out.size)
            have hHf : u.heap[wv.heap.size]? = some (.cells #[.int .i64 f.kind, .slice ax2 f.texts.length cx2, .int .i64 f.test.kind, .int .i64 f.test.mat, .int .i64 f.test.part, .slice an2 f.test.names.length cn2, .slice ak2 f.test.keys.length ck2, .bool f.test.over, .int .i64 f.test.limit, .slice at2 f.test.tests.length ct2, .slice aa2 f.thn.length ca2, .slice ae2 f.els.length ce2] 29) := (hBsu.block _ hzs).trans HHs.out
            have q0 : u.cell? ⟨wv.heap.size, 0, none⟩ = some (.int .i64 f.kind) := by simp [World.cell?, hHf]
            have q1 : u.cell? ⟨wv.heap.size, 1, none⟩ = some (.slice ax2 f.texts.length cx2) := by simp [World.cell?, hHf]
            have q2 : u.cell? ⟨wv.heap.size, 2, none⟩ = some (.int .i64 f.test.kind) := by simp [World.cell?, hHf]
            have q3 : u.cell? ⟨wv.heap.size, 3, none⟩ = some (.int .i64 f.test.mat) := by simp [World.cell?, hHf]
            have q4 : u.cell? ⟨wv.heap.size, 4, none⟩ = some (.int .i64 f.test.part) := by simp [World.cell?, hHf]
            have q5 : u.cell? ⟨wv.heap.size, 5, none⟩ = some (.slice an2 f.test.names.length cn2) := by simp [World.cell?, hHf]
            have q6 : u.cell? ⟨wv.heap.size, 6, none⟩ = some (.slice ak2 f.test.keys.length ck2) := by simp [World.cell?, hHf]
            have q7 : u.cell? ⟨wv.heap.size, 7, none⟩ = some (.bool f.test.over) := by simp [World.cell?, hHf]
            have q8 : u.cell? ⟨wv.heap.size, 8, none⟩ = some (.int .i64 f.test.limit) := by simp [World.cell?, hHf]
            have q9 : u.cell? ⟨wv.heap.size, 9, none⟩ = some (.slice at2 f.test.tests.length ct2) := by simp [World.cell?, hHf]
            have q10 : u.cell? ⟨wv.heap.size, 10, none⟩ = some (.slice aa2 f.thn.length ca2) := by simp [World.cell?, hHf]
            have q11 : u.cell? ⟨wv.heap.size, 11, none⟩ = some (.slice ae2 f.els.length ce2) := by simp [World.cell?, hHf]
            have hCu := CmdM.imp (fun _ h => h) (Keeps.of_below hBsu) _ _ _ HCs.out
            obtain ⟨U0, hU0⟩ : ∃ U0, U0 = u.alloc (.cells #[.int .i64 f.kind, .slice ax2 f.texts.length cx2, .int .i64 f.test.kind, .int .i64 f.test.mat, .int .i64 f.test.part, .slice an2 f.test.names.length cn2, .slice ak2 f.test.keys.length ck2, .bool f.test.over, .int .i64 f.test.limit, .slice at2 f.test.tests.length ct2, .slice aa2 f.thn.length ca2, .slice ae2 f.els.length ce2] 29) := ⟨_, rfl⟩
            have hal4 : Below u.heap.size u U0 := by rw [hU0]; exact (Below.refl _ _).alloc (Nat.le_refl _) _
            have hHU : U0.heap[u.heap.size]? = some (.cells #[.int .i64 f.kind, .slice ax2 f.texts.length cx2, .int .i64 f.test.kind, .int .i64 f.test.mat, .int .i64 f.test.part, .slice an2 f.test.names.length cn2, .slice ak2 f.test.keys.length ck2, .bool f.test.over, .int .i64 f.test.limit, .slice at2 f.test.tests.length ct2, .slice aa2 f.thn.length ca2, .slice ae2 f.els.length ce2] 29) := by rw [hU0]; exact heap_alloc_new u _
            have HR2 := hid (show CmdsM anyB 40 U0 (.slice (some ⟨u.heap.size, 0, none⟩) [f].length 1) [f] from rowM_one (cs := [.int .i64 f.kind, .slice ax2 f.texts.length cx2, .int .i64 f.test.kind, .int .i64 f.test.mat, .int .i64 f.test.part, .slice an2 f.test.names.length cn2, .slice ak2 f.test.keys.length ck2, .bool f.test.over, .int .i64 f.test.limit, .slice at2 f.test.tests.length ct2, .slice aa2 f.thn.length ca2, .slice ae2 f.els.length ce2]) hHU rfl trivial (CmdM.more _ _ _ _ (by omega) (CmdM.imp (fun _ _ => trivial) (Keeps.of_below hal4) _ _ _ hCu)))
            have HUE := hid hU0
            have HAL4 := hid hal4
            have HWU := hid ((HWS.out.next HBu.out).next hal4)
            have HK2 := hid (show checkM 40 [f] = 0 by rw [hfe.out, flat_check])
            have HBW := hid (show Below w.heap.size w U0 from ((HBr.out.trans (HBs.out.mono HBr.out.size)).trans (hBsu.mono (Nat.le_trans HBr.out.size HBs.out.size))).trans (hal4.mono (Nat.le_trans (Nat.le_trans HBr.out.size HBs.out.size) hBsu.size)))
            clear hbu hBsu hHf hCu hU0 hal4 hHU
            go_wp2_with fail
            rw [← HUE.out]
            refine (scheck_any 40 [f] _ _ U0 HWU.out HR2.out).mono ?_
            rw [HK2.out]
            rintro e u3 ⟨rfl, hb3⟩
            have HE := hid (show Below w.heap.size w u3 from HBW.out.trans (hb3.mono HBW.out.size))
            clear hb3
            go_wp2
            go_ret
            exact ⟨rfl, HE.out⟩
end Go.Proofs.YtdmiidbncpgfpabDoor
