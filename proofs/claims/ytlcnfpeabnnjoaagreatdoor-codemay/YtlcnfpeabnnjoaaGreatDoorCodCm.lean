/-
  The ops of commands are written: the walks.
-/
import Derived.Test.YtlcnfpeabnnjoaaGreatDoorCodTs
namespace Go.Proofs.YtlcnfpeabnnjoaaGreatDoor
open Go.RowKit Go.Proofs

theorem tests_any : ∀ n, TstW n ∧ TstsW n := by
  intro n
  induction n with
  | zero =>
    have h : TstW 0 := fun _ _ _ _ _ _ _ _ _ _ _ _ _ _ _ hM => hM.elim
    exact ⟨h, tests_step 0 h⟩
  | succ n ih =>
    have h := test_step n ih.1 ih.2
    exact ⟨h, tests_step (n + 1) h⟩
/-- Commands that can be written. -/
def WfC : Nat → Cmd → Prop
  | 0, _ => True
  | n + 1, c => c.texts.length ≤ 1000 ∧ (c.kind = 2 → FitT n c.test ∧ (∀ x ∈ c.thn, WfC n x) ∧ ∀ x ∈ c.els, WfC n x)
def CmdsW (n : Nat) : Prop := ∀ (l : List Cmd) (a : Option Addr) (k : Nat) (W0 : World) (X : Nat → Prop) (b : Nat) (acc : List Opr) (w : World), (∀ p, X p → p < w.heap.size) → W0.heap.size ≤ b → Below b W0 w → CmdsM anyB n W0 (.slice a l.length k) l → (∀ c ∈ l, WfC n c) → acc.length + (cmdsT n l).length ≤ 1000 → WrC X w b acc →
    Calls Tryz.prog 72 #[.pointer (some ⟨b, 0, none⟩), .slice a l.length k] w (WrR X w b (acc ++ oCmds (oCmd n) l acc.length))
def BrW (n : Nat) : Prop := ∀ (c : Cmd) (ax an ak at' aa ae : Option Addr) (cx cn ck ct ca ce : Nat) (W0 : World) (X : Nat → Prop) (b : Nat) (acc : List Opr) (w : World), c.kind = 2 → (∀ p, X p → p < w.heap.size) → W0.heap.size ≤ b → Below b W0 w → CmdM anyB (n + 1) W0 c [.int .i64 c.kind, .slice ax c.texts.length cx, .int .i64 c.test.kind, .int .i64 c.test.mat, .int .i64 c.test.part, .slice an c.test.names.length cn, .slice ak c.test.keys.length ck, .bool c.test.over, .int .i64 c.test.limit, .slice at' c.test.tests.length ct, .slice aa c.thn.length ca, .slice ae c.els.length ce] → WfC (n + 1) c → acc.length + (cmdT (n + 1) c).length ≤ 1000 → WrC X w b acc →
    Calls Tryz.prog 107 #[.pointer (some ⟨b, 0, none⟩), .agg #[.int .i64 c.kind, .slice ax c.texts.length cx, .int .i64 c.test.kind, .int .i64 c.test.mat, .int .i64 c.test.part, .slice an c.test.names.length cn, .slice ak c.test.keys.length ck, .bool c.test.over, .int .i64 c.test.limit, .slice at' c.test.tests.length ct, .slice aa c.thn.length ca, .slice ae c.els.length ce]] w (WrR X w b (acc ++ oCmd (n + 1) c acc.length))
theorem num_new {X : Nat → Prop} {w : World} {b : Nat} {acc : List Opr} (h : WrC X w b acc) (q : Nat) (t : TypeId) : NumsM (fun p => p ≠ b ∧ some p ≠ rowC (w.alloc (.cells #[.int .i64 (q : Int)] t)) b) (w.alloc (.cells #[.int .i64 (q : Int)] t)) (.slice (some ⟨w.heap.size, 0, none⟩) 1 1) [q] := by
  have hlt := h.lt
  refine rowM_one (t := t) (fr := (0, 0)) (cs := [.int .i64 (q : Int)]) (heap_at _ rfl) rfl ⟨by omega, fun e => ?_⟩ rfl
  rw [rowC_low ((Below.refl _ _).alloc (Nat.le_refl _) _) hlt] at e
  have := row_lt h e.symm
  omega
/-- One jump is sent on, whose place stands in a new row. -/
theorem send_one (X : Nat → Prop) (b : Nat) (acc : List Opr) (q : Nat) (w : World) (h : WrC X w b acc) (hl : acc.length ≤ 1000) (hq : q < acc.length) :
    Calls Tryz.prog 142 #[.pointer (some ⟨b, 0, none⟩), .slice (some ⟨w.heap.size, 0, none⟩) 1 1] (w.alloc (.cells #[.int .i64 (q : Int)] 3)) (WrR X w b (sendO acc.length acc q)) := by
  have hal : Below w.heap.size w (w.alloc (.cells #[.int .i64 (q : Int)] 3)) := (Below.refl _ _).alloc (Nat.le_refl _) _
  have h1 := sends_any X b acc [q] (some ⟨w.heap.size, 0, none⟩) 1 _ (h.grow hal) hl (by simp) (fun p hp => by rw [List.mem_singleton.1 hp]; exact hq) (num_new h q 3)
  exact h1.mono fun e w' hr => WrR.after hr (hal.mono (Nat.le_of_lt h.lt)) (FrC.below h.lt hal)
set_option maxHeartbeats 1000000 in
set_option maxRecDepth 100000 in
theorem branch_step (n : Nat) (hC : CmdsW n) : BrW n := by
  intro c ax an ak at' aa ae cx cn ck ct ca ce W0 X b acc w k2 hX hB hb hM hF hlen hW
  obtain ⟨vx, vn, vk, vt, va, ve, e8, hTx, hT, hA, hE⟩ := hM
  simp only [List.cons.injEq, true_and, and_true] at e8
  obtain ⟨rfl, rfl, rfl, rfl, rfl, rfl⟩ := e8
  obtain ⟨_, hF2⟩ := hF
  obtain ⟨fT, fA, fE⟩ := hF2 k2
  have hlt := hW.lt
  obtain ⟨W1, hW1⟩ : ∃ W1, W1 = w.alloc (.cells #[.int .i64 c.kind, .slice ax c.texts.length cx, .int .i64 c.test.kind, .int .i64 c.test.mat, .int .i64 c.test.part, .slice an c.test.names.length cn, .slice ak c.test.keys.length ck, .bool c.test.over, .int .i64 c.test.limit, .slice at' c.test.tests.length ct, .slice aa c.thn.length ca, .slice ae c.els.length ce] 50) := ⟨_, rfl⟩
  have HWE := hid hW1
  have hal : Below w.heap.size w W1 := by rw [hW1]; exact (Below.refl _ _).alloc (Nat.le_refl _) _
  have hs1 : W1.heap.size = w.heap.size + 1 := by rw [hW1]; simp
  have HC1 := hid (hW.grow hal)
  have HB1 := hid (show Below b w W1 from hal.mono (by omega))
  have HF1 := hid (FrC.below hlt hal)
  have HB01 := hid (hb.trans HB1.out)
  have HBX := hid (show W1.heap[w.heap.size]? = some (.cells #[.int .i64 c.kind, .slice ax c.texts.length cx, .int .i64 c.test.kind, .int .i64 c.test.mat, .int .i64 c.test.part, .slice an c.test.names.length cn, .slice ak c.test.keys.length ck, .bool c.test.over, .int .i64 c.test.limit, .slice at' c.test.tests.length ct, .slice aa c.thn.length ca, .slice ae c.els.length ce] 50) by rw [hW1]; exact heap_alloc_new w _)
  have HX1 := hid (show ∀ p, X p → p < W1.heap.size from fun p hp => Nat.lt_of_lt_of_le (hX p hp) hal.size)
  have HRB := hid (show some w.heap.size ≠ rowC W1 b from fun e => by
    rw [rowC_low hal hlt] at e
    have := row_lt hW e.symm
    omega)
  obtain ⟨T, hTe⟩ : ∃ T, T = oTst n c.test acc.length := ⟨_, rfl⟩
  have HTE := hid hTe
  obtain ⟨A, hAe⟩ : ∃ A, A = oCmds (oCmd n) c.thn (acc.length + T.length + 1) := ⟨_, rfl⟩
  have HAE := hid hAe
  obtain ⟨E, hEe⟩ : ∃ E, E = oCmds (oCmd n) c.els (acc.length + T.length + 1 + A.length + 1) := ⟨_, rfl⟩
  have HEE := hid hEe
  have HOC := hid (show oCmd (n + 1) c acc.length = oIf acc.length T A (decide (0 < c.els.length)) E by rw [oCmd, if_pos k2, hEe, hAe, hTe])
  have HBD := hid (show acc.length + (testT n c.test).length + (c.thn.flatMap (cmdT n)).length + (c.els.flatMap (cmdT n)).length + 3 ≤ 1000 by
    have h1 : (cmdT (n + 1) c).length = 1 + (restT (n + 1) c).length := by unfold cmdT; simp; omega
    have h2 : (testT n c.test).length + (c.thn.flatMap (cmdT n)).length + (c.els.flatMap (cmdT n)).length + 2 ≤ (restT (n + 1) c).length := by
      rw [restT, if_pos k2]
      have eA : (c.thn.flatMap (cmdT n)).length = (c.thn.flatMap fun x => wordT (wordOf 0 x.kind.toNat) :: restT n x).length := rfl
      have eB : (c.els.flatMap (cmdT n)).length = (c.els.flatMap fun x => wordT (wordOf 0 x.kind.toNat) :: restT n x).length := rfl
      cases hq : elsifP c.els with
      | some x =>
        obtain ⟨h1, h2⟩ := elsifP_some hq
        have e4 : (c.els.flatMap (cmdT n)).length = 1 + (restT n x).length := by rw [h1]; simp [cmdT]; omega
        rw [e4, eA]
        simp only [List.length_append, List.length_cons, List.length_nil]
        omega
      | none =>
        rw [eA]
        by_cases h0 : c.els.length = 0
        · have e4 : (c.els.flatMap (cmdT n)).length = 0 := by rw [List.length_eq_zero_iff.1 h0]; rfl
          rw [e4]
          simp only [List.length_append, List.length_cons, List.length_nil]
          omega
        · rw [eB]
          simp only [if_neg h0, List.length_append, List.length_cons, List.length_nil]
          omega
    omega)
  have HTL := hid (show T.length ≤ (testT n c.test).length by rw [hTe]; exact tst_tok n c.test acc.length)
  have HAL := hid (show A.length ≤ (c.thn.flatMap (cmdT n)).length by rw [hAe]; exact cmds_tok _ _ fun y _ b => cmd_tok n y b)
  have HEL := hid (show E.length ≤ (c.els.flatMap (cmdT n)).length by rw [hEe]; exact cmds_tok _ _ fun y _ b => cmd_tok n y b)
  have HTST := hid (show Calls Tryz.prog 141 #[.pointer (some ⟨b, 0, none⟩), .agg #[.int .i64 c.test.kind, .int .i64 c.test.mat, .int .i64 c.test.part, .slice an c.test.names.length cn, .slice ak c.test.keys.length ck, .bool c.test.over, .int .i64 c.test.limit, .slice at' c.test.tests.length ct]] W1 (WrR X W1 b (acc ++ T)) by
    rw [hTe]
    exact (tests_any n).1 c.test an ak at' cn ck ct W0 X b acc W1 HX1.out hB HB01.out hT fT (by have := HBD.out; omega) HC1.out)
  have HA := hid hA
  have HE := hid hE
  have HFA := hid fA
  have HFE := hid fE
  have hbx := HBX.out
  rw [hW1] at hbx
  have x2 := gm_cell (j := 2) hbx rfl
  have x3 := gm_cell (j := 3) hbx rfl
  have x4 := gm_cell (j := 4) hbx rfl
  have x5 := gm_cell (j := 5) hbx rfl
  have x6 := gm_cell (j := 6) hbx rfl
  have x7 := gm_cell (j := 7) hbx rfl
  have x8 := gm_cell (j := 8) hbx rfl
  have x9 := gm_cell (j := 9) hbx rfl
  clear hbx hTx hT hA hE fT fA fE hF2 hlen hW hal hW1 hTe hAe hEe k2
  go_enter Tryz.func107, Tryz.ntmps107
  go_wp2_with fail
  rw [← HWE.out]
  refine HTST.out.mono ?_
  rintro e w2 ⟨⟨v, rfl⟩, hW2, hb2, hf2⟩
  simp only
  obtain ⟨A1, hA1⟩ : ∃ A1, A1 = acc ++ T := ⟨_, rfl⟩
  have HA1 := hid hA1
  have HA1L := hid (show A1.length = acc.length + T.length by rw [hA1]; simp)
  rw [← hA1] at hW2
  have HAD := hid (add_bare X b A1 4 w2 hW2 (by have := HBD.out; have := HTL.out; have := HA1L.out; omega))
  obtain ⟨B2, R2⟩ := hf2.box HBX.out (by omega) HRB.out
  have HB2 := hid (HB1.out.trans hb2)
  have HF2 := hid (HF1.out.trans hf2)
  have hz2 := hb2.size
  clear hA1 hW2 hb2 hf2 x2 x3 x4 x5 x6 x7 x8 x9
  go_wp2_with fail
  refine HAD.out.mono ?_
  rintro e w3 ⟨rfl, hW3, hb3, hf3⟩
  simp only
  obtain ⟨B3, R3⟩ := hf3.box B2 (by omega) R2
  have HB3 := hid (HB2.out.trans hb3)
  have HF3 := hid (HF2.out.trans hf3)
  have hz3 := hb3.size
  have HCM := hid (show Calls Tryz.prog 72 #[.pointer (some ⟨b, 0, none⟩), .slice aa c.thn.length ca] w3 (WrR X w3 b (A1 ++ [⟨4, 0, noneT, noneC⟩] ++ A)) by
    have h := hC c.thn aa ca W0 X b (A1 ++ [⟨4, 0, noneT, noneC⟩]) w3 (fun p hp => by have := hX p hp; omega) hB (hb.trans HB3.out) HA.out HFA.out (by have := HBD.out; have := HTL.out; have := HA1L.out; simp only [List.length_append, List.length_cons, List.length_nil]; show A1.length + 1 + (c.thn.flatMap (cmdT n)).length ≤ 1000; omega) hW3
    rw [show (A1 ++ [(⟨4, 0, noneT, noneC⟩ : Opr)]).length = acc.length + T.length + 1 by simp [HA1L.out], ← HAE.out] at h
    exact h)
  have x10 := gm_cell (j := 10) B3 rfl
  clear hW3 hb3 hf3 B2 R2
  go_wp2_with fail
  refine HCM.out.mono ?_
  rintro e w4 ⟨⟨v, rfl⟩, hW4, hb4, hf4⟩
  simp only
  obtain ⟨B4, R4⟩ := hf4.box B3 (by omega) R3
  have HB4 := hid (HB3.out.trans hb4)
  have HF4 := hid (HF3.out.trans hf4)
  have hz4 := hb4.size
  have x11 := gm_cell (j := 11) B4 rfl
  have HN3 := hid (show (A1 ++ [(⟨4, 0, noneT, noneC⟩ : Opr)] ++ A).length = acc.length + T.length + 1 + A.length by simp [HA1L.out]; omega)
  have HSD := hid (show ∀ N (Rr : List Opr), sendO N (A1 ++ [(⟨4, 0, noneT, noneC⟩ : Opr)] ++ Rr) A1.length = A1 ++ (jumpO 4 N :: Rr) from fun N Rr => by
    rw [List.append_assoc, List.singleton_append, send_at]; rfl)
  clear x10 hb4 hf4 B3 R3
  by_cases h0 : c.els.length = 0
  · have h0' : ((c.els.length : Int) == 0) = true := by simp [h0]
    have HS1 := hid (send_one X b (A1 ++ [⟨4, 0, noneT, noneC⟩] ++ A) A1.length w4 hW4 (by rw [HN3.out]; have := HBD.out; have := HTL.out; have := HAL.out; omega) (by rw [HN3.out]; have := HA1L.out; omega))
    have HEND := hid (show ∀ e w5, WrR X w4 b (sendO (A1 ++ [(⟨4, 0, noneT, noneC⟩ : Opr)] ++ A).length (A1 ++ [(⟨4, 0, noneT, noneC⟩ : Opr)] ++ A) A1.length) e w5 → WrR X w b (acc ++ oCmd (n + 1) c acc.length) (.returned (.tuple #[])) w5 from fun e w5 hr => ⟨⟨_, rfl⟩, by
      have h := hr.2.1
      rw [HSD.out, HN3.out] at h
      rw [HOC.out, show decide (0 < c.els.length) = false by simp [h0]]
      unfold oIf
      rw [if_neg (by simp), ← List.append_assoc, ← HA1.out]
      exact h, HB4.out.trans hr.2.2.1, HF4.out.trans hr.2.2.2⟩)
    clear hW4
    go_wp2_with fail
    refine HS1.out.mono ?_
    intro e w5 hr5
    have HE5 := hid (HEND.out e w5 hr5)
    obtain ⟨⟨v, rfl⟩, _, _, _⟩ := hr5
    simp only
    go_wp2
    go_end0
    exact HE5.out
  · have h0' : ((c.els.length : Int) == 0) = false := by rw [beq_eq_false_iff_ne]; omega
    have HAJ := hid (add_bare X b (A1 ++ [⟨4, 0, noneT, noneC⟩] ++ A) 5 w4 hW4 (by rw [HN3.out]; have := HBD.out; have := HTL.out; have := HAL.out; omega))
    obtain ⟨A3, hA3⟩ : ∃ A3, A3 = A1 ++ [(⟨4, 0, noneT, noneC⟩ : Opr)] ++ A := ⟨_, rfl⟩
    have HA3 := hid hA3
    rw [← hA3] at HAJ
    have HA3L := hid (show A3.length = acc.length + T.length + 1 + A.length by rw [hA3]; exact HN3.out)
    have HH0 := hid h0
    clear hW4 hA3 h0
    go_wp2_with fail
    refine HAJ.out.mono ?_
    rintro e w5 ⟨rfl, hW5, hb5, hf5⟩
    simp only
    obtain ⟨B5, R5⟩ := hf5.box B4 (by omega) R4
    have HB5 := hid (HB4.out.trans hb5)
    have HF5 := hid (HF4.out.trans hf5)
    have hz5 := hb5.size
    have HS1 := hid (send_one X b (A3 ++ [⟨5, 0, noneT, noneC⟩]) A1.length w5 hW5 (by simp only [List.length_append, List.length_cons, List.length_nil]; rw [HA3L.out]; have := HBD.out; have := HTL.out; have := HAL.out; omega) (by simp only [List.length_append, List.length_cons, List.length_nil]; rw [HA3L.out]; have := HA1L.out; omega))
    clear hW5 hb5 hf5 x11 B4 R4
    go_wp2_with fail
    refine HS1.out.mono ?_
    rintro e w6 ⟨⟨v, rfl⟩, hW6, hb6, hf6⟩
    simp only
    obtain ⟨A6, hA6⟩ : ∃ A6, A6 = A1 ++ (jumpO 4 (acc.length + T.length + 1 + A.length + 1) :: (A ++ [(⟨5, 0, noneT, noneC⟩ : Opr)])) := ⟨_, rfl⟩
    have HA6 := hid hA6
    have HA6L := hid (show A6.length = acc.length + T.length + 1 + A.length + 1 by rw [hA6]; simp [HA1L.out]; omega)
    have hW6' : WrC X w6 b A6 := by
      have e : (A3 ++ [(⟨5, 0, noneT, noneC⟩ : Opr)]).length = acc.length + T.length + 1 + A.length + 1 := by simp [HA3L.out]
      rw [e] at hW6
      rw [HA3.out, List.append_assoc (A1 ++ [(⟨4, 0, noneT, noneC⟩ : Opr)]), HSD.out] at hW6
      rw [hA6]
      exact hW6
    obtain ⟨B6, R6⟩ := hf6.box B5 (by omega) R5
    have HB6 := hid (HB5.out.trans hb6)
    have HF6 := hid (HF5.out.trans hf6)
    have hz6 := hb6.size
    have HCE := hid (show Calls Tryz.prog 72 #[.pointer (some ⟨b, 0, none⟩), .slice ae c.els.length ce] w6 (WrR X w6 b (A6 ++ E)) by
      have h := hC c.els ae ce W0 X b A6 w6 (fun p hp => by have := hX p hp; omega) hB (hb.trans HB6.out) HE.out HFE.out (by rw [HA6L.out]; have := HBD.out; have := HTL.out; have := HAL.out; show acc.length + T.length + 1 + A.length + 1 + (c.els.flatMap (cmdT n)).length ≤ 1000; omega) hW6'
      rw [HA6L.out, ← HEE.out] at h
      exact h)
    have x11 := gm_cell (j := 11) B6 rfl
    clear hW6 hW6' hb6 hf6 hA6 B5 R5
    go_wp2_with fail
    refine HCE.out.mono ?_
    rintro e w7 ⟨⟨v, rfl⟩, hW7, hb7, hf7⟩
    simp only
    have HB7 := hid (HB6.out.trans hb7)
    have HF7 := hid (HF6.out.trans hf7)
    have HS2 := hid (send_one X b (A6 ++ E) A3.length w7 hW7 (by simp only [List.length_append]; rw [HA6L.out]; have := HBD.out; have := HTL.out; have := HAL.out; have := HEL.out; omega) (by simp only [List.length_append]; rw [HA6L.out, HA3L.out]; omega))
    have HEND := hid (show ∀ e w8, WrR X w7 b (sendO (A6 ++ E).length (A6 ++ E) A3.length) e w8 → WrR X w b (acc ++ oCmd (n + 1) c acc.length) (.returned (.tuple #[])) w8 from fun e w8 hr => ⟨⟨_, rfl⟩, by
      have h := hr.2.1
      have e1 : A6 ++ E = (A1 ++ (jumpO 4 (acc.length + T.length + 1 + A.length + 1) :: A)) ++ ((⟨5, 0, noneT, noneC⟩ : Opr) :: E) := by rw [HA6.out]; simp
      have e2 : A3.length = (A1 ++ (jumpO 4 (acc.length + T.length + 1 + A.length + 1) :: A)).length := by rw [HA3L.out]; simp [HA1L.out]; omega
      have e3 : (A6 ++ E).length = acc.length + T.length + 1 + A.length + 1 + E.length := by simp [HA6L.out]
      rw [e3, e1, e2, send_at] at h
      rw [HOC.out, show decide (0 < c.els.length) = true by have := HH0.out; simp; omega]
      unfold oIf
      rw [if_pos rfl, ← List.append_assoc, ← HA1.out]
      simpa [sendTo, jumpO] using h, HB7.out.trans hr.2.2.1, HF7.out.trans hr.2.2.2⟩)
    clear hW7 hb7 hf7 x11
    go_wp2_with fail
    refine HS2.out.mono ?_
    intro e w8 hr8
    have HE8 := hid (HEND.out e w8 hr8)
    obtain ⟨⟨v, rfl⟩, _, _, _⟩ := hr8
    simp only
    go_wp2
    go_end0
    exact HE8.out
theorem cmds_snoc (f : Cmd → Nat → List Opr) (y : Cmd) : ∀ (l : List Cmd) (a : Nat), oCmds f (l ++ [y]) a = oCmds f l a ++ f y (a + (oCmds f l a).length) := by
  intro l
  induction l with
  | nil => intro a; simp [oCmds]
  | cons x l ih =>
    intro a
    simp only [List.cons_append, oCmds, ih, List.append_assoc, List.length_append, Nat.add_assoc]
theorem cmdO_at {n : Nat} {W0 w : World} {b : Nat} (hb : Below b W0 w) (hB : W0.heap.size ≤ b) {a : Option Addr} {c : Nat} {l : List Cmd} (h : CmdsM anyB n W0 (.slice a l.length c) l) {i : Nat} {x : Cmd} (hx : l[i]? = some x) :
    ∃ (b' o : Nat) (ax an ak at' aa ae : Option Addr) (cx cn ck ct ca ce : Nat), a = some ⟨b', o, none⟩ ∧ b' < W0.heap.size ∧ CmdM anyB n W0 x [.int .i64 x.kind, .slice ax x.texts.length cx, .int .i64 x.test.kind, .int .i64 x.test.mat, .int .i64 x.test.part, .slice an x.test.names.length cn, .slice ak x.test.keys.length ck, .bool x.test.over, .int .i64 x.test.limit, .slice at' x.test.tests.length ct, .slice aa x.thn.length ca, .slice ae x.els.length ce] ∧ w.cell? ⟨b', o + i * 12, none⟩ = some (.int .i64 x.kind) ∧ w.cell? ⟨b', o + i * 12 + 1, none⟩ = some (.slice ax x.texts.length cx) ∧ w.cell? ⟨b', o + i * 12 + 2, none⟩ = some (.int .i64 x.test.kind) ∧ w.cell? ⟨b', o + i * 12 + 3, none⟩ = some (.int .i64 x.test.mat) ∧ w.cell? ⟨b', o + i * 12 + 4, none⟩ = some (.int .i64 x.test.part) ∧ w.cell? ⟨b', o + i * 12 + 5, none⟩ = some (.slice an x.test.names.length cn) ∧ w.cell? ⟨b', o + i * 12 + 6, none⟩ = some (.slice ak x.test.keys.length ck) ∧ w.cell? ⟨b', o + i * 12 + 7, none⟩ = some (.bool x.test.over) ∧ w.cell? ⟨b', o + i * 12 + 8, none⟩ = some (.int .i64 x.test.limit) ∧ w.cell? ⟨b', o + i * 12 + 9, none⟩ = some (.slice at' x.test.tests.length ct) ∧ w.cell? ⟨b', o + i * 12 + 10, none⟩ = some (.slice aa x.thn.length ca) ∧ w.cell? ⟨b', o + i * 12 + 11, none⟩ = some (.slice ae x.els.length ce) := by
  obtain ⟨a', c', hv, _, hr⟩ := h
  simp only [Value.slice.injEq, true_and] at hv
  obtain ⟨rfl, rfl⟩ := hv
  obtain ⟨b', o, cs, ha, hlt, _, _, hc, hT⟩ := hr i x hx
  obtain ⟨ax, cx, an, cn, ak, ck, at', ct, aa, ca, ae, ce, _, _, rfl, _⟩ := cmd_form hT
  exact ⟨b', o, ax, an, ak, at', aa, ae, cx, cn, ck, ct, ca, ce, ha, hlt, hT, low_cell hb hB (hc 0 _ rfl), low_cell hb hB (hc 1 _ rfl), low_cell hb hB (hc 2 _ rfl), low_cell hb hB (hc 3 _ rfl), low_cell hb hB (hc 4 _ rfl), low_cell hb hB (hc 5 _ rfl), low_cell hb hB (hc 6 _ rfl), low_cell hb hB (hc 7 _ rfl), low_cell hb hB (hc 8 _ rfl), low_cell hb hB (hc 9 _ rfl), low_cell hb hB (hc 10 _ rfl), low_cell hb hB (hc 11 _ rfl)⟩
theorem op_do {X : Nat → Prop} {w1 w2 : World} {b : Nat} {acc : List Opr} (h : WrC X w1 b acc) (hX : ∀ p, X p → p < w1.heap.size) (hb : Below w1.heap.size w1 w2) (x : Cmd) {a1 : Option Addr} {c1 : Nat} (hN : TxtsM (newB w1.heap.size) w2 (.slice a1 x.texts.length c1) x.texts) :
    OpM (handQ X w2 b) w2 (doO x) [.int .i64 6, .int .i64 0, .int .i64 0, .int .i64 0, .int .i64 0, .slice none 0 0, .slice none 0 0, .bool false, .int .i64 0, .slice none 0 0, .int .i64 x.kind, .slice a1 x.texts.length c1, .int .i64 0, .int .i64 0, .int .i64 0, .slice none 0 0, .slice none 0 0, .bool false, .int .i64 0, .slice none 0 0, .slice none 0 0, .slice none 0 0] := by
  have hq : ∀ p, (newB w1.heap.size p ∧ p < w2.heap.size) → handQ X w2 b p := fun p hp => handQ_new h hX hb hp.1 hp.2
  refine ⟨[.int .i64 0, .int .i64 0, .int .i64 0, .slice none 0 0, .slice none 0 0, .bool false, .int .i64 0, .slice none 0 0], _, rfl, none_tst _ 0 w2, _, _, _, _, _, _, rfl, ?_, none_tst _ 0 w2, rowM_nil _ _ _ _ _ _, rowM_nil _ _ _ _ _ _⟩
  exact TxtsM.imp (RowM.both hN fun _ _ h => h) hq (Keeps.refl _ _)
theorem take_tok {g : Cmd → List Tok} {l : List Cmd} {m : Nat} {x : Cmd} (hx : l[m]? = some x) : ((l.take m).flatMap g).length + (g x).length ≤ (l.flatMap g).length := by
  have h : l = l.take m ++ x :: l.drop (m + 1) := by
    have h1 := (List.take_append_drop m l).symm
    have h2 : l.drop m = x :: l.drop (m + 1) := by
      have hlt := (List.getElem?_eq_some_iff.1 hx).1
      rw [List.drop_eq_getElem_cons hlt]
      congr 1
      exact (List.getElem?_eq_some_iff.1 hx).2
    rw [h2] at h1
    exact h1
  have e : (l.flatMap g).length = ((l.take m ++ x :: l.drop (m + 1)).flatMap g).length := congrArg (fun q => (q.flatMap g).length) h
  rw [e]
  simp only [List.flatMap_append, List.flatMap_cons, List.length_append]
  omega
theorem cmds_long (n : Nat) (l : List Cmd) : l.length ≤ (cmdsT n l).length := by
  unfold cmdsT
  induction l with
  | nil => simp
  | cons x l ih =>
    have : 1 ≤ (cmdT n x).length := by unfold cmdT; simp
    simp only [List.flatMap_cons, List.length_append, List.length_cons]
    omega
/-- Behind some commands. -/
def CmI (n : Nat) (X : Nat → Prop) (l : List Cmd) (w : World) (b : Nat) (acc : List Opr) (m : Nat) (wr : World) : Prop := WrC X wr b (acc ++ oCmds (oCmd n) (l.take m) acc.length) ∧ Below b w wr ∧ FrC b w wr
theorem CmI.next {n : Nat} {X : Nat → Prop} {l : List Cmd} {w wr w2 : World} {b : Nat} {acc : List Opr} {m : Nat} {x : Cmd} (hx : l[m]? = some x) (h : CmI n X l w b acc m wr) (h2 : WrC X w2 b ((acc ++ oCmds (oCmd n) (l.take m) acc.length) ++ oCmd n x (acc ++ oCmds (oCmd n) (l.take m) acc.length).length)) (hb : Below b wr w2) (hf : FrC b wr w2) : CmI n X l w b acc (m + 1) w2 := by
  refine ⟨?_, h.2.1.trans hb, h.2.2.trans hf⟩
  rw [show l.take (m + 1) = l.take m ++ [x] by rw [List.take_add_one, hx]; rfl, cmds_snoc, ← List.append_assoc]
  rw [List.length_append] at h2
  exact h2
set_option maxHeartbeats 1000000 in
set_option maxRecDepth 100000 in
theorem cmds_step (n : Nat) (hBr : ∀ q, n = q + 1 → BrW q) : CmdsW n := by
  intro l a k W0 X b acc w hX hB hb hM hF hlen hW
  have hbw := hW.lt
  have HX := hid hX
  have HM := hid hM
  have HF := hid hF
  have HB := hid hb
  have HL := hid hlen
  have hml : l.length ≤ 1000 := by
    have h1 := cmds_long n l
    omega
  have HS := hid (show CmI n X l w b acc 0 w from ⟨by rw [List.take_zero]; show WrC X w b (acc ++ []); rw [List.append_nil]; exact hW, Below.refl _ _, FrC.below hbw (Below.refl _ _)⟩)
  clear hX hM hF hb hW hlen
  go_enter Tryz.func72, Tryz.ntmps72
  go_wp2
  go_loopw [8] (fun i wr => ∃ m : Nat, m ≤ l.length ∧ i = .int .i64 m ∧ Hid (CmI n X l w b acc m wr)) (fun i _ => l.length - (intOf i).toNat)
  case atStart => exact ⟨0, Nat.zero_le _, rfl, HS⟩
  case round =>
    obtain ⟨m, hm, rfl, HI⟩ := hrel
    by_cases hlm : m < l.length
    · have i1 : (m : Int) < (l.length : Int) := by omega
      have i3 : (0 : Int) ≤ (m : Int) := by omega
      obtain ⟨x, hx⟩ : ∃ x, l[m]? = some x := ⟨_, List.getElem?_eq_getElem hlm⟩
      obtain ⟨g1, g2, g3⟩ := HI.out
      have hbr : Below b W0 wr := HB.out.trans g2
      obtain ⟨b', o, ax, an, ak, at', aa, ae, cx, cn, ck, ct, ca, ce, rfl, hb', hCx, y0, y1, y2, y3, y4, y5, y6, y7, y8, y9, y10, y11⟩ := cmdO_at hbr hB HM.out hx
      obtain ⟨q, rfl⟩ : ∃ q, n = q + 1 := by
        cases n with
        | zero => exact hCx.elim
        | succ q => exact ⟨q, rfl⟩
      have hBq := hBr q rfl
      obtain ⟨W1, hW1⟩ : ∃ W1, W1 = wr.alloc (.cells #[.int .i64 x.kind, .slice ax x.texts.length cx, .int .i64 x.test.kind, .int .i64 x.test.mat, .int .i64 x.test.part, .slice an x.test.names.length cn, .slice ak x.test.keys.length ck, .bool x.test.over, .int .i64 x.test.limit, .slice at' x.test.tests.length ct, .slice aa x.thn.length ca, .slice ae x.els.length ce] 50) := ⟨_, rfl⟩
      have hal : Below wr.heap.size wr W1 := by rw [hW1]; exact (Below.refl _ _).alloc (Nat.le_refl _) _
      have HWE := hid hW1
      have hltr := g1.lt
      have hws := g2.size
      have hs1 : W1.heap.size = wr.heap.size + 1 := by rw [hW1]; simp
      have HBX := hid (show W1.heap[wr.heap.size]? = some (.cells #[.int .i64 x.kind, .slice ax x.texts.length cx, .int .i64 x.test.kind, .int .i64 x.test.mat, .int .i64 x.test.part, .slice an x.test.names.length cn, .slice ak x.test.keys.length ck, .bool x.test.over, .int .i64 x.test.limit, .slice at' x.test.tests.length ct, .slice aa x.thn.length ca, .slice ae x.els.length ce] 50) by rw [hW1]; exact heap_alloc_new wr _)
      have HB1 := hid (show Below b wr W1 from hal.mono (by omega))
      have HF1 := hid (FrC.below hltr hal)
      obtain ⟨A, hA⟩ : ∃ A, A = acc ++ oCmds (oCmd (q + 1)) (l.take m) acc.length := ⟨_, rfl⟩
      have HA := hid hA
      have HC1 := hid (show WrC X W1 b A by rw [hA]; exact g1.grow hal)
      have HX1 := hid (show ∀ p, X p → p < W1.heap.size from fun p hp => by have := HX.out p hp; omega)
      have HWF := hid (HF.out x (List.mem_of_getElem? hx))
      have HXM := hid hx
      have HCX := hid hCx
      have HBD := hid (show A.length + (cmdT (q + 1) x).length ≤ 1000 by
        have h1 := take_tok (g := cmdT (q + 1)) hx
        have h2 : (oCmds (oCmd (q + 1)) (l.take m) acc.length).length ≤ ((l.take m).flatMap (cmdT (q + 1))).length := cmds_tok _ _ fun y _ b => cmd_tok (q + 1) y b
        have h3 : acc.length + (l.flatMap (cmdT (q + 1))).length ≤ 1000 := HL.out
        rw [hA, List.length_append]
        omega)
      have HRB := hid (show some wr.heap.size ≠ rowC W1 b from fun e => by
        rw [rowC_low hal hltr] at e
        have := row_lt g1 e.symm
        omega)
      have HNX := hid (show ∀ w2, WrC X w2 b (A ++ oCmd (q + 1) x A.length) → Below b W1 w2 → FrC b W1 w2 → CmI (q + 1) X l w b acc (m + 1) w2 from fun w2 h1 h2 h3 => CmI.next HXM.out HI.out (by rw [← HA.out]; exact h1) (HB1.out.trans h2) (HF1.out.trans h3))
      by_cases k2 : x.kind = 2
      · have c2 : (x.kind == 2) = true := by simp [k2]
        have HBR := hid (hBq x ax an ak at' aa ae cx cn ck ct ca ce W0 X b A W1 k2 HX1.out hB (hbr.trans HB1.out) HCX.out HWF.out HBD.out HC1.out)
        clear k2 hx hCx g1 g2 g3 hal hW1 hA
        go_wp2_with fail
        rw [← HWE.out]
        refine HBR.out.mono ?_
        rintro e w2 ⟨⟨v, rfl⟩, hW2, hb2, hf2⟩
        simp only
        have HN := hid (HNX.out w2 hW2 hb2 hf2)
        clear hW2 hb2 hf2 y0 y1 y2 y3 y4 y5 y6 y7 y8 y9 y10 y11
        go_wp2
        go_roundw
        case rel => exact ⟨m + 1, by omega, by go_num, HN⟩
        case measure => simp [intOf]; omega
      · have c2 : (x.kind == 2) = false := by simp [k2]
        obtain ⟨vx, vn, vk, vt, va, ve, e8, hTx, _, _, _⟩ := HCX.out
        simp only [List.cons.injEq, true_and, and_true] at e8
        obtain ⟨rfl, rfl, rfl, rfl, rfl, rfl⟩ := e8
        have HOE := hid (show oCmd (q + 1) x A.length = [doO x] by rw [oCmd, if_neg k2])
        have HCL := hid (cloneS_any x.texts ax cx W1.drew (TxtsM.next hTx (show Below W0.heap.size W0 W1.drew from ((hbr.trans HB1.out).mono hB).drew)) HWF.out.1)
        have z0 := gm_cell (j := 0) HBX.out rfl
        have z1 := gm_cell (j := 1) HBX.out rfl
        clear k2 hx hCx hTx g1 g2 g3 hal hW1 hA
        go_upto_region 5 with fail
        rw [← HWE.out]
        clear y0 y1 y2 y3 y4 y5 y6 y7 y8 y9 y10 y11
        go_region_held3 (fun w' => w'.cell? ⟨wr.heap.size, 0, none⟩ = some (.int .i64 x.kind) ∧ w'.cell? ⟨wr.heap.size, 1, none⟩ = some (.slice ax x.texts.length cx)) (go_keep)
          (first
            | (go_at_call 108
               with_reducible refine HAD.out.mono ?_
               rintro e w3 ⟨rfl, hW3, hb3, hf3⟩
               have HN := hid (HNX.out w3 (by rw [HOE.out]; exact hW3) (HB2.out.trans hb3) (HF2.out.trans hf3))
               have hB3 := (hf3.box HB2X.out (by omega) HR2.out).1
               clear z0 z1 hW3 hb3 hf3
               have z0 := gm_cell (j := 0) hB3 rfl
               have z1 := gm_cell (j := 1) hB3 rfl
               clear hB3)
            | (go_at_call 109
               with_reducible refine HCL.out.mono ?_
               rintro e w2 ⟨a1, c1, rfl, hT2, hb2⟩
               have hb2' : Below W1.heap.size W1 w2 := (Below.refl _ _).drew.trans hb2
               have HAD := hid (addO_any X b A (doO x) (.int .i64 6) (.int .i64 0) (.int .i64 0) (.int .i64 0) (.int .i64 0) (.slice none 0 0) (.slice none 0 0) (.bool false) (.int .i64 0) (.slice none 0 0) (.int .i64 x.kind) (.slice a1 x.texts.length c1) (.int .i64 0) (.int .i64 0) (.int .i64 0) (.slice none 0 0) (.slice none 0 0) (.bool false) (.int .i64 0) (.slice none 0 0) (.slice none 0 0) (.slice none 0 0) w2 (HC1.out.grow hb2') (by have := HBD.out; omega) (op_do HC1.out HX1.out hb2' x hT2))
               have HB2 := hid (show Below b W1 w2 from hb2'.mono (by omega))
               have HF2 := hid (show FrC b W1 w2 from FrC.below (by omega) hb2')
               have HB2X := hid (gm_low hb2' HBX.out)
               have HR2 := hid (show some wr.heap.size ≠ rowC w2 b by rw [rowC_low hb2' (by omega)]; exact HRB.out)
               clear z0 z1 hT2 hb2 hb2'
               have z0 := gm_cell (j := 0) HB2X.out rfl
               have z1 := gm_cell (j := 1) HB2X.out rfl))
        all_goals
          go_wp2
          go_roundw
          case rel => exact ⟨m + 1, by omega, by go_num, HN⟩
          case measure => simp [intOf]; omega
    · have i1 : ¬ (m : Int) < (l.length : Int) := by omega
      obtain rfl : m = l.length := by omega
      have HEND := hid (show WrR X w b (acc ++ oCmds (oCmd n) l acc.length) (.returned (.tuple #[])) wr by
        have h := HI.out
        unfold CmI at h
        rw [List.take_length] at h
        exact ⟨⟨_, rfl⟩, h.1, h.2.1, h.2.2⟩)
      go_wp2
      go_end0
      exact HEND.out
theorem cmds_writ : ∀ n, CmdsW n := by
  intro n
  induction n with
  | zero => exact cmds_step 0 fun q h => by omega
  | succ n ih =>
    refine cmds_step (n + 1) fun q h => ?_
    obtain rfl : n = q := by omega
    exact branch_step n ih
end Go.Proofs.YtlcnfpeabnnjoaaGreatDoor
