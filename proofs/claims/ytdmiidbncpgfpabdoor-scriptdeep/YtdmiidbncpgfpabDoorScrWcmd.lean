/-
  What script's writer.commands and writer.block do, over what writer.branches does: the walks.
-/
import Derived.Test.YtdmiidbncpgfpabDoorScrWtest
namespace Go.Proofs.YtdmiidbncpgfpabDoor
open Go.RowKit Go.Proofs

theorem fault_cmd {n d : Nat} {c : Cmd} (h : faultCmd (n + 1) d c = 0) : (1 ≤ c.kind ∧ c.kind ≤ 10) ∧ d ≤ 6 ∧ fitsC c = true ∧ (c.kind = 2 → faultTst n 1 c.test = 0 ∧ firstP (faultCmd n (d + 1)) c.thn = 0 ∧ (match elsifP c.els with | some x => faultCmd n d x | none => firstP (faultCmd n (d + 1)) c.els) = 0) := by
  rw [faultCmd_step] at h
  by_cases h1 : oneP (isNumP 0 c.kind) d (fitsC c) = 0
  · rw [if_neg (by simpa using h1)] at h
    unfold oneP at h1
    cases hk : isNumP 0 c.kind with
    | false => rw [hk] at h1; simp at h1
    | true =>
      rw [hk] at h1
      cases hf : fitsC c with
      | false => rw [hf] at h1; rcases Nat.lt_or_ge 6 d with hd | hd <;> simp [hd, Nat.not_lt.2] at h1 <;> omega
      | true =>
        rw [hf] at h1
        rw [isNum_cmd] at hk
        simp only [Bool.and_eq_true, decide_eq_true_eq] at hk
        refine ⟨hk, ?_, rfl, fun h2 => ?_⟩
        · rcases Nat.lt_or_ge 6 d with hd | hd
          · rw [if_pos hd] at h1; simp at h1
          · exact hd
        · rw [if_neg (by simpa using h2)] at h
          by_cases q1 : faultTst n 1 c.test = 0
          · rw [if_neg (by simpa using q1)] at h
            by_cases q2 : firstP (faultCmd n (d + 1)) c.thn = 0
            · rw [if_neg (by simpa using q2)] at h
              exact ⟨q1, q2, h⟩
            · rw [if_pos q2] at h; exact absurd h q2
          · rw [if_pos q1] at h; exact absurd h q1
  · rw [if_pos h1] at h; exact absurd h h1

theorem cmd_parts {Q : Nat → Prop} {n : Nat} {w : World} {c : Cmd} {ax an ak at' aa ae : Option Addr} {cx cn ck ct ca ce : Nat} (h : CmdM Q n w c [.int .i64 c.kind, .slice ax c.texts.length cx, .int .i64 c.test.kind, .int .i64 c.test.mat, .int .i64 c.test.part, .slice an c.test.names.length cn, .slice ak c.test.keys.length ck, .bool c.test.over, .int .i64 c.test.limit, .slice at' c.test.tests.length ct, .slice aa c.thn.length ca, .slice ae c.els.length ce]) : ∃ m, n = m + 1 ∧ TxtsM Q w (.slice ax c.texts.length cx) c.texts ∧ TstM Q m w c.test [.int .i64 c.test.kind, .int .i64 c.test.mat, .int .i64 c.test.part, .slice an c.test.names.length cn, .slice ak c.test.keys.length ck, .bool c.test.over, .int .i64 c.test.limit, .slice at' c.test.tests.length ct] ∧ CmdsM Q m w (.slice aa c.thn.length ca) c.thn ∧ CmdsM Q m w (.slice ae c.els.length ce) c.els := by
  obtain ⟨_, _, _, _, _, _, _, _, _, _, _, _, m, hm, he, h1, h2, h3, h4⟩ := cmd_form h
  simp only [List.cons.injEq, Value.slice.injEq, true_and, and_true] at he
  obtain ⟨⟨rfl, rfl⟩, ⟨rfl, rfl⟩, ⟨rfl, rfl⟩, ⟨rfl, rfl⟩, ⟨rfl, rfl⟩, rfl, rfl⟩ := he
  exact ⟨m, hm, h1, h2, h3, h4⟩

/-- The contract of writer.branches, with so much fuel. -/
def WrBr (n : Nat) : Prop := ∀ (c : Cmd) (d b : Nat) (g : Option Nat) (l : List Tok) (w : World) (ax an ak at' aa ae : Option Addr) (cx cn ck ct ca ce : Nat), WrB w b g l → l.length ≤ 401 → 0 < b → WordsAt w → faultCmd n d c = 0 → c.kind = 2 →
    CmdM (und b) n w c [.int .i64 c.kind, .slice ax c.texts.length cx, .int .i64 c.test.kind, .int .i64 c.test.mat, .int .i64 c.test.part, .slice an c.test.names.length cn, .slice ak c.test.keys.length ck, .bool c.test.over, .int .i64 c.test.limit, .slice at' c.test.tests.length ct, .slice aa c.thn.length ca, .slice ae c.els.length ce] →
    Calls Tryd.prog 51 #[.pointer (some ⟨b, 0, none⟩), .agg #[.int .i64 c.kind, .slice ax c.texts.length cx, .int .i64 c.test.kind, .int .i64 c.test.mat, .int .i64 c.test.part, .slice an c.test.names.length cn, .slice ak c.test.keys.length ck, .bool c.test.over, .int .i64 c.test.limit, .slice at' c.test.tests.length ct, .slice aa c.thn.length ca, .slice ae c.els.length ce]] w (Wd b g w l (restT n c))

theorem cmdsT_step (n : Nat) (l : List Cmd) (k : Nat) (x : Cmd) (h : l[k]? = some x) : cmdsT n (l.take (k + 1)) = cmdsT n (l.take k) ++ cmdT n x := by
  have hk : k < l.length := (List.getElem?_eq_some_iff.1 h).1
  have hg : l[k] = x := (List.getElem?_eq_some_iff.1 h).2
  rw [List.take_succ_eq_append_getElem hk, hg]
  simp [cmdsT]

set_option maxHeartbeats 8000000 in
set_option maxRecDepth 100000 in
theorem wcommands_of (n : Nat) (ih : WrBr n) (cs : List Cmd) (d b : Nat) (g : Option Nat) (l : List Tok) (w : World) (a : Option Addr) (k : Nat) (hR : WrB w b g l) (hl : l.length ≤ 401) (hG : 0 < b) (hw : WordsAt w) (hF : firstP (faultCmd n d) cs = 0) (hT : CmdsM (und b) n w (.slice a cs.length k) cs) :
    Calls Tryd.prog 27 #[.pointer (some ⟨b, 0, none⟩), .slice a cs.length k] w (Wd b g w l (cmdsT n cs)) := by
  have HR := hid hR
  have HT := hid hT
  have HIH := hid ih
  have HW := hid hw
  have HF := hid hF
  have hmx := hT.small
  unfold maxLen at hmx
  have HU0 := hid (show WrB w b g ((l ++ cmdsT n (cs.take 0)).take 401) by
    simp only [List.take_zero, cmdsT, List.flatMap_nil, List.append_nil]; rw [List.take_of_length_le hl]; exact hR)
  clear hR hT ih hw hF
  go_enter Tryd.func27, Tryd.ntmps27
  go_wp2
  go_loopw [8] (fun v wr => ∃ (i : Nat) (g' : Option Nat), i ≤ cs.length ∧ v = .int .i64 i ∧ WrB wr b g' ((l ++ cmdsT n (cs.take i)).take 401) ∧ Wrote b g g' w wr) (fun v _ => cs.length - (intOf v).toNat)
  case atStart => exact ⟨0, g, Nat.zero_le _, rfl, HU0.out, Wrote.refl _ _ _⟩
  case round =>
    obtain ⟨i, g', hi, rfl, hRr, hWr⟩ := hrel
    have HRr := hid hRr
    have HWr := hid hWr
    have hlw := HR.out.below hWr
    have hTr := HT.out.wrote hlw
    by_cases hlt : i < cs.length
    · have i1 : (i : Int) < (cs.length : Int) := by omega
      have i3 : (0 : Int) ≤ (i : Int) := by omega
      obtain ⟨x, hx⟩ : ∃ x, cs[i]? = some x := ⟨_, List.getElem?_eq_getElem hlt⟩
      obtain ⟨q, o, ax, cx, an, cn, ak, ck, at', ct, aa, ca, ae, ce, rfl, hq, e0, e1, e2, e3, e4, e5, e6, e7, e8, e9, e10, e11, hTx⟩ := cmd_at hTr hx
      have HS := hid (cmdsT_step n cs i x hx)
      have HFx := hid (firstP_zero HF.out x (List.mem_of_getElem? hx))
      have HTx := hid hTx
      have hWwr := HW.out.low hlw hG
      have HWwr := hid hWwr
      obtain ⟨m, hm, hX1, _⟩ := cmd_parts hTx
      subst hm
      have HX1 := hid hX1
      obtain ⟨hkd, _, hfit, _⟩ := fault_cmd HFx.out
      have hbl := hRr.lt
      have hgf := hRr.fresh
      obtain ⟨W0, hW0⟩ : ∃ W0, W0 = wr.alloc (.cells #[.int .i64 x.kind, .slice ax x.texts.length cx, .int .i64 x.test.kind, .int .i64 x.test.mat, .int .i64 x.test.part, .slice an x.test.names.length cn, .slice ak x.test.keys.length ck, .bool x.test.over, .int .i64 x.test.limit, .slice at' x.test.tests.length ct, .slice aa x.thn.length ca, .slice ae x.els.length ce] 29) := ⟨_, rfl⟩
      have hal : Below wr.heap.size wr W0 := by rw [hW0]; exact (Below.refl _ _).alloc (Nat.le_refl _) _
      have hH : W0.heap[wr.heap.size]? = some (.cells #[.int .i64 x.kind, .slice ax x.texts.length cx, .int .i64 x.test.kind, .int .i64 x.test.mat, .int .i64 x.test.part, .slice an x.test.names.length cn, .slice ak x.test.keys.length ck, .bool x.test.over, .int .i64 x.test.limit, .slice at' x.test.tests.length ct, .slice aa x.thn.length ca, .slice ae x.els.length ce] 29) := by rw [hW0]; exact heap_alloc_new wr _
      have f0 : W0.cell? ⟨wr.heap.size, 0, none⟩ = some (.int .i64 x.kind) := by simp [World.cell?, hH]
      have f1 : W0.cell? ⟨wr.heap.size, 1, none⟩ = some (.slice ax x.texts.length cx) := by simp [World.cell?, hH]
      have f2 : W0.cell? ⟨wr.heap.size, 2, none⟩ = some (.int .i64 x.test.kind) := by simp [World.cell?, hH]
      have f3 : W0.cell? ⟨wr.heap.size, 3, none⟩ = some (.int .i64 x.test.mat) := by simp [World.cell?, hH]
      have f4 : W0.cell? ⟨wr.heap.size, 4, none⟩ = some (.int .i64 x.test.part) := by simp [World.cell?, hH]
      have f5 : W0.cell? ⟨wr.heap.size, 5, none⟩ = some (.slice an x.test.names.length cn) := by simp [World.cell?, hH]
      have f6 : W0.cell? ⟨wr.heap.size, 6, none⟩ = some (.slice ak x.test.keys.length ck) := by simp [World.cell?, hH]
      have f7 : W0.cell? ⟨wr.heap.size, 7, none⟩ = some (.bool x.test.over) := by simp [World.cell?, hH]
      have f8 : W0.cell? ⟨wr.heap.size, 8, none⟩ = some (.int .i64 x.test.limit) := by simp [World.cell?, hH]
      have f9 : W0.cell? ⟨wr.heap.size, 9, none⟩ = some (.slice at' x.test.tests.length ct) := by simp [World.cell?, hH]
      have f10 : W0.cell? ⟨wr.heap.size, 10, none⟩ = some (.slice aa x.thn.length ca) := by simp [World.cell?, hH]
      have f11 : W0.cell? ⟨wr.heap.size, 11, none⟩ = some (.slice ae x.els.length ce) := by simp [World.cell?, hH]
      have HWE := hid hW0
      have HAL := hid hal
      have hbne : wr.heap.size ≠ b := by omega
      have hlt0 := World.block_lt_of_cell? W0 _ f0
      have hG0 : 0 < wr.heap.size := by omega
      obtain ⟨kk, hkk⟩ := Int.eq_ofNat_of_zero_le (show 0 ≤ x.kind by omega)
      have hk11 : kk < 11 := by omega
      have hki : (kk : Int) < 11 := by omega
      have hk0 : (0 : Int) ≤ (kk : Int) := by omega
      have hc := hWwr 0 kk (by omega) hk11
      simp at hc
      have HKW := hid (show wordOf 0 x.kind.toNat = wordOf 0 kk by rw [hkk]; rfl)
      have HKK := hid hkk
      rw [hkk] at f0 e0
      clear hx hTr hRr hWr hTx hlw hW0 hal hH hWwr hX1 hkk
      go_wp2_with fail
      rw [← HKK.out, ← HWE.out]
      refine (put_any b g' _ 1 (wordOf 0 kk) W0 (HRr.out.next HAL.out) (take_len _)).mono ?_
      rintro e w1 ⟨rfl, g1, hU1, hW1⟩
      rw [take_join] at hU1
      have k0 := hW1.cellAt f0 hbne hgf
      have k1 := hW1.cellAt f1 hbne hgf
      have k2 := hW1.cellAt f2 hbne hgf
      have k3 := hW1.cellAt f3 hbne hgf
      have k4 := hW1.cellAt f4 hbne hgf
      have k5 := hW1.cellAt f5 hbne hgf
      have k6 := hW1.cellAt f6 hbne hgf
      have k7 := hW1.cellAt f7 hbne hgf
      have k8 := hW1.cellAt f8 hbne hgf
      have k9 := hW1.cellAt f9 hbne hgf
      have k10 := hW1.cellAt f10 hbne hgf
      have k11 := hW1.cellAt f11 hbne hgf
      have hs1 := hW1.stay (k := wr.heap.size) hlt0 hgf
      have HL1 := hid ((HRr.out.next HAL.out).below hW1)
      have HB1 := hid ((HAL.out.mono (Nat.le_of_lt hbl)).trans HL1.out)
      have HU1 := hid hU1
      have HW1 := hid ((HWr.out.trans (Wrote.of HAL.out)).trans hW1)
      clear hU1 hW1 hc f0 f1 f2 f3 f4 f5 f6 f7 f8 f9 f10 f11 e0 e1 e2 e3 e4 e5 e6 e7 e8 e9 e10 e11
      rw [← HKK.out] at k0
      have HWw1 := hid ((HWwr.out.next HAL.out).low HL1.out hG)
      by_cases h2 : x.kind = 2
      · have hq2 : (x.kind == 2) = true := by simp [h2]
        have H2 := hid h2
        clear h2
        have HTx1 := hid ((HTx.out.next HAL.out).wrote HL1.out)
        go_wp2_with fail
        refine (HIH.out x d b g1 _ w1 _ _ _ _ _ _ _ _ _ _ _ _ HU1.out (take_len _) hG HWw1.out HFx.out H2.out HTx1.out).mono ?_
        rintro e w2 ⟨rfl, g2, hU2, hW2⟩
        rw [take_join] at hU2
        have HU2 := hid (show WrB w2 b g2 ((l ++ cmdsT (m + 1) (cs.take (i + 1))).take 401) by
          rw [HS.out, cmdT, HKW.out]
          simpa [wordT] using hU2)
        have HW2 := hid (HW1.out.trans hW2)
        clear hU2 hW2 k0 k1 k2 k3 k4 k5 k6 k7 k8 k9 k10 k11
        go_wp2
        exact ⟨⟨i + 1, g2, by omega, by go_num, HU2.out, HW2.out⟩, by simp [intOf]; omega⟩
      · have hq2 : (x.kind == 2) = false := by simp [h2]
        have HRT := hid (show restT (m + 1) x = (if x.texts.length = 0 then [] else listT x.texts) ++ [markT 59] by
          unfold restT; rw [if_neg h2])
        clear h2
        by_cases h0 : 0 < x.texts.length
        · have h0' : (0 : Int) < (x.texts.length : Int) := by omega
          go_wp2_with fail
          refine (wlist_any b g1 _ x.texts _ _ w1 HU1.out (take_len _) (((HX1.out.next HAL.out)).wrote HL1.out)).mono ?_
          rintro e w2 ⟨rfl, g2, hU2, hW2⟩
          rw [take_join] at hU2
          have HU2 := hid hU2
          have HW2 := hid (HW1.out.trans hW2)
          clear hU2 hW2 k0 k1 k2 k3 k4 k5 k6 k7 k8 k9 k10 k11
          go_wp2_with fail
          refine (put_any b g2 _ 5 [59] w2 HU2.out (take_len _)).mono ?_
          rintro e w3 ⟨rfl, g3, hU3, hW3⟩
          rw [take_join] at hU3
          have HU3 := hid (show WrB w3 b g3 ((l ++ cmdsT (m + 1) (cs.take (i + 1))).take 401) by
            rw [HS.out, cmdT, HKW.out, HRT.out, if_neg (by omega)]
            simpa [wordT, markT, List.append_assoc] using hU3)
          have HW3 := hid (HW2.out.trans hW3)
          clear hU3 hW3
          go_wp2
          exact ⟨⟨i + 1, g3, by omega, by go_num, HU3.out, HW3.out⟩, by simp [intOf]; omega⟩
        · have h0' : ¬ (0 : Int) < (x.texts.length : Int) := by omega
          go_wp2_with fail
          refine (put_any b g1 _ 5 [59] w1 HU1.out (take_len _)).mono ?_
          rintro e w3 ⟨rfl, g3, hU3, hW3⟩
          rw [take_join] at hU3
          have HU3 := hid (show WrB w3 b g3 ((l ++ cmdsT (m + 1) (cs.take (i + 1))).take 401) by
            rw [HS.out, cmdT, HKW.out, HRT.out, if_pos (by omega)]
            simpa [wordT, markT, List.append_assoc] using hU3)
          have HW3 := hid (HW1.out.trans hW3)
          clear hU3 hW3 k0 k1 k2 k3 k4 k5 k6 k7 k8 k9 k10 k11
          go_wp2
          exact ⟨⟨i + 1, g3, by omega, by go_num, HU3.out, HW3.out⟩, by simp [intOf]; omega⟩
    · have i1 : ¬ (i : Int) < (cs.length : Int) := by omega
      obtain rfl : i = cs.length := by omega
      have HE := hid (show Wd b g w l (cmdsT n cs) (.returned (.tuple #[])) wr from ⟨rfl, g', by rw [List.take_length] at hRr; exact hRr, hWr⟩)
      clear hTr hRr hWr hlw
      go_wp2
      go_end0
      exact HE.out

set_option maxHeartbeats 8000000 in
theorem wblock_of (n : Nat) (ih : WrBr n) (cs : List Cmd) (d b : Nat) (g : Option Nat) (l : List Tok) (w : World) (a : Option Addr) (k : Nat) (hR : WrB w b g l) (hl : l.length ≤ 401) (hG : 0 < b) (hw : WordsAt w) (hF : firstP (faultCmd n d) cs = 0) (hT : CmdsM (und b) n w (.slice a cs.length k) cs) :
    Calls Tryd.prog 69 #[.pointer (some ⟨b, 0, none⟩), .slice a cs.length k] w (Wd b g w l (markT 123 :: (cmdsT n cs ++ [markT 125]))) := by
  have HR := hid hR
  have HT := hid hT
  have HIH := hid ih
  have HW := hid hw
  have HF := hid hF
  clear hR hT ih hw hF
  go_enter Tryd.func69, Tryd.ntmps69
  go_wp2_with fail
  refine (put_any b g l 5 [123] w HR.out hl).mono ?_
  rintro e w1 ⟨rfl, g1, hU1, hW1⟩
  have HU1 := hid hU1
  have HW1 := hid hW1
  have HL1 := hid (HR.out.below hW1)
  clear hU1 hW1
  go_wp2_with fail
  refine (wcommands_of n HIH.out cs d b g1 _ w1 a k HU1.out (take_len _) hG (HW.out.low HL1.out hG) HF.out (HT.out.wrote HL1.out)).mono ?_
  rintro e w2 ⟨rfl, g2, hU2, hW2⟩
  rw [take_join] at hU2
  have HU2 := hid hU2
  have HW2 := hid (HW1.out.trans hW2)
  clear hU2 hW2
  go_wp2_with fail
  refine (put_any b g2 _ 5 [125] w2 HU2.out (take_len _)).mono ?_
  rintro e w3 ⟨rfl, g3, hU3, hW3⟩
  rw [take_join] at hU3
  have HE := hid (show Wd b g w l (markT 123 :: (cmdsT n cs ++ [markT 125])) (.returned (.tuple #[])) w3 from ⟨rfl, g3, by simpa [markT, List.append_assoc] using hU3, HW2.out.trans hW3⟩)
  clear hU3 hW3
  go_wp2
  go_end0
  exact HE.out
end Go.Proofs.YtdmiidbncpgfpabDoor
