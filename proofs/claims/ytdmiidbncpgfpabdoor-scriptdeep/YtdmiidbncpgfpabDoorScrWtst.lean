/-
  What script's writer.tests and writer.test do: the walks.
-/
import Derived.Test.YtdmiidbncpgfpabDoorScrWr
namespace Go.Proofs.YtdmiidbncpgfpabDoor
open Go.RowKit Go.Proofs

theorem Wrote.cellAt {b : Nat} {g g' : Option Nat} {w w' : World} (h : Wrote b g g' w w') {p : Addr} {v : Value} (hp : w.cell? p = some v) (hb : p.block ≠ b) (hg : g ≠ some p.block) : w'.cell? p = some v :=
  (World.cell?_of_block (w := w) (h.block p.block (World.block_lt_of_cell? w _ hp) hb (fun e => hg e.symm))).trans hp
theorem WordsAt.low {w w' : World} {b : Nat} (h : WordsAt w) (hb : Below b w w') (hG : 0 < b) : WordsAt w' := h.keeps (Q := und b) (Keeps.of_below' hb fun _ h => h) hG
theorem fault_tst {n d : Nat} {t : Tst} (h : faultTst (n + 1) d t = 0) : (1 ≤ t.kind ∧ t.kind ≤ 10) ∧ d ≤ 6 ∧ fitsT t = true ∧ firstP (faultTst n (d + 1)) t.tests = 0 := by
  unfold faultTst at h
  by_cases h1 : oneP (isNumP 1 t.kind) d (fitsT t) = 0
  · rw [if_pos h1] at h
    unfold oneP at h1
    cases hk : isNumP 1 t.kind with
    | false => rw [hk] at h1; simp at h1
    | true =>
      rw [hk] at h1
      cases hf : fitsT t with
      | false => rw [hf] at h1; rcases Nat.lt_or_ge 6 d with hd | hd <;> simp [hd, Nat.not_lt.2] at h1 <;> omega
      | true =>
        rw [hf] at h1
        rw [isNum_tst] at hk
        simp only [Bool.and_eq_true, decide_eq_true_eq] at hk
        refine ⟨hk, ?_, rfl, h⟩
        rcases Nat.lt_or_ge 6 d with hd | hd
        · rw [if_pos hd] at h1; simp at h1
        · exact hd
  · rw [if_neg h1] at h; exact absurd h h1
theorem firstP_zero {A : Type} {f : A → Int} {l : List A} (h : firstP f l = 0) : ∀ x ∈ l, f x = 0 := by
  induction l with
  | nil => intro x hx; cases hx
  | cons y r ih =>
    unfold firstP at h
    by_cases hy : f y = 0
    · rw [if_pos hy] at h
      intro x hx
      cases List.mem_cons.1 hx with
      | inl e => rw [e]; exact hy
      | inr e => exact ih h x e
    · rw [if_neg hy] at h; exact absurd h hy
theorem zero_firstP {A : Type} {f : A → Int} {l : List A} (h : ∀ x ∈ l, f x = 0) : firstP f l = 0 := by
  induction l with
  | nil => rfl
  | cons y r ih => unfold firstP; rw [if_pos (h y (by simp))]; exact ih fun x hx => h x (by simp [hx])

/-- The contract of writer.test, with so much fuel. -/
def WrT (n : Nat) : Prop := ∀ (t : Tst) (d b : Nat) (g : Option Nat) (l : List Tok) (w : World) (an ak at' : Option Addr) (cn ck ct : Nat), WrB w b g l → l.length ≤ 401 → 0 < b → WordsAt w → faultTst n d t = 0 →
    TstM (und b) n w t [.int .i64 t.kind, .int .i64 t.mat, .int .i64 t.part, .slice an t.names.length cn, .slice ak t.keys.length ck, .bool t.over, .int .i64 t.limit, .slice at' t.tests.length ct] →
    Calls Tryd.prog 68 #[.pointer (some ⟨b, 0, none⟩), .agg #[.int .i64 t.kind, .int .i64 t.mat, .int .i64 t.part, .slice an t.names.length cn, .slice ak t.keys.length ck, .bool t.over, .int .i64 t.limit, .slice at' t.tests.length ct]] w (Wd b g w l (testT n t))

set_option maxHeartbeats 8000000 in
set_option maxRecDepth 100000 in
theorem wtests_of (n : Nat) (ih : WrT n) (ts : List Tst) (d b : Nat) (g : Option Nat) (l : List Tok) (w : World) (a : Option Addr) (c : Nat) (hR : WrB w b g l) (hl : l.length ≤ 401) (hG : 0 < b) (hw : WordsAt w) (hF : firstP (faultTst n d) ts = 0) (hT : TstsM (und b) n w (.slice a ts.length c) ts) :
    Calls Tryd.prog 80 #[.pointer (some ⟨b, 0, none⟩), .slice a ts.length c] w (Wd b g w l (markT 40 :: (sepT (testT n) ts ++ [markT 41]))) := by
  have HR : Hid (WrB w b g l) := hR
  have HT : Hid (TstsM (und b) n w (.slice a ts.length c) ts) := hT
  have HIH : Hid (WrT n) := ih
  have HW : Hid (WordsAt w) := hw
  have HF : Hid (firstP (faultTst n d) ts = 0) := hF
  have hmx := hT.small
  unfold maxLen at hmx
  clear hR hT ih hw hF
  go_enter Tryd.func80, Tryd.ntmps80
  go_wp2_with fail
  refine (put_any b g l 5 [40] w HR.out hl).mono ?_
  rintro e w1 ⟨rfl, g1, hU1, hW1⟩
  have HU1 : Hid (WrB w1 b g1 ((l ++ ([markT 40] ++ sepK (testT n) ts 0)).take 401)) := hU1
  have HW1 := hid (hW1)
  clear hU1 hW1
  go_wp2
  go_loopw [10] (fun v wr => ∃ (i : Nat) (g' : Option Nat), i ≤ ts.length ∧ v = .int .i64 i ∧ WrB wr b g' ((l ++ ([markT 40] ++ sepK (testT n) ts i)).take 401) ∧ Wrote b g g' w wr) (fun v _ => ts.length - (intOf v).toNat)
  case atStart => exact ⟨0, g1, Nat.zero_le _, rfl, HU1.out, HW1.out⟩
  case round =>
    obtain ⟨i, g', hi, rfl, hRr, hWr⟩ := hrel
    have HRr := hid (hRr)
    have HWr := hid (hWr)
    have hlw := HR.out.below hWr
    have hTr := HT.out.wrote hlw
    by_cases hlt : i < ts.length
    · have i1 : (i : Int) < (ts.length : Int) := by omega
      have i3 : (0 : Int) ≤ (i : Int) := by omega
      obtain ⟨x, hx⟩ : ∃ x, ts[i]? = some x := ⟨_, List.getElem?_eq_getElem hlt⟩
      obtain ⟨q, o, an, cn, ak, ck, at', ct, rfl, hq, e0, e1, e2, e3, e4, e5, e6, e7, hTx⟩ := tst_at hTr hx
      have HS := hid (sepK_step (testT n) ts i x hx)
      have HFx : Hid (faultTst n d x = 0) := firstP_zero HF.out x (List.mem_of_getElem? hx)
      have HTx : Hid (TstM (und b) n wr x [.int .i64 x.kind, .int .i64 x.mat, .int .i64 x.part, .slice an x.names.length cn, .slice ak x.keys.length ck, .bool x.over, .int .i64 x.limit, .slice at' x.tests.length ct]) := hTx
      have HWwr : Hid (WordsAt wr) := HW.out.low hlw hG
      have hbl := hRr.lt
      have hgf := hRr.fresh
      have hal : Below wr.heap.size wr (wr.alloc (.cells #[.int .i64 x.kind, .int .i64 x.mat, .int .i64 x.part, .slice an x.names.length cn, .slice ak x.keys.length ck, .bool x.over, .int .i64 x.limit, .slice at' x.tests.length ct] 26)) := (Below.refl _ _).alloc (Nat.le_refl _) _
      obtain ⟨W0, hW0⟩ : ∃ W0, W0 = wr.alloc (.cells #[.int .i64 x.kind, .int .i64 x.mat, .int .i64 x.part, .slice an x.names.length cn, .slice ak x.keys.length ck, .bool x.over, .int .i64 x.limit, .slice at' x.tests.length ct] 26) := ⟨_, rfl⟩
      rw [← hW0] at hal
      have hz0 : W0.heap.size = wr.heap.size + 1 := by rw [hW0]; simp
      have hH : W0.heap[wr.heap.size]? = some (.cells #[.int .i64 x.kind, .int .i64 x.mat, .int .i64 x.part, .slice an x.names.length cn, .slice ak x.keys.length ck, .bool x.over, .int .i64 x.limit, .slice at' x.tests.length ct] 26) := by rw [hW0]; exact heap_alloc_new wr _
      have f0 : W0.cell? ⟨wr.heap.size, 0, none⟩ = some (.int .i64 x.kind) := by simp [World.cell?, hH]
      have f1 : W0.cell? ⟨wr.heap.size, 1, none⟩ = some (.int .i64 x.mat) := by simp [World.cell?, hH]
      have f2 : W0.cell? ⟨wr.heap.size, 2, none⟩ = some (.int .i64 x.part) := by simp [World.cell?, hH]
      have f3 : W0.cell? ⟨wr.heap.size, 3, none⟩ = some (.slice an x.names.length cn) := by simp [World.cell?, hH]
      have f4 : W0.cell? ⟨wr.heap.size, 4, none⟩ = some (.slice ak x.keys.length ck) := by simp [World.cell?, hH]
      have f5 : W0.cell? ⟨wr.heap.size, 5, none⟩ = some (.bool x.over) := by simp [World.cell?, hH]
      have f6 : W0.cell? ⟨wr.heap.size, 6, none⟩ = some (.int .i64 x.limit) := by simp [World.cell?, hH]
      have f7 : W0.cell? ⟨wr.heap.size, 7, none⟩ = some (.slice at' x.tests.length ct) := by simp [World.cell?, hH]
      have HWE := hid (hW0)
      have HAL := hid (hal)
      have hbne : wr.heap.size ≠ b := by omega
      have hltb : wr.heap.size < W0.heap.size := by omega
      clear hx hTr hRr hWr hTx hlw hW0 hal hH
      by_cases hpos : 0 < i
      · have i4 : (0 : Int) < (i : Int) := by omega
        go_wp2_with fail
        rw [← HWE.out]
        refine (put_any b g' _ 5 [44] W0 (HRr.out.next HAL.out) (take_len _)).mono ?_
        rintro e w2 ⟨rfl, g2, hU2, hW2⟩
        rw [take_join] at hU2
        have k0 := hW2.cellAt f0 hbne hgf
        have k1 := hW2.cellAt f1 hbne hgf
        have k2 := hW2.cellAt f2 hbne hgf
        have k3 := hW2.cellAt f3 hbne hgf
        have k4 := hW2.cellAt f4 hbne hgf
        have k5 := hW2.cellAt f5 hbne hgf
        have k6 := hW2.cellAt f6 hbne hgf
        have k7 := hW2.cellAt f7 hbne hgf
        have hlw2 := (HRr.out.next HAL.out).below hW2
        have HU2 := hid (hU2)
        have HW2 := hid ((HWr.out.trans (Wrote.of HAL.out)).trans hW2)
        have HWw2 : Hid (WordsAt w2) := (HWwr.out.next HAL.out).low hlw2 hG
        have HT2 := hid ((HTx.out.next HAL.out).wrote hlw2)
        clear hU2 hW2 hlw2 e0 e1 e2 e3 e4 e5 e6 e7 f0 f1 f2 f3 f4 f5 f6 f7
        go_wp2_with fail
        refine (HIH.out x d b g2 _ w2 _ _ _ _ _ _ HU2.out (take_len _) hG HWw2.out HFx.out HT2.out).mono ?_
        rintro e w3 ⟨rfl, g3, hU3, hW3⟩
        rw [take_join] at hU3
        have HU3 : Hid (WrB w3 b g3 ((l ++ ([markT 40] ++ sepK (testT n) ts (i + 1))).take 401)) := by
          unfold Hid
          rw [HS.out, if_pos hpos]
          simpa [markT, List.append_assoc] using hU3
        have HW3 := hid (HW2.out.trans hW3)
        clear hU3 hW3
        go_wp2
        exact ⟨⟨i + 1, g3, by omega, by go_num, HU3.out, HW3.out⟩, by simp [intOf]; omega⟩
      · have i4 : ¬ (0 : Int) < (i : Int) := by omega
        have HT2 := hid (HTx.out.next HAL.out)
        have HWw2 : Hid (WordsAt W0) := HWwr.out.next HAL.out
        have HU2 := hid (HRr.out.next HAL.out)
        go_wp2_with fail
        rw [← HWE.out]
        refine (HIH.out x d b g' _ W0 _ _ _ _ _ _ HU2.out (take_len _) hG HWw2.out HFx.out HT2.out).mono ?_
        rintro e w3 ⟨rfl, g3, hU3, hW3⟩
        rw [take_join] at hU3
        have HU3 : Hid (WrB w3 b g3 ((l ++ ([markT 40] ++ sepK (testT n) ts (i + 1))).take 401)) := by
          unfold Hid
          rw [HS.out, if_neg hpos]
          simpa [markT, List.append_assoc] using hU3
        have HW3 := hid ((HWr.out.trans (Wrote.of HAL.out)).trans hW3)
        clear hU3 hW3 e0 e1 e2 e3 e4 e5 e6 e7 f0 f1 f2 f3 f4 f5 f6 f7
        go_wp2
        exact ⟨⟨i + 1, g3, by omega, by go_num, HU3.out, HW3.out⟩, by simp [intOf]; omega⟩
    · have i1 : ¬ (i : Int) < (ts.length : Int) := by omega
      obtain rfl : i = ts.length := by omega
      clear hTr hRr hWr hlw
      go_wp2_with fail
      refine (put_any b g' _ 5 [41] wr HRr.out (take_len _)).mono ?_
      rintro e w2 ⟨rfl, g2, hU2, hW2⟩
      rw [take_join] at hU2
      have HU2 : Hid (WrB w2 b g2 ((l ++ (markT 40 :: (sepT (testT n) ts ++ [markT 41]))).take 401)) := by
        unfold Hid
        rw [sepK_all] at hU2
        simpa [markT] using hU2
      have HW2 := hid (HWr.out.trans hW2)
      clear hU2 hW2
      go_wp2
      go_end0
      exact ⟨rfl, g2, HU2.out, HW2.out⟩
end Go.Proofs.YtdmiidbncpgfpabDoor
