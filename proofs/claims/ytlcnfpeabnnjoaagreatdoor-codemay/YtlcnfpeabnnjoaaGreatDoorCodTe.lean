/-
  The ops of a test are written: the walks.
-/
import Derived.Test.YtlcnfpeabnnjoaaGreatDoorCodCpy
namespace Go.Proofs.YtlcnfpeabnnjoaaGreatDoor
open Go.RowKit Go.Proofs

theorem op_zero (Q : Nat → Prop) (w : World) (k d : Int) : OpM Q w ⟨k, d, noneT, noneC⟩ [.int .i64 k, .int .i64 d, .int .i64 0, .int .i64 0, .int .i64 0, .slice none 0 0, .slice none 0 0, .bool false, .int .i64 0, .slice none 0 0, .int .i64 0, .slice none 0 0, .int .i64 0, .int .i64 0, .int .i64 0, .slice none 0 0, .slice none 0 0, .bool false, .int .i64 0, .slice none 0 0, .slice none 0 0, .slice none 0 0] :=
  ⟨_, _, rfl, none_tst Q 0 w, _, _, _, _, _, _, rfl, rowM_nil _ _ _ _ _ _, none_tst Q 0 w, rowM_nil _ _ _ _ _ _, rowM_nil _ _ _ _ _ _⟩
theorem handQ_new {X : Nat → Prop} {w1 w2 : World} {b : Nat} {acc : List Opr} (h : WrC X w1 b acc) (hX : ∀ p, X p → p < w1.heap.size) (hb : Below w1.heap.size w1 w2) {p : Nat} (h1 : w1.heap.size ≤ p) (h2 : p < w2.heap.size) : handQ X w2 b p := by
  have hlt := h.lt
  obtain ⟨a, k, e1, css, o1, _⟩ := h
  refine ⟨⟨by omega, h2, fun e => ?_⟩, fun hx => by have := hX p hx; omega⟩
  rw [rowC_one (gm_low hb e1)] at e
  have := (World.ownsRow.lt o1 p e.symm).2
  omega
theorem op_ask {X : Nat → Prop} {w1 w2 : World} {b : Nat} {acc : List Opr} (h : WrC X w1 b acc) (hX : ∀ p, X p → p < w1.heap.size) (hb : Below w1.heap.size w1 w2) (t : Tst) {a1 a2 : Option Addr} {c1 c2 : Nat} (hN : TxtsM (newB w1.heap.size) w2 (.slice a1 t.names.length c1) t.names) (hK : TxtsM (newB w1.heap.size) w2 (.slice a2 t.keys.length c2) t.keys) :
    OpM (handQ X w2 b) w2 (askO t) [.int .i64 1, .int .i64 0, .int .i64 t.kind, .int .i64 t.mat, .int .i64 t.part, .slice a1 t.names.length c1, .slice a2 t.keys.length c2, .bool t.over, .int .i64 t.limit, .slice none 0 0, .int .i64 0, .slice none 0 0, .int .i64 0, .int .i64 0, .int .i64 0, .slice none 0 0, .slice none 0 0, .bool false, .int .i64 0, .slice none 0 0, .slice none 0 0, .slice none 0 0] := by
  have hq : ∀ p, (newB w1.heap.size p ∧ p < w2.heap.size) → handQ X w2 b p := fun p hp => handQ_new h hX hb hp.1 hp.2
  refine ⟨[.int .i64 t.kind, .int .i64 t.mat, .int .i64 t.part, .slice a1 t.names.length c1, .slice a2 t.keys.length c2, .bool t.over, .int .i64 t.limit, .slice none 0 0], _, rfl, ?_, _, _, _, _, _, _, rfl, rowM_nil _ _ _ _ _ _, none_tst _ 0 w2, rowM_nil _ _ _ _ _ _, rowM_nil _ _ _ _ _ _⟩
  exact ⟨_, _, _, rfl, TxtsM.imp (RowM.both hN fun _ _ h => h) hq (Keeps.refl _ _), TxtsM.imp (RowM.both hK fun _ _ h => h) hq (Keeps.refl _ _), rowM_nil _ _ _ _ _ _⟩
theorem WrR.after {X : Nat → Prop} {w w1 : World} {b : Nat} {acc : List Opr} {e : Ending} {w' : World} (h : WrR X w1 b acc e w') (hb : Below b w w1) (hf : FrC b w w1) : WrR X w b acc e w' := ⟨h.1, h.2.1, hb.trans h.2.2.1, hf.trans h.2.2.2⟩
/-- A test of so many in one another, and lists of such ones, are written. -/
def TstW (n : Nat) : Prop := ∀ (t : Tst) (an ak at' : Option Addr) (cn ck ct : Nat) (W0 : World) (X : Nat → Prop) (b : Nat) (acc : List Opr) (w : World), (∀ p, X p → p < w.heap.size) → W0.heap.size ≤ b → Below b W0 w → TstM anyB n W0 t [.int .i64 t.kind, .int .i64 t.mat, .int .i64 t.part, .slice an t.names.length cn, .slice ak t.keys.length ck, .bool t.over, .int .i64 t.limit, .slice at' t.tests.length ct] → FitT n t → acc.length + (testT n t).length ≤ 1000 → WrC X w b acc →
    Calls Tryz.prog 141 #[.pointer (some ⟨b, 0, none⟩), .agg #[.int .i64 t.kind, .int .i64 t.mat, .int .i64 t.part, .slice an t.names.length cn, .slice ak t.keys.length ck, .bool t.over, .int .i64 t.limit, .slice at' t.tests.length ct]] w (WrR X w b (acc ++ oTst n t acc.length))
def TstsW (n : Nat) : Prop := ∀ (l : List Tst) (a : Option Addr) (c : Nat) (k : Int) (W0 : World) (X : Nat → Prop) (b : Nat) (acc : List Opr) (w : World), (∀ p, X p → p < w.heap.size) → (k = 3 ∨ k = 4) → l ≠ [] → l.length ≤ 3 → W0.heap.size ≤ b → Below b W0 w → TstsM anyB n W0 (.slice a l.length c) l → (∀ t ∈ l, FitT n t) → acc.length + (sepT (testT n) l).length ≤ 1000 → WrC X w b acc →
    Calls Tryz.prog 165 #[.pointer (some ⟨b, 0, none⟩), .slice a l.length c, .int .i64 k] w (WrR X w b (acc ++ oTsts (oTst n) k l acc.length))
theorem fit_head {n : Nat} {t : Tst} (h : FitT (n + 1) t) : t.names.length ≤ 2 ∧ t.keys.length ≤ 2 ∧ t.tests.length ≤ 3 ∧ fitsT t = true := by
  have h1 := h.1
  unfold fitH at h1
  simp only [Bool.and_eq_true, decide_eq_true_eq] at h1
  exact ⟨h1.1.1.2, h1.1.2, h1.2, h1.1.1.1.2⟩
theorem fits_not {t : Tst} (h : fitsT t = true) (hk : t.kind = 3) : t.tests.length = 1 := by
  unfold fitsT at h
  rw [if_pos hk] at h
  simp only [Bool.and_eq_true, decide_eq_true_eq] at h
  exact h.1
theorem fits_all {t : Tst} (h : fitsT t = true) (hk : t.kind = 4 ∨ t.kind = 5) : t.tests ≠ [] := by
  unfold fitsT at h
  rw [if_neg (by omega), if_pos hk] at h
  simp only [Bool.and_eq_true, decide_eq_true_eq] at h
  intro e
  rw [e] at h
  simp at h
theorem low_cell {W0 w : World} {b : Nat} (hb : Below b W0 w) (hB : W0.heap.size ≤ b) {p : Addr} {v : Value} (h : W0.cell? p = some v) : w.cell? p = some v := (hb.cell (Nat.lt_of_lt_of_le (World.block_lt_of_cell? W0 _ h) hB)).trans h
theorem low_below {W0 w w' : World} {b : Nat} (hb : Below b W0 w) (h : Below b w w') : Below b W0 w' := hb.trans h
/-- One of a row of tests. -/
theorem tstO_at {n : Nat} {W0 w : World} {b : Nat} (hb : Below b W0 w) (hB : W0.heap.size ≤ b) {a : Option Addr} {c : Nat} {l : List Tst} (h : TstsM anyB n W0 (.slice a l.length c) l) {i : Nat} {x : Tst} (hx : l[i]? = some x) :
    ∃ (b' o : Nat) (an ak at' : Option Addr) (cn ck ct : Nat), a = some ⟨b', o, none⟩ ∧ b' < W0.heap.size ∧ TstM anyB n W0 x [.int .i64 x.kind, .int .i64 x.mat, .int .i64 x.part, .slice an x.names.length cn, .slice ak x.keys.length ck, .bool x.over, .int .i64 x.limit, .slice at' x.tests.length ct] ∧ w.cell? ⟨b', o + i * 8, none⟩ = some (.int .i64 x.kind) ∧ w.cell? ⟨b', o + i * 8 + 1, none⟩ = some (.int .i64 x.mat) ∧ w.cell? ⟨b', o + i * 8 + 2, none⟩ = some (.int .i64 x.part) ∧ w.cell? ⟨b', o + i * 8 + 3, none⟩ = some (.slice an x.names.length cn) ∧ w.cell? ⟨b', o + i * 8 + 4, none⟩ = some (.slice ak x.keys.length ck) ∧ w.cell? ⟨b', o + i * 8 + 5, none⟩ = some (.bool x.over) ∧ w.cell? ⟨b', o + i * 8 + 6, none⟩ = some (.int .i64 x.limit) ∧ w.cell? ⟨b', o + i * 8 + 7, none⟩ = some (.slice at' x.tests.length ct) := by
  obtain ⟨a', c', hv, _, hr⟩ := h
  simp only [Value.slice.injEq, true_and] at hv
  obtain ⟨rfl, rfl⟩ := hv
  obtain ⟨b', o, cs, ha, hlt, _, _, hc, hT⟩ := hr i x hx
  obtain ⟨an, cn, ak, ck, at', ct, rfl⟩ : ∃ an cn ak ck at' ct, cs = [.int .i64 x.kind, .int .i64 x.mat, .int .i64 x.part, .slice an x.names.length cn, .slice ak x.keys.length ck, .bool x.over, .int .i64 x.limit, .slice at' x.tests.length ct] := by
    obtain ⟨an, cn, ak, ck, at', ct, _, _, e, _⟩ := tst_form hT
    exact ⟨an, cn, ak, ck, at', ct, e⟩
  exact ⟨b', o, an, ak, at', cn, ck, ct, ha, hlt, hT, low_cell hb hB (hc 0 _ rfl), low_cell hb hB (hc 1 _ rfl), low_cell hb hB (hc 2 _ rfl), low_cell hb hB (hc 3 _ rfl), low_cell hb hB (hc 4 _ rfl), low_cell hb hB (hc 5 _ rfl), low_cell hb hB (hc 6 _ rfl), low_cell hb hB (hc 7 _ rfl)⟩
/-- An op that has nothing but its kind is added. -/
theorem add_bare (X : Nat → Prop) (b : Nat) (acc : List Opr) (k : Int) (w : World) (h : WrC X w b acc) (hl : acc.length ≤ 1000) :
    Calls Tryz.prog 108 #[.pointer (some ⟨b, 0, none⟩), .agg #[.int .i64 k, .int .i64 0, .int .i64 0, .int .i64 0, .int .i64 0, .slice none 0 0, .slice none 0 0, .bool false, .int .i64 0, .slice none 0 0, .int .i64 0, .slice none 0 0, .int .i64 0, .int .i64 0, .int .i64 0, .slice none 0 0, .slice none 0 0, .bool false, .int .i64 0, .slice none 0 0, .slice none 0 0, .slice none 0 0]] w fun e w' => e = .returned (.int .i64 (acc.length : Int)) ∧ WrC X w' b (acc ++ [⟨k, 0, noneT, noneC⟩]) ∧ Below b w w' ∧ FrC b w w' :=
  addO_any X b acc ⟨k, 0, noneT, noneC⟩ (.int .i64 k) (.int .i64 0) (.int .i64 0) (.int .i64 0) (.int .i64 0) (.slice none 0 0) (.slice none 0 0) (.bool false) (.int .i64 0) (.slice none 0 0) (.int .i64 0) (.slice none 0 0) (.int .i64 0) (.int .i64 0) (.int .i64 0) (.slice none 0 0) (.slice none 0 0) (.bool false) (.int .i64 0) (.slice none 0 0) (.slice none 0 0) (.slice none 0 0) w h hl (op_zero _ w k 0)
set_option maxHeartbeats 1000000 in
set_option maxRecDepth 100000 in
theorem test_step (n : Nat) (hT : TstW n) (hTs : TstsW n) : TstW (n + 1) := by
  intro t an ak at' cn ck ct W0 X b acc w hX hB hb hM hF hlen hW
  obtain ⟨vn, vk, vt, e8, hN, hK, hR⟩ := hM
  simp only [List.cons.injEq, true_and, and_true] at e8
  obtain ⟨rfl, rfl, rfl⟩ := e8
  obtain ⟨hn2, hk2, ht3, hfit⟩ := fit_head hF
  have hlt := hW.lt
  obtain ⟨W1, hW1⟩ : ∃ W1, W1 = w.alloc (.cells #[.int .i64 t.kind, .int .i64 t.mat, .int .i64 t.part, .slice an t.names.length cn, .slice ak t.keys.length ck, .bool t.over, .int .i64 t.limit, .slice at' t.tests.length ct] 40) := ⟨_, rfl⟩
  have HWE := hid hW1
  have hal : Below w.heap.size w W1 := by rw [hW1]; exact (Below.refl _ _).alloc (Nat.le_refl _) _
  have HC1 := hid (hW.grow hal)
  have HX1 := hid (show ∀ p, X p → p < W1.heap.size from fun p hp => Nat.lt_of_lt_of_le (hX p hp) hal.size)
  have HB1 := hid (show Below b w W1 from hal.mono (by omega))
  have HF1 := hid (FrC.below hlt hal)
  have HB01 := hid (hb.trans HB1.out)
  have HBX := hid (show W1.heap[w.heap.size]? = some (.cells #[.int .i64 t.kind, .int .i64 t.mat, .int .i64 t.part, .slice an t.names.length cn, .slice ak t.keys.length ck, .bool t.over, .int .i64 t.limit, .slice at' t.tests.length ct] 40) by rw [hW1]; exact heap_alloc_new w _)
  obtain ⟨x0, x1, x2, x3, x4, x5, x6, x7, _, _, _, _, _, _, _, _⟩ := box8 HBX.out
  rw [hW1] at x0 x1 x2 x3 x4 x5 x6 x7
  have HN := hid (TxtsM.next hN (HB01.out.mono hB))
  have HK := hid (TxtsM.next hK (HB01.out.mono hB))
  have HR := hid hR
  have HFT := hid hF.2
  have HL := hid hlen
  clear hN hK hR hF hW hb hal hW1 hlen
  by_cases k3 : t.kind = 3
  · have c3 : (t.kind == 3) = true := by simp [k3]
    have h1 := fits_not hfit k3
    obtain ⟨x, hx⟩ : ∃ x, t.tests = [x] := List.length_eq_one_iff.1 h1
    obtain ⟨b', o, an', ak', at2, cn', ck', ct', rfl, hb', hTx, y0, y1, y2, y3, y4, y5, y6, y7⟩ := tstO_at HB01.out hB HR.out (i := 0) (x := x) (by rw [hx]; rfl)
    rw [HWE.out] at y0 y1 y2 y3 y4 y5 y6 y7
    have HE := hid (show oTst (n + 1) t acc.length = oTst n x acc.length ++ [flipO] by simp only [oTst]; rw [if_pos k3, hx])
    have hl1 : (testT (n + 1) t).length = (testT n x).length + 1 := by simp only [testT]; rw [if_pos k3, hx]; simp
    have HLx := hid (show acc.length + (testT n x).length + 1 ≤ 1000 by have := HL.out; omega)
    have HTX := hid (hT x an' ak' at2 cn' ck' ct' W0 X b acc W1 HX1.out hB HB01.out hTx (HFT.out x (by rw [hx]; simp)) (by have := HLx.out; omega) HC1.out)
    have hi0 : (0 : Int) < (t.tests.length : Int) := by omega
    simp only [Nat.zero_mul, Nat.add_zero] at y0 y1 y2 y3 y4 y5 y6 y7
    clear hTx h1 hl1 k3 hx
    go_enter Tryz.func141, Tryz.ntmps141
    go_wp2_with fail
    rw [← HWE.out]
    refine HTX.out.mono ?_
    rintro e w2 ⟨⟨v, rfl⟩, hW2, hb2, hf2⟩
    simp only
    have HAD := hid (add_bare X b (acc ++ oTst n x acc.length) 2 w2 hW2 (by have h1 := tst_tok n x acc.length; have := HLx.out; simp only [List.length_append]; omega))
    have HB2 := hid (HB1.out.trans hb2)
    have HF2 := hid (HF1.out.trans hf2)
    clear hW2 hb2 hf2 x0 x1 x2 x3 x4 x5 x6 x7 y0 y1 y2 y3 y4 y5 y6 y7
    go_wp2_with fail
    refine HAD.out.mono ?_
    rintro e w3 ⟨rfl, hW3, hb3, hf3⟩
    simp only
    have HEND := hid (show WrR X w b (acc ++ oTst (n + 1) t acc.length) (.returned (.tuple #[])) w3 from ⟨⟨_, rfl⟩, by rw [HE.out, ← List.append_assoc]; exact hW3, HB2.out.trans hb3, HF2.out.trans hf3⟩)
    clear hW3 hb3 hf3
    go_wp2
    go_end0
    exact HEND.out
  · have c3 : (t.kind == 3) = false := by simp [k3]
    by_cases k4 : t.kind = 4
    · have c4 : (t.kind == 4) = true := by simp [k4]
      have HE := hid (show oTst (n + 1) t acc.length = oTsts (oTst n) 4 t.tests acc.length by simp only [oTst]; rw [if_neg k3, if_pos k4])
      have hl1 : (sepT (testT n) t.tests).length ≤ (testT (n + 1) t).length := by simp only [testT]; rw [if_neg k3, if_pos (.inl k4)]; simp; omega
      have HTX := hid (hTs t.tests at' ct 4 W0 X b acc W1 HX1.out (.inr rfl) (fits_all hfit (.inl k4)) ht3 hB HB01.out HR.out HFT.out (by have := HL.out; omega) HC1.out)
      clear hl1 k3 k4
      go_enter Tryz.func141, Tryz.ntmps141
      go_wp2_with fail
      rw [← HWE.out]
      refine HTX.out.mono ?_
      intro e w2 hR2
      have HEND := hid (show WrR X w b (acc ++ oTst (n + 1) t acc.length) e w2 by rw [HE.out]; exact hR2.after HB1.out HF1.out)
      obtain ⟨⟨v, rfl⟩, _, _, _⟩ := hR2
      simp only
      have HEND2 := hid (show WrR X w b (acc ++ oTst (n + 1) t acc.length) (.returned (.tuple #[])) w2 from ⟨⟨_, rfl⟩, HEND.out.2⟩)
      go_wp2
      go_end0
      exact HEND2.out
    · have c4 : (t.kind == 4) = false := by simp [k4]
      by_cases k5 : t.kind = 5
      · have c5 : (t.kind == 5) = true := by simp [k5]
        have HE := hid (show oTst (n + 1) t acc.length = oTsts (oTst n) 3 t.tests acc.length by simp only [oTst]; rw [if_neg k3, if_neg k4, if_pos k5])
        have hl1 : (sepT (testT n) t.tests).length ≤ (testT (n + 1) t).length := by simp only [testT]; rw [if_neg k3, if_pos (.inr k5)]; simp; omega
        have HTX := hid (hTs t.tests at' ct 3 W0 X b acc W1 HX1.out (.inl rfl) (fits_all hfit (.inr k5)) ht3 hB HB01.out HR.out HFT.out (by have := HL.out; omega) HC1.out)
        clear hl1 k3 k4 k5
        go_enter Tryz.func141, Tryz.ntmps141
        go_wp2_with fail
        rw [← HWE.out]
        refine HTX.out.mono ?_
        intro e w2 hR2
        have HEND := hid (show WrR X w b (acc ++ oTst (n + 1) t acc.length) e w2 by rw [HE.out]; exact hR2.after HB1.out HF1.out)
        obtain ⟨⟨v, rfl⟩, _, _, _⟩ := hR2
        simp only
        have HEND2 := hid (show WrR X w b (acc ++ oTst (n + 1) t acc.length) (.returned (.tuple #[])) w2 from ⟨⟨_, rfl⟩, HEND.out.2⟩)
        go_wp2
        go_end0
        exact HEND2.out
      · have c5 : (t.kind == 5) = false := by simp [k5]
        have HE := hid (show oTst (n + 1) t acc.length = [askO t] by simp only [oTst]; rw [if_neg k3, if_neg k4, if_neg k5])
        have HCP := hid (copyOf_any t an ak at' cn ck ct W1 HN.out HK.out (by omega) (by omega))
        have HL1 := hid (show acc.length ≤ 1000 by have := HL.out; omega)
        clear k3 k4 k5
        go_enter Tryz.func141, Tryz.ntmps141
        go_wp2_with fail
        rw [← HWE.out]
        refine HCP.out.mono ?_
        rintro e w2 ⟨a1, c1, a2, c2, he, hN2, hK2, hb2⟩
        rw [he]
        simp only
        have HAD := hid (addO_any X b acc (askO t) (.int .i64 1) (.int .i64 0) (.int .i64 t.kind) (.int .i64 t.mat) (.int .i64 t.part) (.slice a1 t.names.length c1) (.slice a2 t.keys.length c2) (.bool t.over) (.int .i64 t.limit) (.slice none 0 0) (.int .i64 0) (.slice none 0 0) (.int .i64 0) (.int .i64 0) (.int .i64 0) (.slice none 0 0) (.slice none 0 0) (.bool false) (.int .i64 0) (.slice none 0 0) (.slice none 0 0) (.slice none 0 0) w2 (HC1.out.grow hb2) HL1.out (op_ask HC1.out HX1.out hb2 t hN2 hK2))
        have HB2 := hid (HB1.out.trans (hb2.mono (Nat.le_of_lt HC1.out.lt)))
        have HF2 := hid (HF1.out.trans (FrC.below HC1.out.lt hb2))
        clear he hN2 hK2 hb2 x0 x1 x2 x3 x4 x5 x6 x7
        go_wp2_with fail
        refine HAD.out.mono ?_
        rintro e w3 ⟨rfl, hW3, hb3, hf3⟩
        simp only
        have HEND := hid (show WrR X w b (acc ++ oTst (n + 1) t acc.length) (.returned (.tuple #[])) w3 from ⟨⟨_, rfl⟩, by rw [HE.out]; exact hW3, HB2.out.trans hb3, HF2.out.trans hf3⟩)
        clear hW3 hb3 hf3
        go_wp2
        go_end0
        exact HEND.out
end Go.Proofs.YtlcnfpeabnnjoaaGreatDoor
