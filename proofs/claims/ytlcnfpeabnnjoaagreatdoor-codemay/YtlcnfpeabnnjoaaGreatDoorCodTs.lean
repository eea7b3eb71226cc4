/-
  The ops of a list of tests are written: the walks.
-/
import Derived.Test.YtlcnfpeabnnjoaaGreatDoorCodTe
namespace Go.Proofs.YtlcnfpeabnnjoaaGreatDoor
open Go.RowKit Go.Proofs

theorem sep_snoc {g : Tst → List Tok} {l : List Tst} (hl : l ≠ []) (x : Tst) : (sepT g (l ++ [x])).length = (sepT g l).length + 1 + (g x).length := by
  cases l with
  | nil => exact absurd rfl hl
  | cons y r => simp [sepT, List.flatMap_append]; omega
theorem sep_app {g : Tst → List Tok} (p q : List Tst) : (sepT g p).length ≤ (sepT g (p ++ q)).length := by
  cases p with
  | nil => simp [sepT]
  | cons y r => simp [sepT, List.flatMap_append]
theorem sep_take {g : Tst → List Tok} (l : List Tst) (m : Nat) : (sepT g (l.take m)).length ≤ (sepT g l).length := by
  have := sep_app (g := g) (l.take m) (l.drop m)
  rwa [List.take_append_drop] at this
theorem par_tok {f : Tst → Nat → List Opr} {g : Tst → List Tok} {k : Int} (l : List Tst) (a : Nat) (h : ∀ y ∈ l, ∀ b, (f y b).length ≤ (g y).length) : (parT f k l a).length ≤ (sepT g l).length := by
  cases l with
  | nil => exact Nat.le_refl _
  | cons x r =>
    have h1 := h x (by simp) a
    have h2 := rest_tok (f := f) (g := g) (k := k) 0 r (a + (f x a).length) fun z hz => h z (by simp [hz])
    simp only [parT, sepT, List.length_append]
    omega
/-- A row of numbers of one's own. -/
abbrev OwnNs (B : Nat) : World → Value → List Nat → Prop := OwnRow B 1 3 (fun _ _ x cs => NumM x cs)
theorem firm_num : Firm (fun (_ : Nat → Prop) (_ : World) (x : Nat) cs => NumM x cs) := fun _ _ _ _ _ _ _ _ h => h
theorem own_nums {B : Nat} {Q : Nat → Prop} {w : World} {v : Value} {l : List Nat} (h : OwnNs B w v l) (hm : l.length ≤ maxLen) (hq : ∀ g, v.ownBlock = some g → Q g) : NumsM Q w v l := by
  obtain ⟨a, c, rfl⟩ := OwnRow.any h
  obtain ⟨a', c', hv, h1, h2⟩ := OwnRow.rowM firm_num h hm
  refine ⟨a', c', hv, h1, fun i x hx => ?_⟩
  obtain ⟨b, o, cs, ha, hb, _, hr⟩ := h2 i x hx
  simp only [Value.slice.injEq, true_and] at hv
  obtain ⟨css, o1, _⟩ := h
  refine ⟨b, o, cs, ha, hb, hq b ?_, hr⟩
  rcases o1.2 with ⟨e, hn⟩ | ⟨g, cap, cur, e, _⟩
  · rw [List.length_eq_zero_iff.1 hn] at hx; simp at hx
  · simp only [Value.slice.injEq] at e
    rw [e.1]
    rw [hv.1, ha] at e
    have := congrArg Addr.block (Option.some.inj e.1)
    simp only at this
    rw [← this]; rfl
/-- What a course or a writer does not touch stays one's own. -/
theorem own_frm {B b : Nat} {w w' : World} {v : Value} {l : List Nat} (h : OwnNs B w v l) (hf : FrC b w w') (hB : b < B) (hr : ∀ g, v.ownBlock = some g → some g ≠ rowC w b) : OwnNs B w' v l ∧ ∀ g, v.ownBlock = some g → some g ≠ rowC w' b := by
  obtain ⟨css, o1, o2, o3, o4⟩ := h
  refine ⟨⟨css, ⟨o1.1, ?_⟩, o2, o3, o4⟩, fun g hg => ?_⟩
  · rcases o1.2 with e | ⟨g, cap, cur, e, hb, hg, r⟩
    · exact .inl e
    · exact .inr ⟨g, cap, cur, e, hb, (hf.box hg (by omega) (hr g (by rw [e]; rfl))).1, r⟩
  · have hlt := World.ownsRow.lt o1 g hg
    rcases hf.row with e | ⟨j, e, hj⟩
    · rw [e]; exact hr g hg
    · rw [e]; intro e2; have := Option.some.inj e2; omega
/-- A row of another one's grows: the writer stays. -/
theorem WrC.grown {X : Nat → Prop} {row : Option Nat} {w w' : World} {b g : Nat} {acc : List Opr} (h : WrC (fun p => X p ∨ some p = row) w b acc) (hg : w.grownBy w' row) (hb : some b ≠ row) (hr : ∀ j, row = some j → some j ≠ rowC w b) (hat : row = some g ∨ g = w.heap.size) : WrC (fun p => X p ∨ some p = some g) w' b acc ∧ rowC w' b = rowC w b := by
  obtain ⟨a, k, h1, css, o1, o2, o3, o4⟩ := h
  have hbx : w'.heap[b]? = some (.cells #[.slice a acc.length k] 141) := (hg.block b (Array.getElem?_eq_some_iff.1 h1).1 hb).trans h1
  have hrow := rowC_one h1
  refine ⟨⟨a, k, hbx, css, ⟨o1.1, ?_⟩, o2, o3, fun i x cs hx hcs => ?_⟩, by rw [rowC_one hbx, hrow]⟩
  · rcases o1.2 with e | ⟨j, cap, cur, e, hj, hgj, r⟩
    · exact .inl e
    · refine .inr ⟨j, cap, cur, e, hj, (hg.block j (Array.getElem?_eq_some_iff.1 hgj).1 (fun e2 => hr j e2.symm ?_)).trans hgj, r⟩
      rw [hrow, e]; rfl
  · refine firm_op _ _ _ _ _ _ (fun p hp => ⟨⟨hp.1.1, Nat.lt_of_lt_of_le hp.1.2.1 hg.size, hp.1.2.2⟩, fun hx => ?_⟩) ⟨hg.size, fun p hp hQ => hg.block p hp (fun e => hQ.2 (.inr e))⟩ (o4 i x cs hx hcs)
    rcases hx with hx | hx
    · exact hp.2 (.inl hx)
    · have e := Option.some.inj hx
      rcases hat with h | h
      · exact hp.2 (.inr (by rw [h, e]))
      · have := hp.1.2.1; omega
theorem WrC.weak {X Y : Nat → Prop} {w : World} {b : Nat} {acc : List Opr} (h : WrC Y w b acc) (hXY : ∀ p, X p → Y p) : WrC X w b acc := by
  obtain ⟨a, k, h1, css, o1, o2, o3, o4⟩ := h
  exact ⟨a, k, h1, css, o1, o2, o3, fun i x cs hx hcs => firm_op _ _ _ _ _ _ (fun p hp => ⟨hp.1, fun hx => hp.2 (hXY p hx)⟩) (Keeps.refl _ _) (o4 i x cs hx hcs)⟩
theorem infoNum : (Tryz.prog.info? 3).map (fun i => (i.zero, i.size, i.bytes)) = some (some (.int .i64 0), 1, 8) := by kernel_rfl
/-- Behind some tests. -/
def TsI (n : Nat) (X : Nat → Prop) (k : Int) (l : List Tst) (w : World) (b : Nat) (acc : List Opr) (m : Nat) (pa : Value) (wr : World) : Prop :=
  WrC (fun p => X p ∨ some p = pa.ownBlock) wr b (acc ++ parT (oTst n) k (l.take m) acc.length) ∧ Below b w wr ∧ FrC b w wr ∧ OwnNs w.heap.size wr pa (plT (oTst n) (l.take m) acc.length) ∧ ∀ g, pa.ownBlock = some g → some g ≠ rowC wr b
theorem TsI.lt {n : Nat} {X : Nat → Prop} {k : Int} {l : List Tst} {w : World} {b : Nat} {acc : List Opr} {m : Nat} {pa : Value} {wr : World} (h : TsI n X k l w b acc m pa wr) (hX : ∀ p, X p → p < w.heap.size) : ∀ p, (X p ∨ some p = pa.ownBlock) → p < wr.heap.size := by
  obtain ⟨_, hb, _, ⟨css, o1, _⟩, _⟩ := h
  intro p hp
  rcases hp with hp | hp
  · exact Nat.lt_of_lt_of_le (hX p hp) hb.size
  · exact (World.ownsRow.lt o1 p hp.symm).2
theorem rowC_low {w w' : World} {b : Nat} (h : Below w.heap.size w w') (hb : b < w.heap.size) : rowC w' b = rowC w b := by unfold rowC; rw [h.cell (p := ⟨b, 0, none⟩) hb]
theorem row_lt {X : Nat → Prop} {w : World} {b g : Nat} {acc : List Opr} (h : WrC X w b acc) (hg : rowC w b = some g) : g < w.heap.size := by
  obtain ⟨a, k, h1, css, o1, _⟩ := h
  rw [rowC_one h1] at hg
  exact (World.ownsRow.lt o1 g hg).2
theorem TsI.zero {n : Nat} {X : Nat → Prop} {k : Int} {l : List Tst} {w : World} {b : Nat} {acc : List Opr} (h : WrC X w b acc) : TsI n X k l w b acc 0 (.slice none 0 0) w := by
  refine ⟨?_, Below.refl _ _, FrC.below h.lt (Below.refl _ _), OwnRow.nil w.heap.size 1 3 (fun _ _ x cs => NumM x cs) w, fun g hg => by cases hg⟩
  rw [List.take_zero]
  show WrC _ w b (acc ++ [])
  rw [List.append_nil]
  exact h.weak fun p hp => hp.elim id fun e => by cases e
theorem TsI.first {n : Nat} {X : Nat → Prop} {k : Int} {l : List Tst} {w wr : World} {b : Nat} {acc : List Opr} {m : Nat} {x : Tst} {pa : Value} {w5 : World} (hm : m = 0) (hbw : b < w.heap.size) (hx : l[m]? = some x) (h : TsI n X k l w b acc m pa wr) (h5 : WrC (fun p => X p ∨ some p = pa.ownBlock) w5 b ((acc ++ parT (oTst n) k (l.take m) acc.length) ++ oTst n x (acc ++ parT (oTst n) k (l.take m) acc.length).length)) (hb : Below b wr w5) (hf : FrC b wr w5) : TsI n X k l w b acc (m + 1) pa w5 := by
  obtain ⟨g1, g2, g3, g4, g5⟩ := h
  obtain ⟨q1, q2⟩ := own_frm g4 hf hbw g5
  subst hm
  have ht : l.take (0 + 1) = [x] := by rw [List.take_add_one, hx]; rfl
  refine ⟨?_, g2.trans hb, g3.trans hf, ?_, q2⟩
  · rw [ht]
    have e : acc ++ parT (oTst n) k (l.take 0) acc.length = acc := by simp [parT]
    rw [e] at h5
    simpa [parT, oRest] using h5
  · rw [ht]
    simpa [plT, places] using q1
theorem TsI.next {n : Nat} {X : Nat → Prop} {k : Int} {l : List Tst} {w wr w4 : World} {b : Nat} {acc : List Opr} {m g cap : Nat} {x : Tst} {pa : Value} {w5 : World} (hm : 0 < m) (hml : m < l.length) (hx : l[m]? = some x) (h : TsI n X k l w b acc m pa wr) (h4 : Below b wr w4) (hf4 : FrC b w w4) (hbw : b < w.heap.size)
    (ho : OwnNs w.heap.size w4 (.slice (some ⟨g, 0, none⟩) ((plT (oTst n) (l.take m) acc.length).length + 1) cap) (plT (oTst n) (l.take m) acc.length ++ [(acc ++ parT (oTst n) k (l.take m) acc.length).length])) (hr : some g ≠ rowC w4 b)
    (h5 : WrC (fun p => X p ∨ some p = some g) w5 b (((acc ++ parT (oTst n) k (l.take m) acc.length) ++ [(⟨k, 0, noneT, noneC⟩ : Opr)]) ++ oTst n x ((acc ++ parT (oTst n) k (l.take m) acc.length) ++ [(⟨k, 0, noneT, noneC⟩ : Opr)]).length)) (hb : Below b w4 w5) (hf : FrC b w4 w5) : TsI n X k l w b acc (m + 1) (.slice (some ⟨g, 0, none⟩) (plT (oTst n) (l.take (m + 1)) acc.length).length cap) w5 ∧ (plT (oTst n) (l.take (m + 1)) acc.length).length = (plT (oTst n) (l.take m) acc.length).length + 1 := by
  obtain ⟨g1, g2, g3, g4, g5⟩ := h
  have ht : l.take (m + 1) = l.take m ++ [x] := by rw [List.take_add_one, hx]; rfl
  have hne : l.take m ≠ [] := fun e => by have := congrArg List.length e; rw [List.length_take, List.length_nil] at this; omega
  have hp : plT (oTst n) (l.take (m + 1)) acc.length = plT (oTst n) (l.take m) acc.length ++ [(acc ++ parT (oTst n) k (l.take m) acc.length).length] := by rw [ht, pl_snoc (oTst n) k x hne, List.length_append]
  have hl : (plT (oTst n) (l.take (m + 1)) acc.length).length = (plT (oTst n) (l.take m) acc.length).length + 1 := by rw [hp]; simp
  obtain ⟨q1, q2⟩ := own_frm ho hf hbw (fun j hj => by have := Option.some.inj hj; rw [← this]; exact hr)
  refine ⟨⟨?_, (g2.trans h4).trans hb, hf4.trans hf, ?_, fun j hj => q2 j hj⟩, hl⟩
  · rw [ht, par_snoc (oTst n) k x hne]
    have e : acc ++ (parT (oTst n) k (l.take m) acc.length ++ (jumpO k 0 :: oTst n x (acc.length + (parT (oTst n) k (l.take m) acc.length).length + 1))) = ((acc ++ parT (oTst n) k (l.take m) acc.length) ++ [(⟨k, 0, noneT, noneC⟩ : Opr)]) ++ oTst n x ((acc ++ parT (oTst n) k (l.take m) acc.length) ++ [(⟨k, 0, noneT, noneC⟩ : Opr)]).length := by
      simp only [List.append_assoc, List.length_append, List.length_cons, List.length_nil, Nat.add_assoc]
      rfl
    rw [e]
    exact h5
  · rw [hl, hp]
    exact q1
set_option maxHeartbeats 1000000 in
set_option maxRecDepth 100000 in
theorem tests_step (n : Nat) (hT : TstW n) : TstsW n := by
  intro l a c k W0 X b acc w hX hk hl hl3 hB hb hM hF hlen hW
  have hbw := hW.lt
  have HX := hid hX
  have HM := hid hM
  have HF := hid hF
  have HB := hid hb
  have HL := hid hlen
  have HS := hid (TsI.zero (n := n) (k := k) (l := l) hW)
  have HTT := hid (show ∀ m, (parT (oTst n) k (l.take m) acc.length).length ≤ (sepT (testT n) (l.take m)).length from fun m => par_tok _ _ fun y _ b => tst_tok n y b)
  obtain ⟨i0, hi, hz0, hz1, hz2⟩ := info_parts infoNum
  clear hX hM hF hb hW hlen
  go_enter Tryz.func165, Tryz.ntmps165
  go_wp2
  go_loopw [6, 11] (fun pa i wr => ∃ m : Nat, m ≤ l.length ∧ i = .int .i64 m ∧ (∃ a' c', pa = .slice a' (plT (oTst n) (l.take m) acc.length).length c') ∧ Hid (TsI n X k l w b acc m pa wr)) (fun _ i _ => l.length - (intOf i).toNat)
  case atStart => exact ⟨0, Nat.zero_le _, rfl, ⟨none, 0, rfl⟩, HS⟩
  case round =>
    obtain ⟨m, hm, rfl, ⟨pa, pc, rfl⟩, HI⟩ := hrel
    by_cases hlm : m < l.length
    · have i1 : (m : Int) < (l.length : Int) := by omega
      have i3 : (0 : Int) ≤ (m : Int) := by omega
      obtain ⟨x, hx⟩ : ∃ x, l[m]? = some x := ⟨_, List.getElem?_eq_getElem hlm⟩
      have HXI := hid (HI.out.lt HX.out)
      obtain ⟨g1, g2, g3, g4, g5⟩ := HI.out
      have hbr : Below b W0 wr := HB.out.trans g2
      obtain ⟨b', o, an, ak, at', cn, ck, ct, rfl, hb', hTx, y0, y1, y2, y3, y4, y5, y6, y7⟩ := tstO_at hbr hB HM.out hx
      obtain ⟨W1, hW1⟩ : ∃ W1, W1 = wr.alloc (.cells #[.int .i64 x.kind, .int .i64 x.mat, .int .i64 x.part, .slice an x.names.length cn, .slice ak x.keys.length ck, .bool x.over, .int .i64 x.limit, .slice at' x.tests.length ct] 40) := ⟨_, rfl⟩
      have hal : Below wr.heap.size wr W1 := by rw [hW1]; exact (Below.refl _ _).alloc (Nat.le_refl _) _
      have HWE := hid hW1
      have hltr := g1.lt
      have hws := g2.size
      have HBX := hid (show W1.heap[wr.heap.size]? = some (.cells #[.int .i64 x.kind, .int .i64 x.mat, .int .i64 x.part, .slice an x.names.length cn, .slice ak x.keys.length ck, .bool x.over, .int .i64 x.limit, .slice at' x.tests.length ct] 40) by rw [hW1]; exact heap_alloc_new wr _)
      have HB1 := hid (show Below b wr W1 from hal.mono (by omega))
      have HF1 := hid (FrC.below hltr hal)
      have HC1 := hid (g1.grow hal)
      have HX1 := hid (show ∀ p, (X p ∨ some p = (Value.slice pa (plT (oTst n) (l.take m) acc.length).length pc).ownBlock) → p < W1.heap.size from fun p hp => Nat.lt_of_lt_of_le (HXI.out p hp) hal.size)
      have HTX := hid hTx
      have HFX := hid (HF.out x (List.mem_of_getElem? hx))
      have HXM := hid hx
      have HR1 := hid (rowC_low hal hltr)
      have HG4 := hid (OwnRow.next' firm_num g4 hal)
      have HG5 := hid g5
      have HRL := hid (show ∀ g, rowC wr b = some g → g < wr.heap.size from fun g hg => row_lt g1 hg)
      have hs1 : W1.heap.size = wr.heap.size + 1 := by rw [hW1]; simp
      rcases Nat.eq_zero_or_pos m with h0 | hpos
      · have i4 : ¬ (0 : Int) < (m : Int) := by omega
        have hbd : (acc ++ parT (oTst n) k (l.take m) acc.length).length + (testT n x).length ≤ 1000 := by
          have h1 : l.take (m + 1) = [x] := by rw [List.take_add_one, hx, h0]; rfl
          have h2 := sep_take (g := testT n) l (m + 1)
          rw [h1] at h2
          have h3 : (acc ++ parT (oTst n) k (l.take m) acc.length).length = acc.length := by rw [h0]; simp [parT]
          have := HL.out
          rw [show (sepT (testT n) [x]).length = (testT n x).length by simp [sepT]] at h2
          omega
        have HTST := hid (hT x an ak at' cn ck ct W0 _ b (acc ++ parT (oTst n) k (l.take m) acc.length) W1 HX1.out hB (hbr.trans HB1.out) HTX.out HFX.out hbd HC1.out)
        have HM0 := hid h0
        have hp0 : (plT (oTst n) (l.take (m + 1)) acc.length).length = (plT (oTst n) (l.take m) acc.length).length := by
          rw [show l.take (m + 1) = [x] by rw [List.take_add_one, hx, h0]; rfl, h0]; rfl
        have HP0 := hid hp0
        clear hbd h0 hx hTx g1 g2 g3 g4 g5 hal hbr hW1 hp0
        go_wp2_with fail
        rw [← HWE.out]
        refine HTST.out.mono ?_
        rintro e w5 ⟨⟨v, rfl⟩, hW5, hb5, hf5⟩
        simp only
        have HN := hid (show TsI n X k l w b acc (m + 1) (.slice pa (plT (oTst n) (l.take m) acc.length).length pc) w5 from TsI.first HM0.out hbw HXM.out HI.out hW5 (HB1.out.trans hb5) (HF1.out.trans hf5))
        clear hW5 hb5 hf5 y0 y1 y2 y3 y4 y5 y6 y7
        go_wp2
        go_roundw
        case rel => exact ⟨m + 1, by omega, by go_num, ⟨pa, pc, by rw [HP0.out]⟩, HN⟩
        case measure => simp [intOf]; omega
      · have i4 : (0 : Int) < (m : Int) := by omega
        have hbd : (acc ++ parT (oTst n) k (l.take m) acc.length).length + 1 + (testT n x).length ≤ 1000 := by
          have hne : l.take m ≠ [] := fun e => by have := congrArg List.length e; rw [List.length_take, List.length_nil] at this; omega
          have h1 : l.take (m + 1) = l.take m ++ [x] := by rw [List.take_add_one, hx]; rfl
          have h2 := sep_take (g := testT n) l (m + 1)
          rw [h1, sep_snoc hne] at h2
          have h3 := HTT.out m
          have := HL.out
          simp only [List.length_append]
          omega
        obtain ⟨A, hA⟩ : ∃ A, A = acc ++ parT (oTst n) k (l.take m) acc.length := ⟨_, rfl⟩
        have HA := hid hA
        rw [← hA] at hbd HC1
        have HAD := hid (add_bare _ b A k W1 HC1.out (by omega))
        have HBD := hid hbd
        clear hA hbd hx hTx g1 g2 g3 g4 g5 hal hW1
        go_wp2_with fail
        rw [← HWE.out]
        refine HAD.out.mono ?_
        rintro e w2 ⟨rfl, hW2, hb2, hf2⟩
        simp only
        obtain ⟨q1, q2⟩ := own_frm HG4.out hf2 hbw (fun g hg => by rw [HR1.out]; exact HG5.out g hg)
        have hBX2 := (hf2.box HBX.out (by omega) (fun e => by rw [HR1.out] at e; have := HRL.out _ e.symm; omega)).1
        have hpaLt : ∀ j, (Value.slice pa (plT (oTst n) (l.take m) acc.length).length pc).ownBlock = some j → w.heap.size ≤ j ∧ j < wr.heap.size := fun j hj => by
          obtain ⟨css, o1, _⟩ := HG4.out
          have h1 := (World.ownsRow.lt o1 j hj).1
          have h2 := HXI.out j (.inr hj.symm)
          exact ⟨h1, h2⟩
        obtain ⟨W3, hW3⟩ : ∃ W3, W3 = w2.alloc (.cells #[.int .i64 (A.length : Int)] 3) := ⟨_, rfl⟩
        have HWE3 := hid hW3
        have hal3 : Below w2.heap.size w2 W3 := by rw [hW3]; exact (Below.refl _ _).alloc (Nat.le_refl _) _
        have hs3 : W3.heap.size = w2.heap.size + 1 := by rw [hW3]; simp
        have hb2s := hb2.size
        have hlt2 := hW2.lt
        have HC3 := hid (hW2.grow hal3)
        have HRW3 := hid (rowC_low hal3 hlt2)
        have HQ2 := hid q2
        have HF3 := hid (((HI.out.2.2.1.trans HF1.out).trans hf2).trans (FrC.below hlt2 hal3))
        have HB3 := hid ((HB1.out.trans hb2).trans (hal3.mono (by omega)))
        have HBX3 := hid (gm_low hal3 hBX2)
        have HPL := hid hpaLt
        obtain ⟨css, o1, o2, o3, o4⟩ := OwnRow.next' firm_num q1 hal3
        have HO1 := hid o1
        have HO3 := hid o3
        have HO4 := hid o4
        have HCL := hid (show ∀ j u, [Value.int .i64 (A.length : Int)][j]? = some u → W3.cell? ((⟨w2.heap.size, 0, none⟩ : Addr).add j) = some u by rw [hW3]; exact eight w2 [.int .i64 (A.length : Int)] 3)
        have hps : (plT (oTst n) (l.take m) acc.length).length ≤ 3 := by have := pl_short (oTst n) (l.take m) acc.length; rw [List.length_take] at this; omega
        clear hW2 hb2 hf2 q1 q2 hBX2 hpaLt hal3 hW3 o1 o3 o4 y0 y1 y2 y3 y4 y5 y6 y7
        go_wp2_with (at_builtin; refine wpList_append_lies _ rfl _ _ 63 rfl w.heap.size 3 i0 _ 1 8 Tryz.underlying63 hi hz0 hz1 hz2 rfl (by decide) (.slice pa (plT (oTst n) (l.take m) acc.length).length pc) (plT (oTst n) (l.take m) acc.length).length css.flatten rfl ?k1 ⟨w2.heap.size, 0, none⟩ 1 1 [.int .i64 (A.length : Int)] rfl rfl ?k2 ?k3 (by decide) ?k4 ?k5 ?k6 _ rfl ?_)
        case k1 => rw [← HWE3.out]; exact HO1.out
        case k3 => first | rfl | simp [Value.oneCell']
        case k4 => unfold maxLen; omega
        case k5 => omega
        case k6 => omega
        rw [← HWE3.out]
        intro g cap w4 hown4 hgrow4 hat4 hlt4
        rw [← hs3] at hat4
        have hgs4 := hgrow4.size
        obtain ⟨r1, r2⟩ := HC3.out.grown hgrow4 (fun e => by have := (HPL.out b e.symm).1; omega) (fun j hj => by rw [HRW3.out]; exact HQ2.out j hj) hat4
        have HC4 := hid r1
        have HON4 := hid (show OwnNs w.heap.size w4 (.slice (some ⟨g, 0, none⟩) ((plT (oTst n) (l.take m) acc.length).length + 1) cap) (plT (oTst n) (l.take m) acc.length ++ [A.length]) from OwnRow.more firm_num (H := W3.heap.size) o2 HO3.out HO4.out rfl rfl hown4 hgrow4 (by
          rcases hat4 with e | e
          · exact .inl e.symm
          · exact .inr (by rw [e]; rfl)) (Nat.le_refl _))
        have HRG4 := hid (show some g ≠ rowC w4 b from fun e => by
          rw [r2] at e
          rcases hat4 with h | h
          · exact HQ2.out g h (by rw [← HRW3.out]; exact e)
          · have := row_lt HC3.out e.symm; omega)
        have HB4 := hid (show Below b wr w4 from HB3.out.grown hgrow4 (by omega) (fun j hj => by have := (HPL.out j hj).1; omega))
        have HF4 := hid (show FrC b w w4 from ⟨Nat.le_trans HF3.out.size hgs4, fun p hp hpb hpr => (hgrow4.block p (Nat.lt_of_lt_of_le hp HF3.out.size) (fun e => by have := (HPL.out p e.symm).1; omega)).trans (HF3.out.keep p hp hpb hpr), by rw [r2]; exact HF3.out.row⟩)
        have HBX4 := hid ((hgrow4.block wr.heap.size (by omega) (fun e => by have := (HPL.out _ e.symm).2; omega)).trans HBX3.out)
        have HX4 := hid (show ∀ p, (X p ∨ some p = some g) → p < w4.heap.size from fun p hp => by
          rcases hp with hp | hp
          · have h1 := HXI.out p (.inl hp); omega
          · have := Option.some.inj hp; omega)
        have HTST := hid (hT x an ak at' cn ck ct W0 _ b (A ++ [⟨k, 0, noneT, noneC⟩]) w4 HX4.out hB (hbr.trans HB4.out) HTX.out HFX.out (by have := HBD.out; simp only [List.length_append, List.length_cons, List.length_nil]; omega) HC4.out)
        obtain ⟨z0, z1, z2, z3, z4, z5, z6, z7, _, _, _, _, _, _, _, _⟩ := box8 HBX4.out
        clear hown4 hgrow4 hat4 r1 r2
        go_wp2_with fail
        refine HTST.out.mono ?_
        rintro e w5 ⟨⟨v, rfl⟩, hW5, hb5, hf5⟩
        simp only
        have HN := hid (TsI.next (cap := cap) hpos hlm HXM.out HI.out HB4.out HF4.out hbw (by rw [← HA.out]; exact HON4.out) HRG4.out (by rw [← HA.out]; exact hW5) hb5 hf5)
        clear hW5 hb5 hf5 z0 z1 z2 z3 z4 z5 z6 z7
        go_wp2
        go_roundw
        case rel => exact ⟨m + 1, by omega, by go_num, ⟨some ⟨g, 0, none⟩, cap, by rw [HN.out.2]⟩, by rw [← HN.out.2]; exact hid HN.out.1⟩
        case measure => simp [intOf]; omega
    · have i1 : ¬ (m : Int) < (l.length : Int) := by omega
      obtain rfl : m = l.length := by omega
      obtain ⟨g1, g2, g3, g4, g5⟩ := HI.out
      rw [List.take_length] at g1 g4
      have hps : (plT (oTst n) l acc.length).length ≤ 3 := by have := pl_short (oTst n) l acc.length; omega
      have HSN := hid (sends_any _ b (acc ++ parT (oTst n) k l acc.length) (plT (oTst n) l acc.length) pa pc wr g1 (by have h1 := HTT.out l.length; rw [List.take_length] at h1; have := HL.out; simp only [List.length_append]; omega) (by omega) (pl_lt (oTst n) k l acc) (own_nums (by simpa using g4) (by unfold maxLen; omega) (fun g hg => ⟨fun e => by
        obtain ⟨css, o1, _⟩ := g4
        have := (World.ownsRow.lt o1 g (by simpa using hg)).1
        omega, g5 g (by simpa using hg)⟩)))
      rw [patch_all] at HSN
      have HG2 := hid g2
      have HG3 := hid g3
      rw [List.take_length]
      clear g1 g2 g3 g4 g5
      go_wp2_with fail
      refine HSN.out.mono ?_
      intro e w6 hR6
      have HEND := hid (show WrR X w b (acc ++ oTsts (oTst n) k l acc.length) (.returned (.tuple #[])) w6 from ⟨⟨_, rfl⟩, hR6.2.1.weak (fun p hp => .inl hp), HG2.out.trans hR6.2.2.1, HG3.out.trans hR6.2.2.2⟩)
      obtain ⟨⟨v, rfl⟩, _, _, _⟩ := hR6
      simp only
      go_wp2
      go_end0
      exact HEND.out
end Go.Proofs.YtlcnfpeabnnjoaaGreatDoor
