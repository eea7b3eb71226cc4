/-
  The ops of a list of tests are written: the walks.
  The ops of commands are written: the walks.
  Raw scripts in memory: rows within rows; how an argument that is a slice of them is read.
-/
import Derived.Test.YtaapmpchcfcniaaGreatDoorYQAppCmd6
import Derived.Test.YtaapmpchcfcniaaGreatDoorYQPure2
import Derived.Test.YtaapmpchcfcniaaGreatDoorYQJudCrs5
import Derived.Test.YtaapmpchcfcniaaGreatDoorRows
import Derived.Deep.SlicePairs
import Derived.Lib.SmallJoins
import Derived.ChangeArms
import Derived.ProofKit
import Derived.OpenShut
namespace Go.Proofs.YtaapmpchcfcniaaGreatDoor
open Go.RowKit Go.Proofs
theorem jj7 {g : Tst → List Tok} {l : List Tst} (hl : l ≠ []) (x : Tst) : (sepT g (l ++ [x])).length = (sepT g l).length + 1 + (g x).length := by
  cases l with
  | nil => exact absurd rfl hl
  | cons y r => simp [sepT, List.flatMap_append]; omega
theorem jlJ {g : Tst → List Tok} (p q : List Tst) : (sepT g p).length ≤ (sepT g (p ++ q)).length := by
  cases p with
  | nil => simp [sepT]
  | cons y r => simp [sepT, List.flatMap_append]
theorem jfh {g : Tst → List Tok} (l : List Tst) (m : Nat) : (sepT g (l.take m)).length ≤ (sepT g l).length := by
  have := jlJ (g := g) (l.take m) (l.drop m)
  rwa [List.take_append_drop] at this
theorem jlD {f : Tst → Nat → List Opr} {g : Tst → List Tok} {k : Int} (l : List Tst) (a : Nat) (h : ∀ y ∈ l, ∀ b, (f y b).length ≤ (g y).length) : (parT f k l a).length ≤ (sepT g l).length := by
  cases l with
  | nil => exact Nat.le_refl _
  | cons x r =>
    have h1 := h x (by simp) a; have h2 := jfe (f := f) (g := g) (k := k) 0 r (a + (f x a).length) fun z hz => h z (by simp [hz])
    simp only [parT, sepT, List.length_append]; omega
abbrev OwnNs (B : Nat) : World → Value → List Nat → Prop := OwnRow B 1 3 (fun _ _ x cs => NumM x cs)
theorem jbf : Firm (fun (_ : Nat → Prop) (_ : World) (x : Nat) cs => NumM x cs) := fun _ _ _ _ _ _ _ _ h => h
theorem jjO {B : Nat} {Q : Nat → Prop} {w : World} {v : Value} {l : List Nat} (h : OwnNs B w v l) (hm : l.length ≤ maxLen) (hq : ∀ g, v.ownBlock = some g → Q g) : NumsM Q w v l := by
  obtain ⟨a, c, rfl⟩ := OwnRow.any h; obtain ⟨a', c', hv, h1, h2⟩ := OwnRow.rowM jbf h hm; refine ⟨a', c', hv, h1, fun i x hx => ?_⟩; obtain ⟨b, o, cs, ha, hb, _, hr⟩ := h2 i x hx; simp only [Value.slice.injEq, true_and] at hv; obtain ⟨css, o1, _⟩ := h; refine ⟨b, o, cs, ha, hb, hq b ?_, hr⟩
  rcases o1.2 with ⟨e, hn⟩ | ⟨g, cap, cur, e, _⟩
  · rw [List.length_eq_zero_iff.1 hn] at hx; simp at hx
  · simp only [Value.slice.injEq] at e; rw [e.1]; rw [hv.1, ha] at e; have := congrArg Addr.block (Option.some.inj e.1); simp only at this; rw [← this]; rfl
theorem jeu {B b : Nat} {w w' : World} {v : Value} {l : List Nat} (h : OwnNs B w v l) (hf : FrC b w w') (hB : b < B) (hr : ∀ g, v.ownBlock = some g → some g ≠ rowC w b) : OwnNs B w' v l ∧ ∀ g, v.ownBlock = some g → some g ≠ rowC w' b := by
  obtain ⟨css, o1, o2, o3, o4⟩ := h; refine ⟨⟨css, ⟨o1.1, ?_⟩, o2, o3, o4⟩, fun g hg => ?_⟩
  · rcases o1.2 with e | ⟨g, cap, cur, e, hb, hg, r⟩
    · exact .inl e
    · exact .inr ⟨g, cap, cur, e, hb, (hf.box hg (by omega) (hr g (by rw [e]; rfl))).1, r⟩
  · have hlt := World.ownsRow.lt o1 g hg
    rcases hf.row with e | ⟨j, e, hj⟩
    · rw [e]; exact hr g hg
    · rw [e]; intro e2; have := Option.some.inj e2; omega
theorem WrC.grown {X : Nat → Prop} {row : Option Nat} {w w' : World} {b g : Nat} {acc : List Opr} (h : WrC (fun p => X p ∨ some p = row) w b acc) (hg : w.grownBy w' row) (hb : some b ≠ row) (hr : ∀ j, row = some j → some j ≠ rowC w b) (hat : row = some g ∨ g = w.heap.size) : WrC (fun p => X p ∨ some p = some g) w' b acc ∧ rowC w' b = rowC w b := by
  obtain ⟨a, k, h1, css, o1, o2, o3, o4⟩ := h; have hbx : w'.heap[b]? = some (.cells #[.slice a acc.length k] 113) := (hg.block b (Array.getElem?_eq_some_iff.1 h1).1 hb).trans h1; have hrow := zD h1; refine ⟨⟨a, k, hbx, css, ⟨o1.1, ?_⟩, o2, o3, fun i x cs hx hcs => ?_⟩, by rw [zD hbx, hrow]⟩
  · rcases o1.2 with e | ⟨j, cap, cur, e, hj, hgj, r⟩
    · exact .inl e
    · refine .inr ⟨j, cap, cur, e, hj, (hg.block j (Array.getElem?_eq_some_iff.1 hgj).1 (fun e2 => hr j e2.symm ?_)).trans hgj, r⟩; rw [hrow, e]; rfl
  · refine qD _ _ _ _ _ _ (fun p hp => ⟨⟨hp.1.1, Nat.lt_of_lt_of_le hp.1.2.1 hg.size, hp.1.2.2⟩, fun hx => ?_⟩) ⟨hg.size, fun p hp hQ => hg.block p hp (fun e => hQ.2 (.inr e))⟩ (o4 i x cs hx hcs)
    rcases hx with hx | hx
    · exact hp.2 (.inl hx)
    · have e := Option.some.inj hx
      rcases hat with h | h
      · exact hp.2 (.inr (by rw [h, e]))
      · have := hp.1.2.1; omega
theorem WrC.weak {X Y : Nat → Prop} {w : World} {b : Nat} {acc : List Opr} (h : WrC Y w b acc) (hXY : ∀ p, X p → Y p) : WrC X w b acc := by
  obtain ⟨a, k, h1, css, o1, o2, o3, o4⟩ := h; exact ⟨a, k, h1, css, o1, o2, o3, fun i x cs hx hcs => qD _ _ _ _ _ _ (fun p hp => ⟨hp.1, fun hx => hp.2 (hXY p hx)⟩) (Keeps.refl _ _) (o4 i x cs hx hcs)⟩
theorem jlh : (Tryz.prog.info? 3).map (fun i => (i.zero, i.size, i.bytes)) = some (some (.int .i64 0), 1, 8) := by kernel_rfl
def TsI (n : Nat) (X : Nat → Prop) (k : Int) (l : List Tst) (w : World) (b : Nat) (acc : List Opr) (m : Nat) (pa : Value) (wr : World) : Prop :=
  WrC (fun p => X p ∨ some p = pa.ownBlock) wr b (acc ++ parT (oTst n) k (l.take m) acc.length) ∧ Below b w wr ∧ FrC b w wr ∧ OwnNs w.heap.size wr pa (plT (oTst n) (l.take m) acc.length) ∧ ∀ g, pa.ownBlock = some g → some g ≠ rowC wr b
theorem TsI.lt {n : Nat} {X : Nat → Prop} {k : Int} {l : List Tst} {w : World} {b : Nat} {acc : List Opr} {m : Nat} {pa : Value} {wr : World} (h : TsI n X k l w b acc m pa wr) (hX : ∀ p, X p → p < w.heap.size) : ∀ p, (X p ∨ some p = pa.ownBlock) → p < wr.heap.size := by
  obtain ⟨_, hb, _, ⟨css, o1, _⟩, _⟩ := h; intro p hp
  rcases hp with hp | hp
  · exact Nat.lt_of_lt_of_le (hX p hp) hb.size
  · exact (World.ownsRow.lt o1 p hp.symm).2
theorem vP {w w' : World} {b : Nat} (h : Below w.heap.size w w') (hb : b < w.heap.size) : rowC w' b = rowC w b := by unfold rowC; rw [h.cell (p := ⟨b, 0, none⟩) hb]
theorem jdM {X : Nat → Prop} {w : World} {b g : Nat} {acc : List Opr} (h : WrC X w b acc) (hg : rowC w b = some g) : g < w.heap.size := by
  obtain ⟨a, k, h1, css, o1, _⟩ := h; rw [zD h1] at hg; exact (World.ownsRow.lt o1 g hg).2
theorem TsI.zero {n : Nat} {X : Nat → Prop} {k : Int} {l : List Tst} {w : World} {b : Nat} {acc : List Opr} (h : WrC X w b acc) : TsI n X k l w b acc 0 (.slice none 0 0) w := by
  refine ⟨?_, Below.refl _ _, FrC.below h.lt (Below.refl _ _), OwnRow.nil w.heap.size 1 3 (fun _ _ x cs => NumM x cs) w, fun g hg => by cases hg⟩; rw [List.take_zero]
  show WrC _ w b (acc ++ [])
  rw [List.append_nil]; exact h.weak fun p hp => hp.elim id fun e => by cases e
theorem TsI.first {n : Nat} {X : Nat → Prop} {k : Int} {l : List Tst} {w wr : World} {b : Nat} {acc : List Opr} {m : Nat} {x : Tst} {pa : Value} {w5 : World} (hm : m = 0) (hbw : b < w.heap.size) (hx : l[m]? = some x) (h : TsI n X k l w b acc m pa wr) (h5 : WrC (fun p => X p ∨ some p = pa.ownBlock) w5 b ((acc ++ parT (oTst n) k (l.take m) acc.length) ++ oTst n x (acc ++ parT (oTst n) k (l.take m) acc.length).length)) (hb : Below b wr w5) (hf : FrC b wr w5) : TsI n X k l w b acc (m + 1) pa w5 := by
  obtain ⟨g1, g2, g3, g4, g5⟩ := h; obtain ⟨q1, q2⟩ := jeu g4 hf hbw g5; subst hm; have ht : l.take (0 + 1) = [x] := by rw [List.take_add_one, hx]; rfl
  refine ⟨?_, g2.trans hb, g3.trans hf, ?_, q2⟩
  · rw [ht]; have e : acc ++ parT (oTst n) k (l.take 0) acc.length = acc := by simp [parT]
    rw [e] at h5
    simpa [parT, zt] using h5
  · rw [ht]
    simpa [plT, places] using q1
theorem TsI.next {n : Nat} {X : Nat → Prop} {k : Int} {l : List Tst} {w wr w4 : World} {b : Nat} {acc : List Opr} {m g cap : Nat} {x : Tst} {pa : Value} {w5 : World} (hm : 0 < m) (hml : m < l.length) (hx : l[m]? = some x) (h : TsI n X k l w b acc m pa wr) (h4 : Below b wr w4) (hf4 : FrC b w w4) (hbw : b < w.heap.size)
    (ho : OwnNs w.heap.size w4 (.slice (some ⟨g, 0, none⟩) ((plT (oTst n) (l.take m) acc.length).length + 1) cap) (plT (oTst n) (l.take m) acc.length ++ [(acc ++ parT (oTst n) k (l.take m) acc.length).length])) (hr : some g ≠ rowC w4 b)
    (h5 : WrC (fun p => X p ∨ some p = some g) w5 b (((acc ++ parT (oTst n) k (l.take m) acc.length) ++ [(⟨k, 0, zd, zY⟩ : Opr)]) ++ oTst n x ((acc ++ parT (oTst n) k (l.take m) acc.length) ++ [(⟨k, 0, zd, zY⟩ : Opr)]).length)) (hb : Below b w4 w5) (hf : FrC b w4 w5) : TsI n X k l w b acc (m + 1) (.slice (some ⟨g, 0, none⟩) (plT (oTst n) (l.take (m + 1)) acc.length).length cap) w5 ∧ (plT (oTst n) (l.take (m + 1)) acc.length).length = (plT (oTst n) (l.take m) acc.length).length + 1 := by
  obtain ⟨g1, g2, g3, g4, g5⟩ := h; have ht : l.take (m + 1) = l.take m ++ [x] := by rw [List.take_add_one, hx]; rfl
  have hne : l.take m ≠ [] := fun e => by have := congrArg List.length e; rw [List.length_take, List.length_nil] at this; omega
  have hp : plT (oTst n) (l.take (m + 1)) acc.length = plT (oTst n) (l.take m) acc.length ++ [(acc ++ parT (oTst n) k (l.take m) acc.length).length] := by rw [ht, jlE (oTst n) k x hne, List.length_append]
  have hl : (plT (oTst n) (l.take (m + 1)) acc.length).length = (plT (oTst n) (l.take m) acc.length).length + 1 := by rw [hp]; simp
  obtain ⟨q1, q2⟩ := jeu ho hf hbw (fun j hj => by have := Option.some.inj hj; rw [← this]; exact hr); refine ⟨⟨?_, (g2.trans h4).trans hb, hf4.trans hf, ?_, fun j hj => q2 j hj⟩, hl⟩
  · rw [ht, jjR (oTst n) k x hne]; have e : acc ++ (parT (oTst n) k (l.take m) acc.length ++ (zk k 0 :: oTst n x (acc.length + (parT (oTst n) k (l.take m) acc.length).length + 1))) = ((acc ++ parT (oTst n) k (l.take m) acc.length) ++ [(⟨k, 0, zd, zY⟩ : Opr)]) ++ oTst n x ((acc ++ parT (oTst n) k (l.take m) acc.length) ++ [(⟨k, 0, zd, zY⟩ : Opr)]).length := by
      simp only [List.append_assoc, List.length_append, List.length_cons, List.length_nil, Nat.add_assoc]; rfl
    rw [e]; exact h5
  · rw [hl, hp]; exact q1
set_option maxHeartbeats 1000000 in
set_option maxRecDepth 100000 in
theorem jcB (n : Nat) (hT : TstW n) : jkQ n := by
  intro l a c k W0 X b acc w hX hk hl hl3 hB hb hM hF hlen hW; have hbw := hW.lt; have HX := hid hX; have HM := hid hM; have HF := hid hF; have HB := hid hb; have HL := hid hlen; have HS := hid (TsI.zero (n := n) (k := k) (l := l) hW); have HTT := hid (show ∀ m, (parT (oTst n) k (l.take m) acc.length).length ≤ (sepT (jD n) (l.take m)).length from fun m => jlD _ _ fun y _ b => jc7 n y b); obtain ⟨i0, hi, hz0, hz1, hz2⟩ := info_parts jlh; clear hX hM hF hb hW hlen; go_enter Tryz.func153, Tryz.ntmps153; go_wp2
  go_loopw [6, 11] (fun pa i wr => ∃ m : Nat, m ≤ l.length ∧ i = .int .i64 m ∧ (∃ a' c', pa = .slice a' (plT (oTst n) (l.take m) acc.length).length c') ∧ Hid (TsI n X k l w b acc m pa wr)) (fun _ i _ => l.length - (intOf i).toNat)
  case atStart => exact ⟨0, Nat.zero_le _, rfl, ⟨none, 0, rfl⟩, HS⟩
  case round =>
    obtain ⟨m, hm, rfl, ⟨pa, pc, rfl⟩, HI⟩ := hrel
    by_cases hlm : m < l.length
    · have i1 : (m : Int) < (l.length : Int) := by omega
      have i3 : (0 : Int) ≤ (m : Int) := by omega
      obtain ⟨x, hx⟩ : ∃ x, l[m]? = some x := ⟨_, List.getElem?_eq_getElem hlm⟩; have HXI := hid (HI.out.lt HX.out); obtain ⟨g1, g2, g3, g4, g5⟩ := HI.out; have hbr : Below b W0 wr := HB.out.trans g2; obtain ⟨b', o, an, ak, at', cn, ck, ct, rfl, hb', hTx, y0, y1, y2, y3, y4, y5, y6, y7⟩ := jiH hbr hB HM.out hx; obtain ⟨W1, hW1⟩ : ∃ W1, W1 = wr.alloc (.cells #[.int .i64 x.kind, .int .i64 x.mat, .int .i64 x.part, .slice an x.names.length cn, .slice ak x.keys.length ck, .bool x.over, .int .i64 x.limit, .slice at' x.tests.length ct] 54) := ⟨_, rfl⟩; have hal : Below wr.heap.size wr W1 := by rw [hW1]; exact (Below.refl _ _).alloc (Nat.le_refl _) _
      have HWE := hid hW1; have hltr := g1.lt; have hws := g2.size; have HBX := hid (show W1.heap[wr.heap.size]? = some (.cells #[.int .i64 x.kind, .int .i64 x.mat, .int .i64 x.part, .slice an x.names.length cn, .slice ak x.keys.length ck, .bool x.over, .int .i64 x.limit, .slice at' x.tests.length ct] 54) by rw [hW1]; exact heap_alloc_new wr _); have HB1 := hid (show Below b wr W1 from hal.mono (by omega)); have HF1 := hid (FrC.below hltr hal); have HC1 := hid (g1.grow hal); have HX1 := hid (show ∀ p, (X p ∨ some p = (Value.slice pa (plT (oTst n) (l.take m) acc.length).length pc).ownBlock) → p < W1.heap.size from fun p hp => Nat.lt_of_lt_of_le (HXI.out p hp) hal.size); have HTX := hid hTx; have HFX := hid (HF.out x (List.mem_of_getElem? hx)); have HXM := hid hx; have HR1 := hid (vP hal hltr); have HG4 := hid (OwnRow.next' jbf g4 hal); have HG5 := hid g5; have HRL := hid (show ∀ g, rowC wr b = some g → g < wr.heap.size from fun g hg => jdM g1 hg); have hs1 : W1.heap.size = wr.heap.size + 1 := by rw [hW1]; simp
      rcases Nat.eq_zero_or_pos m with h0 | hpos
      · have i4 : ¬ (0 : Int) < (m : Int) := by omega
        have hbd : (acc ++ parT (oTst n) k (l.take m) acc.length).length + (jD n x).length ≤ 1000 := by
          have h1 : l.take (m + 1) = [x] := by rw [List.take_add_one, hx, h0]; rfl
          have h2 := jfh (g := jD n) l (m + 1); rw [h1] at h2; have h3 : (acc ++ parT (oTst n) k (l.take m) acc.length).length = acc.length := by rw [h0]; simp [parT]
          have := HL.out; rw [show (sepT (jD n) [x]).length = (jD n x).length by simp [sepT]] at h2; omega
        have HTST := hid (hT x an ak at' cn ck ct W0 _ b (acc ++ parT (oTst n) k (l.take m) acc.length) W1 HX1.out hB (hbr.trans HB1.out) HTX.out HFX.out hbd HC1.out); have HM0 := hid h0; have hp0 : (plT (oTst n) (l.take (m + 1)) acc.length).length = (plT (oTst n) (l.take m) acc.length).length := by
          rw [show l.take (m + 1) = [x] by rw [List.take_add_one, hx, h0]; rfl, h0]; rfl
        have HP0 := hid hp0; clear hbd h0 hx hTx g1 g2 g3 g4 g5 hal hbr hW1 hp0; go_wp2_with fail; rw [← HWE.out]; refine HTST.out.mono ?_; rintro e w5 ⟨⟨v, rfl⟩, hW5, hb5, hf5⟩; simp only; have HN := hid (show TsI n X k l w b acc (m + 1) (.slice pa (plT (oTst n) (l.take m) acc.length).length pc) w5 from TsI.first HM0.out hbw HXM.out HI.out hW5 (HB1.out.trans hb5) (HF1.out.trans hf5)); clear hW5 hb5 hf5 y0 y1 y2 y3 y4 y5 y6 y7; go_wp2
        go_roundw
        case rel => exact ⟨m + 1, by omega, by go_num, ⟨pa, pc, by rw [HP0.out]⟩, HN⟩
        case measure => simp [intOf]; omega
      · have i4 : (0 : Int) < (m : Int) := by omega
        have hbd : (acc ++ parT (oTst n) k (l.take m) acc.length).length + 1 + (jD n x).length ≤ 1000 := by
          have hne : l.take m ≠ [] := fun e => by have := congrArg List.length e; rw [List.length_take, List.length_nil] at this; omega
          have h1 : l.take (m + 1) = l.take m ++ [x] := by rw [List.take_add_one, hx]; rfl
          have h2 := jfh (g := jD n) l (m + 1); rw [h1, jj7 hne] at h2; have h3 := HTT.out m; have := HL.out; simp only [List.length_append]; omega
        obtain ⟨A, hA⟩ : ∃ A, A = acc ++ parT (oTst n) k (l.take m) acc.length := ⟨_, rfl⟩; have HA := hid hA; rw [← hA] at hbd HC1; have HAD := hid (jbb _ b A k W1 HC1.out (by omega)); have HBD := hid hbd; clear hA hbd hx hTx g1 g2 g3 g4 g5 hal hW1; go_wp2_with fail; rw [← HWE.out]; refine HAD.out.mono ?_; rintro e w2 ⟨rfl, hW2, hb2, hf2⟩; simp only; obtain ⟨q1, q2⟩ := jeu HG4.out hf2 hbw (fun g hg => by rw [HR1.out]; exact HG5.out g hg); have hBX2 := (hf2.box HBX.out (by omega) (fun e => by rw [HR1.out] at e; have := HRL.out _ e.symm; omega)).1; have hpaLt : ∀ j, (Value.slice pa (plT (oTst n) (l.take m) acc.length).length pc).ownBlock = some j → w.heap.size ≤ j ∧ j < wr.heap.size := fun j hj => by
          obtain ⟨css, o1, _⟩ := HG4.out; have h1 := (World.ownsRow.lt o1 j hj).1; have h2 := HXI.out j (.inr hj.symm); exact ⟨h1, h2⟩
        obtain ⟨W3, hW3⟩ : ∃ W3, W3 = w2.alloc (.cells #[.int .i64 (A.length : Int)] 3) := ⟨_, rfl⟩; have HWE3 := hid hW3; have hal3 : Below w2.heap.size w2 W3 := by rw [hW3]; exact (Below.refl _ _).alloc (Nat.le_refl _) _
        have hs3 : W3.heap.size = w2.heap.size + 1 := by rw [hW3]; simp
        have hb2s := hb2.size; have hlt2 := hW2.lt; have HC3 := hid (hW2.grow hal3); have HRW3 := hid (vP hal3 hlt2); have HQ2 := hid q2; have HF3 := hid (((HI.out.2.2.1.trans HF1.out).trans hf2).trans (FrC.below hlt2 hal3)); have HB3 := hid ((HB1.out.trans hb2).trans (hal3.mono (by omega))); have HBX3 := hid (jL hal3 hBX2); have HPL := hid hpaLt; obtain ⟨css, o1, o2, o3, o4⟩ := OwnRow.next' jbf q1 hal3; have HO1 := hid o1; have HO3 := hid o3; have HO4 := hid o4; have HCL := hid (show ∀ j u, [Value.int .i64 (A.length : Int)][j]? = some u → W3.cell? ((⟨w2.heap.size, 0, none⟩ : Addr).add j) = some u by rw [hW3]; exact jmf w2 [.int .i64 (A.length : Int)] 3); have hps : (plT (oTst n) (l.take m) acc.length).length ≤ 3 := by have := jfc (oTst n) (l.take m) acc.length; rw [List.length_take] at this; omega
        clear hW2 hb2 hf2 q1 q2 hBX2 hpaLt hal3 hW3 o1 o3 o4 y0 y1 y2 y3 y4 y5 y6 y7
        go_wp2_with (at_builtin; refine wpList_append_lies _ rfl _ _ 137 rfl w.heap.size 3 i0 _ 1 8 Tryz.underlying137 hi hz0 hz1 hz2 rfl (by decide) (.slice pa (plT (oTst n) (l.take m) acc.length).length pc) (plT (oTst n) (l.take m) acc.length).length css.flatten rfl ?k1 ⟨w2.heap.size, 0, none⟩ 1 1 [.int .i64 (A.length : Int)] rfl rfl ?k2 ?k3 (by decide) ?k4 ?k5 ?k6 _ rfl ?_)
        case k1 => rw [← HWE3.out]; exact HO1.out
        case k3 => first | rfl | simp [Value.oneCell']
        case k4 => unfold maxLen; omega
        case k5 => omega
        case k6 => omega
        rw [← HWE3.out]; intro g cap w4 hown4 hgrow4 hat4 hlt4; rw [← hs3] at hat4; have hgs4 := hgrow4.size; obtain ⟨r1, r2⟩ := HC3.out.grown hgrow4 (fun e => by have := (HPL.out b e.symm).1; omega) (fun j hj => by rw [HRW3.out]; exact HQ2.out j hj) hat4; have HC4 := hid r1; have HON4 := hid (show OwnNs w.heap.size w4 (.slice (some ⟨g, 0, none⟩) ((plT (oTst n) (l.take m) acc.length).length + 1) cap) (plT (oTst n) (l.take m) acc.length ++ [A.length]) from OwnRow.more jbf (H := W3.heap.size) o2 HO3.out HO4.out rfl rfl hown4 hgrow4 (by
          rcases hat4 with e | e
          · exact .inl e.symm
          · exact .inr (by rw [e]; rfl)) (Nat.le_refl _))
        have HRG4 := hid (show some g ≠ rowC w4 b from fun e => by
          rw [r2] at e
          rcases hat4 with h | h
          · exact HQ2.out g h (by rw [← HRW3.out]; exact e)
          · have := jdM HC3.out e.symm; omega)
        have HB4 := hid (show Below b wr w4 from HB3.out.grown hgrow4 (by omega) (fun j hj => by have := (HPL.out j hj).1; omega)); have HF4 := hid (show FrC b w w4 from ⟨Nat.le_trans HF3.out.size hgs4, fun p hp hpb hpr => (hgrow4.block p (Nat.lt_of_lt_of_le hp HF3.out.size) (fun e => by have := (HPL.out p e.symm).1; omega)).trans (HF3.out.keep p hp hpb hpr), by rw [r2]; exact HF3.out.row⟩); have HBX4 := hid ((hgrow4.block wr.heap.size (by omega) (fun e => by have := (HPL.out _ e.symm).2; omega)).trans HBX3.out); have HX4 := hid (show ∀ p, (X p ∨ some p = some g) → p < w4.heap.size from fun p hp => by
          rcases hp with hp | hp
          · have h1 := HXI.out p (.inl hp); omega
          · have := Option.some.inj hp; omega)
        have HTST := hid (hT x an ak at' cn ck ct W0 _ b (A ++ [⟨k, 0, zd, zY⟩]) w4 HX4.out hB (hbr.trans HB4.out) HTX.out HFX.out (by have := HBD.out; simp only [List.length_append, List.length_cons, List.length_nil]; omega) HC4.out); obtain ⟨z0, z1, z2, z3, z4, z5, z6, z7, _, _, _, _, _, _, _, _⟩ := box8 HBX4.out; clear hown4 hgrow4 hat4 r1 r2; go_wp2_with fail; refine HTST.out.mono ?_; rintro e w5 ⟨⟨v, rfl⟩, hW5, hb5, hf5⟩; simp only; have HN := hid (TsI.next (cap := cap) hpos hlm HXM.out HI.out HB4.out HF4.out hbw (by rw [← HA.out]; exact HON4.out) HRG4.out (by rw [← HA.out]; exact hW5) hb5 hf5); clear hW5 hb5 hf5 z0 z1 z2 z3 z4 z5 z6 z7; go_wp2
        go_roundw
        case rel => exact ⟨m + 1, by omega, by go_num, ⟨some ⟨g, 0, none⟩, cap, by rw [HN.out.2]⟩, by rw [← HN.out.2]; exact hid HN.out.1⟩
        case measure => simp [intOf]; omega
    · have i1 : ¬ (m : Int) < (l.length : Int) := by omega
      obtain rfl : m = l.length := by omega
      obtain ⟨g1, g2, g3, g4, g5⟩ := HI.out; rw [List.take_length] at g1 g4; have hps : (plT (oTst n) l acc.length).length ≤ 3 := by have := jfc (oTst n) l acc.length; omega
      have HSN := hid (jdP _ b (acc ++ parT (oTst n) k l acc.length) (plT (oTst n) l acc.length) pa pc wr g1 (by have h1 := HTT.out l.length; rw [List.take_length] at h1; have := HL.out; simp only [List.length_append]; omega) (by omega) (jm2 (oTst n) k l acc) (jjO (by simpa using g4) (by unfold maxLen; omega) (fun g hg => ⟨fun e => by
        obtain ⟨css, o1, _⟩ := g4; have := (World.ownsRow.lt o1 g (by simpa using hg)).1; omega, g5 g (by simpa using hg)⟩)))
      rw [jh9] at HSN; have HG2 := hid g2; have HG3 := hid g3; rw [List.take_length]; clear g1 g2 g3 g4 g5; go_wp2_with fail; refine HSN.out.mono ?_; intro e w6 hR6; have HEND := hid (show WrR X w b (acc ++ jaO (oTst n) k l acc.length) (.returned (.tuple #[])) w6 from ⟨⟨_, rfl⟩, hR6.2.1.weak (fun p hp => .inl hp), HG2.out.trans hR6.2.2.1, HG3.out.trans hR6.2.2.2⟩); obtain ⟨⟨v, rfl⟩, _, _, _⟩ := hR6; simp only; go_wp2; go_end0; exact HEND.out
end Go.Proofs.YtaapmpchcfcniaaGreatDoor
namespace Go.Proofs.YtaapmpchcfcniaaGreatDoor
open Go.RowKit Go.Proofs
theorem jiF : ∀ n, TstW n ∧ jkQ n := by
  intro n
  induction n with
  | zero =>
    have h : TstW 0 := fun _ _ _ _ _ _ _ _ _ _ _ _ _ _ _ hM => hM.elim
    exact ⟨h, jcB 0 h⟩
  | succ n ih =>
    have h := jiD n ih.1 ih.2; exact ⟨h, jcB (n + 1) h⟩
def WfC : Nat → Cmd → Prop
  | 0, _ => True
  | n + 1, c => c.texts.length ≤ 1000 ∧ (c.kind = 2 → FitT n c.test ∧ (∀ x ∈ c.thn, WfC n x) ∧ ∀ x ∈ c.els, WfC n x)
def jkO (n : Nat) : Prop := ∀ (l : List Cmd) (a : Option Addr) (k : Nat) (W0 : World) (X : Nat → Prop) (b : Nat) (acc : List Opr) (w : World), (∀ p, X p → p < w.heap.size) → W0.heap.size ≤ b → Below b W0 w → CmdsM anyB n W0 (.slice a l.length k) l → (∀ c ∈ l, WfC n c) → acc.length + (jK n l).length ≤ 1000 → WrC X w b acc →
    Calls Tryz.prog 43 #[.pointer (some ⟨b, 0, none⟩), .slice a l.length k] w (WrR X w b (acc ++ zL (oCmd n) l acc.length))
def BrW (n : Nat) : Prop := ∀ (c : Cmd) (ax an ak at' aa ae : Option Addr) (cx cn ck ct ca ce : Nat) (W0 : World) (X : Nat → Prop) (b : Nat) (acc : List Opr) (w : World), c.kind = 2 → (∀ p, X p → p < w.heap.size) → W0.heap.size ≤ b → Below b W0 w → CmdM anyB (n + 1) W0 c [.int .i64 c.kind, .slice ax c.texts.length cx, .int .i64 c.test.kind, .int .i64 c.test.mat, .int .i64 c.test.part, .slice an c.test.names.length cn, .slice ak c.test.keys.length ck, .bool c.test.over, .int .i64 c.test.limit, .slice at' c.test.tests.length ct, .slice aa c.thn.length ca, .slice ae c.els.length ce] → WfC (n + 1) c → acc.length + (cmdT (n + 1) c).length ≤ 1000 → WrC X w b acc →
    Calls Tryz.prog 73 #[.pointer (some ⟨b, 0, none⟩), .agg #[.int .i64 c.kind, .slice ax c.texts.length cx, .int .i64 c.test.kind, .int .i64 c.test.mat, .int .i64 c.test.part, .slice an c.test.names.length cn, .slice ak c.test.keys.length ck, .bool c.test.over, .int .i64 c.test.limit, .slice at' c.test.tests.length ct, .slice aa c.thn.length ca, .slice ae c.els.length ce]] w (WrR X w b (acc ++ oCmd (n + 1) c acc.length))
theorem jlv {X : Nat → Prop} {w : World} {b : Nat} {acc : List Opr} (h : WrC X w b acc) (q : Nat) (t : TypeId) : NumsM (fun p => p ≠ b ∧ some p ≠ rowC (w.alloc (.cells #[.int .i64 (q : Int)] t)) b) (w.alloc (.cells #[.int .i64 (q : Int)] t)) (.slice (some ⟨w.heap.size, 0, none⟩) 1 1) [q] := by
  have hlt := h.lt; refine zE (t := t) (fr := (0, 0)) (cs := [.int .i64 (q : Int)]) (jy _ rfl) rfl ⟨by omega, fun e => ?_⟩ rfl; rw [vP ((Below.refl _ _).alloc (Nat.le_refl _) _) hlt] at e; have := jdM h e.symm; omega
theorem jc4 (X : Nat → Prop) (b : Nat) (acc : List Opr) (q : Nat) (w : World) (h : WrC X w b acc) (hl : acc.length ≤ 1000) (hq : q < acc.length) :
    Calls Tryz.prog 118 #[.pointer (some ⟨b, 0, none⟩), .slice (some ⟨w.heap.size, 0, none⟩) 1 1] (w.alloc (.cells #[.int .i64 (q : Int)] 3)) (WrR X w b (qF acc.length acc q)) := by
  have hal : Below w.heap.size w (w.alloc (.cells #[.int .i64 (q : Int)] 3)) := (Below.refl _ _).alloc (Nat.le_refl _) _; have h1 := jdP X b acc [q] (some ⟨w.heap.size, 0, none⟩) 1 _ (h.grow hal) hl (by simp) (fun p hp => by rw [List.mem_singleton.1 hp]; exact hq) (jlv h q 3); exact h1.mono fun e w' hr => WrR.after hr (hal.mono (Nat.le_of_lt h.lt)) (FrC.below h.lt hal)
set_option maxHeartbeats 1000000 in
set_option maxRecDepth 100000 in
theorem jd6 (n : Nat) (hC : jkO n) : BrW n := by
  intro c ax an ak at' aa ae cx cn ck ct ca ce W0 X b acc w k2 hX hB hb hM hF hlen hW; obtain ⟨vx, vn, vk, vt, va, ve, e8, hTx, hT, hA, hE⟩ := hM; simp only [List.cons.injEq, true_and, and_true] at e8; obtain ⟨rfl, rfl, rfl, rfl, rfl, rfl⟩ := e8; obtain ⟨_, hF2⟩ := hF; obtain ⟨fT, fA, fE⟩ := hF2 k2; have hlt := hW.lt; obtain ⟨W1, hW1⟩ : ∃ W1, W1 = w.alloc (.cells #[.int .i64 c.kind, .slice ax c.texts.length cx, .int .i64 c.test.kind, .int .i64 c.test.mat, .int .i64 c.test.part, .slice an c.test.names.length cn, .slice ak c.test.keys.length ck, .bool c.test.over, .int .i64 c.test.limit, .slice at' c.test.tests.length ct, .slice aa c.thn.length ca, .slice ae c.els.length ce] 58) := ⟨_, rfl⟩; have HWE := hid hW1; have hal : Below w.heap.size w W1 := by rw [hW1]; exact (Below.refl _ _).alloc (Nat.le_refl _) _
  have hs1 : W1.heap.size = w.heap.size + 1 := by rw [hW1]; simp
  have HC1 := hid (hW.grow hal); have HB1 := hid (show Below b w W1 from hal.mono (by omega)); have HF1 := hid (FrC.below hlt hal); have HB01 := hid (hb.trans HB1.out); have HBX := hid (show W1.heap[w.heap.size]? = some (.cells #[.int .i64 c.kind, .slice ax c.texts.length cx, .int .i64 c.test.kind, .int .i64 c.test.mat, .int .i64 c.test.part, .slice an c.test.names.length cn, .slice ak c.test.keys.length ck, .bool c.test.over, .int .i64 c.test.limit, .slice at' c.test.tests.length ct, .slice aa c.thn.length ca, .slice ae c.els.length ce] 58) by rw [hW1]; exact heap_alloc_new w _); have HX1 := hid (show ∀ p, X p → p < W1.heap.size from fun p hp => Nat.lt_of_lt_of_le (hX p hp) hal.size); have HRB := hid (show some w.heap.size ≠ rowC W1 b from fun e => by
    rw [vP hal hlt] at e; have := jdM hW e.symm; omega)
  obtain ⟨T, hTe⟩ : ∃ T, T = oTst n c.test acc.length := ⟨_, rfl⟩; have HTE := hid hTe; obtain ⟨A, hAe⟩ : ∃ A, A = zL (oCmd n) c.thn (acc.length + T.length + 1) := ⟨_, rfl⟩; have HAE := hid hAe; obtain ⟨E, hEe⟩ : ∃ E, E = zL (oCmd n) c.els (acc.length + T.length + 1 + A.length + 1) := ⟨_, rfl⟩; have HEE := hid hEe; have HOC := hid (show oCmd (n + 1) c acc.length = oIf acc.length T A (decide (0 < c.els.length)) E by rw [oCmd, if_pos k2, hEe, hAe, hTe]); have HBD := hid (show acc.length + (jD n c.test).length + (c.thn.flatMap (cmdT n)).length + (c.els.flatMap (cmdT n)).length + 3 ≤ 1000 by
    have h1 : (cmdT (n + 1) c).length = 1 + (j4 (n + 1) c).length := by unfold cmdT; simp; omega
    have h2 : (jD n c.test).length + (c.thn.flatMap (cmdT n)).length + (c.els.flatMap (cmdT n)).length + 2 ≤ (j4 (n + 1) c).length := by
      rw [j4, if_pos k2]; have eA : (c.thn.flatMap (cmdT n)).length = (c.thn.flatMap fun x => zw (jQ 0 x.kind.toNat) :: j4 n x).length := rfl; have eB : (c.els.flatMap (cmdT n)).length = (c.els.flatMap fun x => zw (jQ 0 x.kind.toNat) :: j4 n x).length := rfl; cases hq : jP c.els with
      | some x =>
        obtain ⟨h1, h2⟩ := zP hq; have e4 : (c.els.flatMap (cmdT n)).length = 1 + (j4 n x).length := by rw [h1]; simp [cmdT]; omega
        rw [e4, eA]; simp only [List.length_append, List.length_cons, List.length_nil]; omega
      | none =>
        rw [eA]
        by_cases h0 : c.els.length = 0
        · have e4 : (c.els.flatMap (cmdT n)).length = 0 := by rw [List.length_eq_zero_iff.1 h0]; rfl
          rw [e4]; simp only [List.length_append, List.length_cons, List.length_nil]; omega
        · rw [eB]; simp only [if_neg h0, List.length_append, List.length_cons, List.length_nil]; omega
    omega)
  have HTL := hid (show T.length ≤ (jD n c.test).length by rw [hTe]; exact jc7 n c.test acc.length); have HAL := hid (show A.length ≤ (c.thn.flatMap (cmdT n)).length by rw [hAe]; exact vH _ _ fun y _ b => jcM n y b); have HEL := hid (show E.length ≤ (c.els.flatMap (cmdT n)).length by rw [hEe]; exact vH _ _ fun y _ b => jcM n y b); have HTST := hid (show Calls Tryz.prog 117 #[.pointer (some ⟨b, 0, none⟩), .agg #[.int .i64 c.test.kind, .int .i64 c.test.mat, .int .i64 c.test.part, .slice an c.test.names.length cn, .slice ak c.test.keys.length ck, .bool c.test.over, .int .i64 c.test.limit, .slice at' c.test.tests.length ct]] W1 (WrR X W1 b (acc ++ T)) by
    rw [hTe]; exact (jiF n).1 c.test an ak at' cn ck ct W0 X b acc W1 HX1.out hB HB01.out hT fT (by have := HBD.out; omega) HC1.out)
  have HA := hid hA; have HE := hid hE; have HFA := hid fA; have HFE := hid fE; have hbx := HBX.out; rw [hW1] at hbx; have x2 := jc (j := 2) hbx rfl; have x3 := jc (j := 3) hbx rfl; have x4 := jc (j := 4) hbx rfl; have x5 := jc (j := 5) hbx rfl; have x6 := jc (j := 6) hbx rfl; have x7 := jc (j := 7) hbx rfl; have x8 := jc (j := 8) hbx rfl; have x9 := jc (j := 9) hbx rfl; clear hbx hTx hT hA hE fT fA fE hF2 hlen hW hal hW1 hTe hAe hEe k2; go_enter Tryz.func73, Tryz.ntmps73; go_wp2_with fail; rw [← HWE.out]; refine HTST.out.mono ?_; rintro e w2 ⟨⟨v, rfl⟩, hW2, hb2, hf2⟩; simp only; obtain ⟨A1, hA1⟩ : ∃ A1, A1 = acc ++ T := ⟨_, rfl⟩; have HA1 := hid hA1; have HA1L := hid (show A1.length = acc.length + T.length by rw [hA1]; simp); rw [← hA1] at hW2; have HAD := hid (jbb X b A1 4 w2 hW2 (by have := HBD.out; have := HTL.out; have := HA1L.out; omega)); obtain ⟨B2, R2⟩ := hf2.box HBX.out (by omega) HRB.out; have HB2 := hid (HB1.out.trans hb2); have HF2 := hid (HF1.out.trans hf2); have hz2 := hb2.size; clear hA1 hW2 hb2 hf2 x2 x3 x4 x5 x6 x7 x8 x9; go_wp2_with fail; refine HAD.out.mono ?_; rintro e w3 ⟨rfl, hW3, hb3, hf3⟩; simp only; obtain ⟨B3, R3⟩ := hf3.box B2 (by omega) R2; have HB3 := hid (HB2.out.trans hb3); have HF3 := hid (HF2.out.trans hf3); have hz3 := hb3.size; have HCM := hid (show Calls Tryz.prog 43 #[.pointer (some ⟨b, 0, none⟩), .slice aa c.thn.length ca] w3 (WrR X w3 b (A1 ++ [⟨4, 0, zd, zY⟩] ++ A)) by
    have h := hC c.thn aa ca W0 X b (A1 ++ [⟨4, 0, zd, zY⟩]) w3 (fun p hp => by have := hX p hp; omega) hB (hb.trans HB3.out) HA.out HFA.out (by have := HBD.out; have := HTL.out; have := HA1L.out; simp only [List.length_append, List.length_cons, List.length_nil]; show A1.length + 1 + (c.thn.flatMap (cmdT n)).length ≤ 1000; omega) hW3; rw [show (A1 ++ [(⟨4, 0, zd, zY⟩ : Opr)]).length = acc.length + T.length + 1 by simp [HA1L.out], ← HAE.out] at h; exact h)
  have x10 := jc (j := 10) B3 rfl; clear hW3 hb3 hf3 B2 R2; go_wp2_with fail; refine HCM.out.mono ?_; rintro e w4 ⟨⟨v, rfl⟩, hW4, hb4, hf4⟩; simp only; obtain ⟨B4, R4⟩ := hf4.box B3 (by omega) R3; have HB4 := hid (HB3.out.trans hb4); have HF4 := hid (HF3.out.trans hf4); have hz4 := hb4.size; have x11 := jc (j := 11) B4 rfl; have HN3 := hid (show (A1 ++ [(⟨4, 0, zd, zY⟩ : Opr)] ++ A).length = acc.length + T.length + 1 + A.length by simp [HA1L.out]; omega); have HSD := hid (show ∀ N (Rr : List Opr), qF N (A1 ++ [(⟨4, 0, zd, zY⟩ : Opr)] ++ Rr) A1.length = A1 ++ (zk 4 N :: Rr) from fun N Rr => by
    rw [List.append_assoc, List.singleton_append, jey]; rfl)
  clear x10 hb4 hf4 B3 R3
  by_cases h0 : c.els.length = 0
  · have h0' : ((c.els.length : Int) == 0) = true := by simp [h0]
    have HS1 := hid (jc4 X b (A1 ++ [⟨4, 0, zd, zY⟩] ++ A) A1.length w4 hW4 (by rw [HN3.out]; have := HBD.out; have := HTL.out; have := HAL.out; omega) (by rw [HN3.out]; have := HA1L.out; omega)); have HEND := hid (show ∀ e w5, WrR X w4 b (qF (A1 ++ [(⟨4, 0, zd, zY⟩ : Opr)] ++ A).length (A1 ++ [(⟨4, 0, zd, zY⟩ : Opr)] ++ A) A1.length) e w5 → WrR X w b (acc ++ oCmd (n + 1) c acc.length) (.returned (.tuple #[])) w5 from fun e w5 hr => ⟨⟨_, rfl⟩, by
      have h := hr.2.1; rw [HSD.out, HN3.out] at h; rw [HOC.out, show decide (0 < c.els.length) = false by simp [h0]]; unfold oIf; rw [if_neg (by simp), ← List.append_assoc, ← HA1.out]; exact h, HB4.out.trans hr.2.2.1, HF4.out.trans hr.2.2.2⟩)
    clear hW4; go_wp2_with fail; refine HS1.out.mono ?_; intro e w5 hr5; have HE5 := hid (HEND.out e w5 hr5); obtain ⟨⟨v, rfl⟩, _, _, _⟩ := hr5; simp only; go_wp2; go_end0; exact HE5.out
  · have h0' : ((c.els.length : Int) == 0) = false := by rw [beq_eq_false_iff_ne]; omega
    have HAJ := hid (jbb X b (A1 ++ [⟨4, 0, zd, zY⟩] ++ A) 5 w4 hW4 (by rw [HN3.out]; have := HBD.out; have := HTL.out; have := HAL.out; omega)); obtain ⟨A3, hA3⟩ : ∃ A3, A3 = A1 ++ [(⟨4, 0, zd, zY⟩ : Opr)] ++ A := ⟨_, rfl⟩; have HA3 := hid hA3; rw [← hA3] at HAJ; have HA3L := hid (show A3.length = acc.length + T.length + 1 + A.length by rw [hA3]; exact HN3.out); have HH0 := hid h0; clear hW4 hA3 h0; go_wp2_with fail; refine HAJ.out.mono ?_; rintro e w5 ⟨rfl, hW5, hb5, hf5⟩; simp only; obtain ⟨B5, R5⟩ := hf5.box B4 (by omega) R4; have HB5 := hid (HB4.out.trans hb5); have HF5 := hid (HF4.out.trans hf5); have hz5 := hb5.size; have HS1 := hid (jc4 X b (A3 ++ [⟨5, 0, zd, zY⟩]) A1.length w5 hW5 (by simp only [List.length_append, List.length_cons, List.length_nil]; rw [HA3L.out]; have := HBD.out; have := HTL.out; have := HAL.out; omega) (by simp only [List.length_append, List.length_cons, List.length_nil]; rw [HA3L.out]; have := HA1L.out; omega)); clear hW5 hb5 hf5 x11 B4 R4; go_wp2_with fail; refine HS1.out.mono ?_; rintro e w6 ⟨⟨v, rfl⟩, hW6, hb6, hf6⟩; simp only; obtain ⟨A6, hA6⟩ : ∃ A6, A6 = A1 ++ (zk 4 (acc.length + T.length + 1 + A.length + 1) :: (A ++ [(⟨5, 0, zd, zY⟩ : Opr)])) := ⟨_, rfl⟩; have HA6 := hid hA6; have HA6L := hid (show A6.length = acc.length + T.length + 1 + A.length + 1 by rw [hA6]; simp [HA1L.out]; omega); have hW6' : WrC X w6 b A6 := by
      have e : (A3 ++ [(⟨5, 0, zd, zY⟩ : Opr)]).length = acc.length + T.length + 1 + A.length + 1 := by simp [HA3L.out]
      rw [e] at hW6; rw [HA3.out, List.append_assoc (A1 ++ [(⟨4, 0, zd, zY⟩ : Opr)]), HSD.out] at hW6; rw [hA6]; exact hW6
    obtain ⟨B6, R6⟩ := hf6.box B5 (by omega) R5; have HB6 := hid (HB5.out.trans hb6); have HF6 := hid (HF5.out.trans hf6); have hz6 := hb6.size; have HCE := hid (show Calls Tryz.prog 43 #[.pointer (some ⟨b, 0, none⟩), .slice ae c.els.length ce] w6 (WrR X w6 b (A6 ++ E)) by
      have h := hC c.els ae ce W0 X b A6 w6 (fun p hp => by have := hX p hp; omega) hB (hb.trans HB6.out) HE.out HFE.out (by rw [HA6L.out]; have := HBD.out; have := HTL.out; have := HAL.out; show acc.length + T.length + 1 + A.length + 1 + (c.els.flatMap (cmdT n)).length ≤ 1000; omega) hW6'; rw [HA6L.out, ← HEE.out] at h; exact h)
    have x11 := jc (j := 11) B6 rfl; clear hW6 hW6' hb6 hf6 hA6 B5 R5; go_wp2_with fail; refine HCE.out.mono ?_; rintro e w7 ⟨⟨v, rfl⟩, hW7, hb7, hf7⟩; simp only; have HB7 := hid (HB6.out.trans hb7); have HF7 := hid (HF6.out.trans hf7); have HS2 := hid (jc4 X b (A6 ++ E) A3.length w7 hW7 (by simp only [List.length_append]; rw [HA6L.out]; have := HBD.out; have := HTL.out; have := HAL.out; have := HEL.out; omega) (by simp only [List.length_append]; rw [HA6L.out, HA3L.out]; omega)); have HEND := hid (show ∀ e w8, WrR X w7 b (qF (A6 ++ E).length (A6 ++ E) A3.length) e w8 → WrR X w b (acc ++ oCmd (n + 1) c acc.length) (.returned (.tuple #[])) w8 from fun e w8 hr => ⟨⟨_, rfl⟩, by
      have h := hr.2.1; have e1 : A6 ++ E = (A1 ++ (zk 4 (acc.length + T.length + 1 + A.length + 1) :: A)) ++ ((⟨5, 0, zd, zY⟩ : Opr) :: E) := by rw [HA6.out]; simp
      have e2 : A3.length = (A1 ++ (zk 4 (acc.length + T.length + 1 + A.length + 1) :: A)).length := by rw [HA3L.out]; simp [HA1L.out]; omega
      have e3 : (A6 ++ E).length = acc.length + T.length + 1 + A.length + 1 + E.length := by simp [HA6L.out]
      rw [e3, e1, e2, jey] at h; rw [HOC.out, show decide (0 < c.els.length) = true by have := HH0.out; simp; omega]; unfold oIf; rw [if_pos rfl, ← List.append_assoc, ← HA1.out]
      simpa [jdO, zk] using h, HB7.out.trans hr.2.2.1, HF7.out.trans hr.2.2.2⟩)
    clear hW7 hb7 hf7 x11; go_wp2_with fail; refine HS2.out.mono ?_; intro e w8 hr8; have HE8 := hid (HEND.out e w8 hr8); obtain ⟨⟨v, rfl⟩, _, _, _⟩ := hr8; simp only; go_wp2; go_end0; exact HE8.out
theorem jg2 (f : Cmd → Nat → List Opr) (y : Cmd) : ∀ (l : List Cmd) (a : Nat), zL f (l ++ [y]) a = zL f l a ++ f y (a + (zL f l a).length) := by
  intro l
  induction l with
  | nil => intro a; simp [zL]
  | cons x l ih =>
    intro a; simp only [List.cons_append, zL, ih, List.append_assoc, List.length_append, Nat.add_assoc]
theorem jkW {n : Nat} {W0 w : World} {b : Nat} (hb : Below b W0 w) (hB : W0.heap.size ≤ b) {a : Option Addr} {c : Nat} {l : List Cmd} (h : CmdsM anyB n W0 (.slice a l.length c) l) {i : Nat} {x : Cmd} (hx : l[i]? = some x) :
    ∃ (b' o : Nat) (ax an ak at' aa ae : Option Addr) (cx cn ck ct ca ce : Nat), a = some ⟨b', o, none⟩ ∧ b' < W0.heap.size ∧ CmdM anyB n W0 x [.int .i64 x.kind, .slice ax x.texts.length cx, .int .i64 x.test.kind, .int .i64 x.test.mat, .int .i64 x.test.part, .slice an x.test.names.length cn, .slice ak x.test.keys.length ck, .bool x.test.over, .int .i64 x.test.limit, .slice at' x.test.tests.length ct, .slice aa x.thn.length ca, .slice ae x.els.length ce] ∧ w.cell? ⟨b', o + i * 12, none⟩ = some (.int .i64 x.kind) ∧ w.cell? ⟨b', o + i * 12 + 1, none⟩ = some (.slice ax x.texts.length cx) ∧ w.cell? ⟨b', o + i * 12 + 2, none⟩ = some (.int .i64 x.test.kind) ∧ w.cell? ⟨b', o + i * 12 + 3, none⟩ = some (.int .i64 x.test.mat) ∧ w.cell? ⟨b', o + i * 12 + 4, none⟩ = some (.int .i64 x.test.part) ∧ w.cell? ⟨b', o + i * 12 + 5, none⟩ = some (.slice an x.test.names.length cn) ∧ w.cell? ⟨b', o + i * 12 + 6, none⟩ = some (.slice ak x.test.keys.length ck) ∧ w.cell? ⟨b', o + i * 12 + 7, none⟩ = some (.bool x.test.over) ∧ w.cell? ⟨b', o + i * 12 + 8, none⟩ = some (.int .i64 x.test.limit) ∧ w.cell? ⟨b', o + i * 12 + 9, none⟩ = some (.slice at' x.test.tests.length ct) ∧ w.cell? ⟨b', o + i * 12 + 10, none⟩ = some (.slice aa x.thn.length ca) ∧ w.cell? ⟨b', o + i * 12 + 11, none⟩ = some (.slice ae x.els.length ce) := by
  obtain ⟨a', c', hv, _, hr⟩ := h; simp only [Value.slice.injEq, true_and] at hv; obtain ⟨rfl, rfl⟩ := hv; obtain ⟨b', o, cs, ha, hlt, _, _, hc, hT⟩ := hr i x hx; obtain ⟨ax, cx, an, cn, ak, ck, at', ct, aa, ca, ae, ce, _, _, rfl, _⟩ := zh hT; exact ⟨b', o, ax, an, ak, at', aa, ae, cx, cn, ck, ct, ca, ce, ha, hlt, hT, jk hb hB (hc 0 _ rfl), jk hb hB (hc 1 _ rfl), jk hb hB (hc 2 _ rfl), jk hb hB (hc 3 _ rfl), jk hb hB (hc 4 _ rfl), jk hb hB (hc 5 _ rfl), jk hb hB (hc 6 _ rfl), jk hb hB (hc 7 _ rfl), jk hb hB (hc 8 _ rfl), jk hb hB (hc 9 _ rfl), jk hb hB (hc 10 _ rfl), jk hb hB (hc 11 _ rfl)⟩
theorem jm0 {X : Nat → Prop} {w1 w2 : World} {b : Nat} {acc : List Opr} (h : WrC X w1 b acc) (hX : ∀ p, X p → p < w1.heap.size) (hb : Below w1.heap.size w1 w2) (x : Cmd) {a1 : Option Addr} {c1 : Nat} (hN : TxtsM (newB w1.heap.size) w2 (.slice a1 x.texts.length c1) x.texts) :
    OpM (handQ X w2 b) w2 (doO x) [.int .i64 6, .int .i64 0, .int .i64 0, .int .i64 0, .int .i64 0, .slice none 0 0, .slice none 0 0, .bool false, .int .i64 0, .slice none 0 0, .int .i64 x.kind, .slice a1 x.texts.length c1, .int .i64 0, .int .i64 0, .int .i64 0, .slice none 0 0, .slice none 0 0, .bool false, .int .i64 0, .slice none 0 0, .slice none 0 0, .slice none 0 0] := by
  have hq : ∀ p, (newB w1.heap.size p ∧ p < w2.heap.size) → handQ X w2 b p := fun p hp => jdn h hX hb hp.1 hp.2
  refine ⟨[.int .i64 0, .int .i64 0, .int .i64 0, .slice none 0 0, .slice none 0 0, .bool false, .int .i64 0, .slice none 0 0], _, rfl, zS _ 0 w2, _, _, _, _, _, _, rfl, ?_, zS _ 0 w2, jj _ _ _ _ _ _, jj _ _ _ _ _ _⟩; exact TxtsM.imp (RowM.both hN fun _ _ h => h) hq (Keeps.refl _ _)
theorem jkf {g : Cmd → List Tok} {l : List Cmd} {m : Nat} {x : Cmd} (hx : l[m]? = some x) : ((l.take m).flatMap g).length + (g x).length ≤ (l.flatMap g).length := by
  have h : l = l.take m ++ x :: l.drop (m + 1) := by
    have h1 := (List.take_append_drop m l).symm; have h2 : l.drop m = x :: l.drop (m + 1) := by
      have hlt := (List.getElem?_eq_some_iff.1 hx).1; rw [List.drop_eq_getElem_cons hlt]
      congr 1
      exact (List.getElem?_eq_some_iff.1 hx).2
    rw [h2] at h1; exact h1
  have e : (l.flatMap g).length = ((l.take m ++ x :: l.drop (m + 1)).flatMap g).length := congrArg (fun q => (q.flatMap g).length) h; rw [e]; simp only [List.flatMap_append, List.flatMap_cons, List.length_append]; omega
theorem jg1 (n : Nat) (l : List Cmd) : l.length ≤ (jK n l).length := by
  unfold jK
  induction l with
  | nil => simp
  | cons x l ih =>
    have : 1 ≤ (cmdT n x).length := by unfold cmdT; simp
    simp only [List.flatMap_cons, List.length_append, List.length_cons]; omega
def CmI (n : Nat) (X : Nat → Prop) (l : List Cmd) (w : World) (b : Nat) (acc : List Opr) (m : Nat) (wr : World) : Prop := WrC X wr b (acc ++ zL (oCmd n) (l.take m) acc.length) ∧ Below b w wr ∧ FrC b w wr
theorem CmI.next {n : Nat} {X : Nat → Prop} {l : List Cmd} {w wr w2 : World} {b : Nat} {acc : List Opr} {m : Nat} {x : Cmd} (hx : l[m]? = some x) (h : CmI n X l w b acc m wr) (h2 : WrC X w2 b ((acc ++ zL (oCmd n) (l.take m) acc.length) ++ oCmd n x (acc ++ zL (oCmd n) (l.take m) acc.length).length)) (hb : Below b wr w2) (hf : FrC b wr w2) : CmI n X l w b acc (m + 1) w2 := by
  refine ⟨?_, h.2.1.trans hb, h.2.2.trans hf⟩; rw [show l.take (m + 1) = l.take m ++ [x] by rw [List.take_add_one, hx]; rfl, jg2, ← List.append_assoc]; rw [List.length_append] at h2; exact h2
set_option maxHeartbeats 1000000 in
set_option maxRecDepth 100000 in
theorem jdg (n : Nat) (hBr : ∀ q, n = q + 1 → BrW q) : jkO n := by
  intro l a k W0 X b acc w hX hB hb hM hF hlen hW; have hbw := hW.lt; have HX := hid hX; have HM := hid hM; have HF := hid hF; have HB := hid hb; have HL := hid hlen; have hml : l.length ≤ 1000 := by
    have h1 := jg1 n l; omega
  have HS := hid (show CmI n X l w b acc 0 w from ⟨by rw [List.take_zero]; show WrC X w b (acc ++ []); rw [List.append_nil]; exact hW, Below.refl _ _, FrC.below hbw (Below.refl _ _)⟩); clear hX hM hF hb hW hlen; go_enter Tryz.func43, Tryz.ntmps43; go_wp2
  go_loopw [8] (fun i wr => ∃ m : Nat, m ≤ l.length ∧ i = .int .i64 m ∧ Hid (CmI n X l w b acc m wr)) (fun i _ => l.length - (intOf i).toNat)
  case atStart => exact ⟨0, Nat.zero_le _, rfl, HS⟩
  case round =>
    obtain ⟨m, hm, rfl, HI⟩ := hrel
    by_cases hlm : m < l.length
    · have i1 : (m : Int) < (l.length : Int) := by omega
      have i3 : (0 : Int) ≤ (m : Int) := by omega
      obtain ⟨x, hx⟩ : ∃ x, l[m]? = some x := ⟨_, List.getElem?_eq_getElem hlm⟩; obtain ⟨g1, g2, g3⟩ := HI.out; have hbr : Below b W0 wr := HB.out.trans g2; obtain ⟨b', o, ax, an, ak, at', aa, ae, cx, cn, ck, ct, ca, ce, rfl, hb', hCx, y0, y1, y2, y3, y4, y5, y6, y7, y8, y9, y10, y11⟩ := jkW hbr hB HM.out hx; obtain ⟨q, rfl⟩ : ∃ q, n = q + 1 := by
        cases n with
        | zero => exact hCx.elim
        | succ q => exact ⟨q, rfl⟩
      have hBq := hBr q rfl; obtain ⟨W1, hW1⟩ : ∃ W1, W1 = wr.alloc (.cells #[.int .i64 x.kind, .slice ax x.texts.length cx, .int .i64 x.test.kind, .int .i64 x.test.mat, .int .i64 x.test.part, .slice an x.test.names.length cn, .slice ak x.test.keys.length ck, .bool x.test.over, .int .i64 x.test.limit, .slice at' x.test.tests.length ct, .slice aa x.thn.length ca, .slice ae x.els.length ce] 58) := ⟨_, rfl⟩; have hal : Below wr.heap.size wr W1 := by rw [hW1]; exact (Below.refl _ _).alloc (Nat.le_refl _) _
      have HWE := hid hW1; have hltr := g1.lt; have hws := g2.size; have hs1 : W1.heap.size = wr.heap.size + 1 := by rw [hW1]; simp
      have HBX := hid (show W1.heap[wr.heap.size]? = some (.cells #[.int .i64 x.kind, .slice ax x.texts.length cx, .int .i64 x.test.kind, .int .i64 x.test.mat, .int .i64 x.test.part, .slice an x.test.names.length cn, .slice ak x.test.keys.length ck, .bool x.test.over, .int .i64 x.test.limit, .slice at' x.test.tests.length ct, .slice aa x.thn.length ca, .slice ae x.els.length ce] 58) by rw [hW1]; exact heap_alloc_new wr _); have HB1 := hid (show Below b wr W1 from hal.mono (by omega)); have HF1 := hid (FrC.below hltr hal); obtain ⟨A, hA⟩ : ∃ A, A = acc ++ zL (oCmd (q + 1)) (l.take m) acc.length := ⟨_, rfl⟩; have HA := hid hA; have HC1 := hid (show WrC X W1 b A by rw [hA]; exact g1.grow hal); have HX1 := hid (show ∀ p, X p → p < W1.heap.size from fun p hp => by have := HX.out p hp; omega); have HWF := hid (HF.out x (List.mem_of_getElem? hx)); have HXM := hid hx; have HCX := hid hCx; have HBD := hid (show A.length + (cmdT (q + 1) x).length ≤ 1000 by
        have h1 := jkf (g := cmdT (q + 1)) hx; have h2 : (zL (oCmd (q + 1)) (l.take m) acc.length).length ≤ ((l.take m).flatMap (cmdT (q + 1))).length := vH _ _ fun y _ b => jcM (q + 1) y b
        have h3 : acc.length + (l.flatMap (cmdT (q + 1))).length ≤ 1000 := HL.out; rw [hA, List.length_append]; omega)
      have HRB := hid (show some wr.heap.size ≠ rowC W1 b from fun e => by
        rw [vP hal hltr] at e; have := jdM g1 e.symm; omega)
      have HNX := hid (show ∀ w2, WrC X w2 b (A ++ oCmd (q + 1) x A.length) → Below b W1 w2 → FrC b W1 w2 → CmI (q + 1) X l w b acc (m + 1) w2 from fun w2 h1 h2 h3 => CmI.next HXM.out HI.out (by rw [← HA.out]; exact h1) (HB1.out.trans h2) (HF1.out.trans h3))
      by_cases k2 : x.kind = 2
      · have c2 : (x.kind == 2) = true := by simp [k2]
        have HBR := hid (hBq x ax an ak at' aa ae cx cn ck ct ca ce W0 X b A W1 k2 HX1.out hB (hbr.trans HB1.out) HCX.out HWF.out HBD.out HC1.out); clear k2 hx hCx g1 g2 g3 hal hW1 hA; go_wp2_with fail; rw [← HWE.out]; refine HBR.out.mono ?_; rintro e w2 ⟨⟨v, rfl⟩, hW2, hb2, hf2⟩; simp only; have HN := hid (HNX.out w2 hW2 hb2 hf2); clear hW2 hb2 hf2 y0 y1 y2 y3 y4 y5 y6 y7 y8 y9 y10 y11; go_wp2
        go_roundw
        case rel => exact ⟨m + 1, by omega, by go_num, HN⟩
        case measure => simp [intOf]; omega
      · have c2 : (x.kind == 2) = false := by simp [k2]
        obtain ⟨vx, vn, vk, vt, va, ve, e8, hTx, _, _, _⟩ := HCX.out; simp only [List.cons.injEq, true_and, and_true] at e8; obtain ⟨rfl, rfl, rfl, rfl, rfl, rfl⟩ := e8; have HOE := hid (show oCmd (q + 1) x A.length = [doO x] by rw [oCmd, if_neg k2]); have HCL := hid (jaE x.texts ax cx W1.drew (TxtsM.next hTx (show Below W0.heap.size W0 W1.drew from ((hbr.trans HB1.out).mono hB).drew)) HWF.out.1); have z0 := jc (j := 0) HBX.out rfl; have z1 := jc (j := 1) HBX.out rfl; clear k2 hx hCx hTx g1 g2 g3 hal hW1 hA; go_upto_region 5 with fail
        rw [← HWE.out]; clear y0 y1 y2 y3 y4 y5 y6 y7 y8 y9 y10 y11
        go_region_held3 (fun w' => w'.cell? ⟨wr.heap.size, 0, none⟩ = some (.int .i64 x.kind) ∧ w'.cell? ⟨wr.heap.size, 1, none⟩ = some (.slice ax x.texts.length cx)) (go_keep)
          (first
            | (go_at_call 74
               with_reducible refine HAD.out.mono ?_
               rintro e w3 ⟨rfl, hW3, hb3, hf3⟩; have HN := hid (HNX.out w3 (by rw [HOE.out]; exact hW3) (HB2.out.trans hb3) (HF2.out.trans hf3)); have hB3 := (hf3.box HB2X.out (by omega) HR2.out).1; clear z0 z1 hW3 hb3 hf3; have z0 := jc (j := 0) hB3 rfl; have z1 := jc (j := 1) hB3 rfl; clear hB3)
            | (go_at_call 75
               with_reducible refine HCL.out.mono ?_
               rintro e w2 ⟨a1, c1, rfl, hT2, hb2⟩; have hb2' : Below W1.heap.size W1 w2 := (Below.refl _ _).drew.trans hb2; have HAD := hid (jcH X b A (doO x) (.int .i64 6) (.int .i64 0) (.int .i64 0) (.int .i64 0) (.int .i64 0) (.slice none 0 0) (.slice none 0 0) (.bool false) (.int .i64 0) (.slice none 0 0) (.int .i64 x.kind) (.slice a1 x.texts.length c1) (.int .i64 0) (.int .i64 0) (.int .i64 0) (.slice none 0 0) (.slice none 0 0) (.bool false) (.int .i64 0) (.slice none 0 0) (.slice none 0 0) (.slice none 0 0) w2 (HC1.out.grow hb2') (by have := HBD.out; omega) (jm0 HC1.out HX1.out hb2' x hT2)); have HB2 := hid (show Below b W1 w2 from hb2'.mono (by omega)); have HF2 := hid (show FrC b W1 w2 from FrC.below (by omega) hb2'); have HB2X := hid (jL hb2' HBX.out); have HR2 := hid (show some wr.heap.size ≠ rowC w2 b by rw [vP hb2' (by omega)]; exact HRB.out); clear z0 z1 hT2 hb2 hb2'; have z0 := jc (j := 0) HB2X.out rfl; have z1 := jc (j := 1) HB2X.out rfl))
        all_goals
          go_wp2
          go_roundw
          case rel => exact ⟨m + 1, by omega, by go_num, HN⟩
          case measure => simp [intOf]; omega
    · have i1 : ¬ (m : Int) < (l.length : Int) := by omega
      obtain rfl : m = l.length := by omega
      have HEND := hid (show WrR X w b (acc ++ zL (oCmd n) l acc.length) (.returned (.tuple #[])) wr by
        have h := HI.out; unfold CmI at h; rw [List.take_length] at h; exact ⟨⟨_, rfl⟩, h.1, h.2.1, h.2.2⟩)
      go_wp2; go_end0; exact HEND.out
theorem jg3 : ∀ n, jkO n := by
  intro n
  induction n with
  | zero => exact jdg 0 fun q h => by omega
  | succ n ih =>
    refine jdg (n + 1) fun q h => ?_
    obtain rfl : n = q := by omega
    exact jd6 n ih
end Go.Proofs.YtaapmpchcfcniaaGreatDoor
namespace Go.Proofs.YtaapmpchcfcniaaGreatDoor
open Go.RowKit Go.Deep Go.Joins Go.ChangeShapes Go.WideShapes
structure Stk where
  kind : Int
  a : Int
  b : Int
  s : List UInt8
  t : List UInt8
  ins : List Stk
def StkM : Nat → World → Stk → List Value → Prop
  | 0, _, _, _ => False
  | n + 1, w, x, cs => ∃ ai ci, cs = [.int .i64 x.kind, .int .i64 x.a, .int .i64 x.b, .string (S x.s), .string (S x.t), .slice ai x.ins.length ci] ∧ (Lit.int .i64 x.kind).wf = true ∧ (Lit.int .i64 x.a).wf = true ∧ (Lit.int .i64 x.b).wf = true ∧
      x.s.length ≤ maxLen ∧ x.t.length ≤ maxLen ∧ x.ins.length ≤ ci ∧ (ci ≤ maxLen ∧ x.ins.length ≤ 140737488355328) ∧ RowM anyB 6 (StkM n w) w (.slice ai x.ins.length ci) x.ins
abbrev SticksM (n : Nat) (w : World) (v : Value) (l : List Stk) : Prop := RowM anyB 6 (StkM n w) w v l
theorem StkM.imp {w w' : World} (hk : Keeps anyB w w') : ∀ (n : Nat) (x : Stk) (cs : List Value), StkM n w x cs → StkM n w' x cs := by
  intro n
  induction n with
  | zero => intro x cs h; exact h
  | succ n ih =>
    intro x cs h; obtain ⟨ai, ci, h0, h1, h2, h3, h4, h5, h6, h7, h8⟩ := h; exact ⟨ai, ci, h0, h1, h2, h3, h4, h5, h6, h7, RowM.imp h8 (fun _ h => h) hk ih⟩
theorem StkM.more {w : World} : ∀ (n m : Nat) (x : Stk) (cs : List Value), n ≤ m → StkM n w x cs → StkM m w x cs := by
  intro n
  induction n with
  | zero => intro m x cs _ h; exact h.elim
  | succ n ih =>
    intro m x cs hm h; obtain ⟨ai, ci, h0, h1, h2, h3, h4, h5, h6, h7, h8⟩ := h; cases m with
    | zero => omega
    | succ m => exact ⟨ai, ci, h0, h1, h2, h3, h4, h5, h6, h7, RowM.imp h8 (fun _ h => h) (Keeps.refl _ _) fun x cs h => ih m x cs (by omega) h⟩
theorem StkM.next {n : Nat} {w w' : World} {x : Stk} {cs : List Value} (h : StkM n w x cs) (hb : Below w.heap.size w w') : StkM n w' x cs := StkM.imp (Keeps.of_below hb) _ _ _ h
theorem SticksM.next {n : Nat} {w w' : World} {v : Value} {l : List Stk} (h : SticksM n w v l) (hb : Below w.heap.size w w') : SticksM n w' v l := RowM.imp h (fun _ h => h) (Keeps.of_below hb) fun _ _ h => StkM.next h hb
theorem vX {H : Type} {P : Program} {e : TypeId} {m : Nat} : ∀ {l : List (DataW H)} {d : DataW H}, d ∈ l → m ∈ d.weights P e → m ∈ DataW.weightsAll P e l := by
  intro l
  induction l with
  | nil => intro d h; cases h
  | cons x l ih =>
    intro d h hm; unfold DataW.weightsAll
    rcases List.mem_cons.1 h with e | e
    · subst e; exact List.mem_append_left _ hm
    · exact List.mem_append_right _ (ih e hm)
set_option maxRecDepth 100000 in
theorem jfi {H : Type} {enc : TypeId × Value → H} {w : World} {base : Nat} {spare : Nat → Bool} {held : Bool} : ∀ (N fuel : Nat) (cs : List Value) (x : DataW H × List MemPlace), fuel ≤ N → (∀ m ∈ x.1.weights Tryz.prog 50, m ≤ reachBytes) →
    DataW.trod enc Tryz.prog w base spare held fuel 50 cs = some x → ∃ k : Stk, StkM (N + 1) w k cs := by
  have hC : Tryz.prog.cellsOf 50 = 6 := by kernel_rfl
  have ci : Tryz.prog.cellsOf 3 = 1 := by kernel_rfl
  have cs' : Tryz.prog.cellsOf 9 = 1 := by kernel_rfl
  have cl : Tryz.prog.cellsOf 27 = 1 := by kernel_rfl
  intro N
  induction N with
  | zero =>
    intro fuel cs x hN hw h; obtain ⟨_, n, hn, _⟩ := DataW.trod_struct Tryz.underlying50 h; omega
  | succ N ih =>
    intro fuel cs x hN hw h; obtain ⟨xs, n, hn, hxe, hlen, hxl, hx⟩ := DataW.trod_struct Tryz.underlying50 h; obtain ⟨c0, c1, c2, c3, c4, c5, rfl⟩ : ∃ c0 c1 c2 c3 c4 c5, cs = [c0, c1, c2, c3, c4, c5] := by
      match cs, (hlen.trans hC) with
      | [c0, c1, c2, c3, c4, c5], _ => exact ⟨c0, c1, c2, c3, c4, c5, rfl⟩
    have hxl6 : xs.length = 6 := hxl; have at' : ∀ i : Nat, i < 6 → ∃ y, xs[i]? = some y := fun i hi => ⟨_, List.getElem?_eq_getElem (by omega)⟩
    obtain ⟨y0, g0⟩ := at' 0 (by omega); obtain ⟨y1, g1⟩ := at' 1 (by omega); obtain ⟨y2, g2⟩ := at' 2 (by omega); obtain ⟨y3, g3⟩ := at' 3 (by omega); obtain ⟨y4, g4⟩ := at' 4 (by omega); obtain ⟨y5, g5⟩ := at' 5 (by omega); have h0 := (hx 0 _ rfl).trans g0; have h1 := (hx 1 _ rfl).trans g1; have h2 := (hx 2 _ rfl).trans g2; have h3 := (hx 3 _ rfl).trans g3; have h4 := (hx 4 _ rfl).trans g4; have h5 := (hx 5 _ rfl).trans g5; obtain ⟨k, e0, _, w0⟩ := DataW.trod_int Tryz.underlying3 h0; obtain ⟨a, e1, _, w1⟩ := DataW.trod_int Tryz.underlying3 h1; obtain ⟨b, e2, _, w2⟩ := DataW.trod_int Tryz.underlying3 h2; obtain ⟨s, e3, _, w3⟩ := DataW.trod_string Tryz.underlying9 h3; obtain ⟨t, e4, _, w4⟩ := DataW.trod_string Tryz.underlying9 h4
    simp [ci, cs'] at e0 e1 e2 e3 e4
    subst e0 e1 e2 e3 e4; have h5w : ∀ m ∈ y5.1.weights Tryz.prog 27, m ≤ reachBytes := fun m hm => hw m (by
      rw [hxe]; have hxs : xs = [y0, y1, y2, y3, y4, y5] := by
        match xs, hxl6 with
        | [z0, z1, z2, z3, z4, z5], _ => simp at g0 g1 g2 g3 g4 g5; rw [g0, g1, g2, g3, g4, g5]
      rw [hxs]; have hu := Tryz.underlying50; simp only [DataW.weights, hu, List.map_cons, List.map_nil, DataW.weightsEach, List.mem_append]
      simp [hm])
    have hS : ∀ s : ByteArray, s.size ≤ maxLen → s.data.toList.length ≤ maxLen := fun s h => by rw [size_list]; exact h
    rcases DataW.trod_slice Tryz.underlying27 h5 with ⟨e, _⟩ | ⟨ad, len, cap, elems, rest, m, hm, e, hd5, hb, hl, hcm, hel, hsub, _⟩
    · simp [cl] at e
      subst e; refine ⟨⟨k, a, b, s.data.toList, t.data.toList, []⟩, none, 0, ?_, w0, w1, w2, hS s w3, hS t w4, Nat.le_refl _, ⟨by unfold maxLen; omega, by simp⟩, jj _ _ _ _ _ _⟩; rw [qe, qe]; rfl
    · simp [cl] at e
      subst e; rw [hd5] at h5w; have hu5 := Tryz.underlying27; have hb5 : Tryz.prog.bytesOf 50 = 80 := by kernel_rfl
      have hlen5 : len ≤ 140737488355328 := by
        have := h5w _ (by simp only [DataW.weights, hu5]; exact List.mem_cons_self); have hlt := reachBytes_lt; rw [List.length_map, hb5, hel] at this; omega
      have each : ∀ i, i < len → ∃ y : Stk, ∃ cs, w.cells? base (ad.add (i * 6)) 6 = some cs ∧ StkM (N + 1) w y cs := by
        intro i hi; have h6 := hsub i hi; rw [hC] at h6; obtain ⟨z, hz⟩ : ∃ z, elems[i]? = some z := ⟨_, List.getElem?_eq_getElem (by omega)⟩; rw [hz] at h6; cases hcs : w.cells? base (ad.add (i * 6)) 6 with
        | none => rw [hcs] at h6; cases h6
        | some cs2 =>
          rw [hcs] at h6; obtain ⟨y, hy⟩ := ih m cs2 z (by omega) (fun q hq => h5w q (by simp only [DataW.weights, hu5]; exact List.mem_cons_of_mem _ (List.mem_append_left _ (vX (List.mem_map.2 ⟨z, List.mem_of_getElem? hz, rfl⟩) hq)))) h6; exact ⟨y, cs2, rfl, hy⟩
      haveI : Inhabited Stk := ⟨⟨0, 0, 0, [], [], []⟩⟩
      obtain ⟨q, hq⟩ := choose_lt each; refine ⟨⟨k, a, b, s.data.toList, t.data.toList, (List.range len).map q⟩, some ad, cap, ?_, w0, w1, w2, hS s w3, hS t w4, by simpa using hl, ⟨hcm, by simpa using hlen5⟩, some ad, cap, rfl, by simp; omega, fun i x hx => ?_⟩
      · rw [qe, qe]; simp
      · have hi : i < len := by
          rcases Nat.lt_or_ge i len with h | h
          · exact h
          · rw [List.getElem?_eq_none (by simpa using h)] at hx; cases hx
        rw [List.getElem?_map, List.getElem?_range hi] at hx; simp only [Option.map_some, Option.some.injEq] at hx; subst hx; obtain ⟨cs2, hc2, hy⟩ := hq i hi; obtain ⟨_, hlen2, hcell⟩ := World.cells?_some hc2; obtain ⟨bb, off, spot⟩ := ad; have hspot : spot = none := by
          obtain ⟨cs3, hc3, _⟩ := hq 0 (by omega); obtain ⟨_, hlen3, hcell3⟩ := World.cells?_some hc3; obtain ⟨u3, hu3⟩ : ∃ u, cs3[0]? = some u := ⟨_, List.getElem?_eq_getElem (by omega)⟩; have hc4 := hcell3 0 (by omega); rw [hu3] at hc4; have := World.cell?_spot hc4
          simpa [Addr.add] using this
        subst hspot; have hc0 := hcell 0 (by omega); obtain ⟨u0, hu0⟩ : ∃ u, cs2[0]? = some u := ⟨_, List.getElem?_eq_getElem (by omega)⟩; rw [hu0] at hc0; rw [Addr.add_lit, Addr.add_lit] at hc0; refine ⟨bb, off, cs2, rfl, World.block_lt_of_cell? w _ hc0, trivial, hlen2, fun j u hj => ?_, hy⟩; have hj6 : j < 6 := by rw [← hlen2]; exact (List.getElem?_eq_some_iff.1 hj).1
        have := hcell j hj6; rw [Addr.add_lit, Addr.add_lit, hj] at this; exact this
set_option maxRecDepth 100000 in
theorem open_sticks {H : Type} {enc : TypeId × Value → H} {w : World} {base b0 : Nat} {spare : Nat → Bool} {held : Bool} {v : Value} {d : DataW H} {p : List MemPlace}
    (hv : Value.okWide Tryz.prog w .any b0 27 v) (h : DataW.Trod enc Tryz.prog w base spare held 27 v d p) (hw : ∀ m ∈ d.weights Tryz.prog 27, m ≤ reachBytes) :
    ∃ (a : Option Addr) (c : Nat) (l : List Stk) (n : Nat), v = .slice a l.length c ∧ l.length ≤ c ∧ c ≤ maxLen ∧ SticksM n w (.slice a l.length c) l := by
  obtain ⟨a0, len0, cap0, rfl⟩ := okWide_slice Tryz.underlying27 hv; obtain ⟨fuel, hf0⟩ := h; have hC : Tryz.prog.cellsOf 50 = 6 := by kernel_rfl
  have hf : DataW.trod enc Tryz.prog w base spare held fuel 27 [.slice a0 len0 cap0] = some (d, p) := by simpa [Value.cells] using hf0
  rcases DataW.trod_slice Tryz.underlying27 hf with ⟨e, _⟩ | ⟨ad, len, cap, elems, rest, m, hm, e, hd5, hb, hl, hcm, hel, hsub, _⟩
  · simp at e
    obtain ⟨rfl, rfl, rfl⟩ := e; exact ⟨none, 0, [], 1, rfl, Nat.le_refl _, by unfold maxLen; omega, jj _ _ _ _ _ _⟩
  · simp at e
    obtain ⟨rfl, rfl, rfl⟩ := e; have hd6 := congrArg Prod.fst hd5; simp only at hd6; rw [hd6] at hw; have hu5 := Tryz.underlying27; have each : ∀ i, i < len0 → ∃ y : Stk, ∃ cs, w.cells? base (ad.add (i * 6)) 6 = some cs ∧ StkM (m + 1) w y cs := by
      intro i hi; have h6 := hsub i hi; rw [hC] at h6; obtain ⟨z, hz⟩ : ∃ z, elems[i]? = some z := ⟨_, List.getElem?_eq_getElem (by omega)⟩; rw [hz] at h6; cases hcs : w.cells? base (ad.add (i * 6)) 6 with
      | none => rw [hcs] at h6; cases h6
      | some cs2 =>
        rw [hcs] at h6; obtain ⟨y, hy⟩ := jfi m m cs2 z (Nat.le_refl _) (fun q hq => hw q (by simp only [DataW.weights, hu5]; exact List.mem_cons_of_mem _ (List.mem_append_left _ (vX (List.mem_map.2 ⟨z, List.mem_of_getElem? hz, rfl⟩) hq)))) h6; exact ⟨y, cs2, rfl, hy⟩
    haveI : Inhabited Stk := ⟨⟨0, 0, 0, [], [], []⟩⟩
    obtain ⟨q, hq⟩ := choose_lt each; refine ⟨some ad, cap0, (List.range len0).map q, m + 1, by simp, by simpa using hl, hcm, some ad, cap0, rfl, by simp; omega, fun i x hx => ?_⟩; have hi : i < len0 := by
      rcases Nat.lt_or_ge i len0 with h | h
      · exact h
      · rw [List.getElem?_eq_none (by simpa using h)] at hx; cases hx
    rw [List.getElem?_map, List.getElem?_range hi] at hx; simp only [Option.map_some, Option.some.injEq] at hx; subst hx; obtain ⟨cs2, hc2, hy⟩ := hq i hi; obtain ⟨_, hlen2, hcell⟩ := World.cells?_some hc2; obtain ⟨bb, off, spot⟩ := ad; have hspot : spot = none := by
      obtain ⟨cs3, hc3, _⟩ := hq 0 (by omega); obtain ⟨_, hlen3, hcell3⟩ := World.cells?_some hc3; obtain ⟨u3, hu3⟩ : ∃ u, cs3[0]? = some u := ⟨_, List.getElem?_eq_getElem (by omega)⟩; have hc4 := hcell3 0 (by omega); rw [hu3] at hc4; have := World.cell?_spot hc4
      simpa [Addr.add] using this
    subst hspot; have hc0 := hcell 0 (by omega); obtain ⟨u0, hu0⟩ : ∃ u, cs2[0]? = some u := ⟨_, List.getElem?_eq_getElem (by omega)⟩; rw [hu0] at hc0; rw [Addr.add_lit, Addr.add_lit] at hc0; refine ⟨bb, off, cs2, rfl, World.block_lt_of_cell? w _ hc0, trivial, hlen2, fun j u hj => ?_, hy⟩; have hj6 : j < 6 := by rw [← hlen2]; exact (List.getElem?_eq_some_iff.1 hj).1
    have := hcell j hj6; rw [Addr.add_lit, Addr.add_lit, hj] at this; exact this
end Go.Proofs.YtaapmpchcfcniaaGreatDoor
