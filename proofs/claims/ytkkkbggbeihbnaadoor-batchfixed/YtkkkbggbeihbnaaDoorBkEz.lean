/-
  Batches in memory; Check of a batch that may be: the walk.
  A batch's bytes: the walks of the writer's batch and of Encode.
-/
import Derived.Test.YtkkkbggbeihbnaaDoorBkWz
import Derived.Test.YtkkkbggbeihbnaaDoorBoxFm
import Derived.Test.YtkkkbggbeihbnaaDoorBoxDo
import Derived.Test.YtkkkbggbeihbnaaDoorBkBz
namespace Go.Proofs.YtkkkbggbeihbnaaDoor
open Go.RowKit Go.Proofs

theorem ents_low {Q : Nat → Prop} {w : World} {v : Value} {l : List Ent} (h : EntsM Q w v l) : EntsM (fun k => k < w.heap.size) w v l := by
  obtain ⟨a, c, h1, h2, h3⟩ := h
  refine ⟨a, c, h1, h2, fun i x hx => ?_⟩
  obtain ⟨b, o, cs, e, hb, _, h4, h5, h6⟩ := h3 i x hx
  exact ⟨b, o, cs, e, hb, hb, h4, h5, h6⟩
theorem ents_below {B : Nat} {w w' : World} {v : Value} {l : List Ent} (h : EntsM (fun k => k < B) w v l) (hb : Below B w w') : EntsM (fun k => k < B) w' v l := h.imp (fun _ h => h) (Keeps.of_below' hb fun _ h => h)
set_option maxHeartbeats 1000000 in
theorem isUser_any (n : Int) (w : World) : Calls Tryd.prog 25 #[.int .i64 n] w fun e w' => e = .returned (.bool (decide (0 ≤ n) && decide (n < 3))) ∧ w' = w := by
  go_enter Tryd.func25, Tryd.ntmps25
  go_wp2
  all_goals
    go_ret
    simp [*]
    try omega
set_option maxHeartbeats 1000000 in
set_option maxRecDepth 100000 in
theorem bcheck_ok (b : Bat) (a : Option Addr) (c : Nat) (Q : Nat → Prop) (w : World) (h : BatOk b) (hE : EntsM Q w (.slice a b.ents.length c) b.ents) :
    Calls Tryd.prog 18 #[.agg #[.int .i64 b.user, .slice a b.ents.length c]] w fun e w' => e = .returned (.int .i64 0) ∧ Below w.heap.size w w' := by
  obtain ⟨user, ents⟩ := b
  obtain ⟨⟨u0, u1⟩, ⟨m0, m1⟩, he⟩ := h
  simp only at *
  have hU : (decide (0 ≤ user) && decide (user < 3)) = true := by simp [u0, u1]
  obtain ⟨W1, hW1⟩ : ∃ W1, W1 = w.alloc (.cells #[.int .i64 user, .slice a ents.length c] 34) := ⟨_, rfl⟩
  have HWE := hid hW1
  have HB1 := hid (show Below w.heap.size w W1 by rw [hW1]; exact (Below.refl _ _).alloc (Nat.le_refl _) _)
  have hp : W1.heap[w.heap.size]? = some (.cells #[.int .i64 user, .slice a ents.length c] 34) := by rw [hW1]; exact heap_alloc_new w _
  obtain ⟨x0, x1, _, _⟩ := bk_box2 hp
  have HE := hid (hE.next HB1.out)
  have HF := hid he
  have hn0 : ¬ (ents.length : Int) = 0 := by omega
  have hn1 : ¬ (10 : Int) < (ents.length : Int) := by omega
  have hnb : ((ents.length : Int) == 0) = false := by
    rw [beq_eq_false_iff_ne]
    exact hn0
  clear hE he hW1 hp
  go_enter Tryd.func18, Tryd.ntmps18
  go_wp2_with fail
  rw [← HWE.out]
  refine (isUser_any user W1).mono ?_
  rintro e u ⟨rfl, hu⟩
  have hu' := hu.symm
  subst hu'
  rw [hU]
  clear hu
  go_wp2
  go_loopw [25] (fun v wr => ∃ k : Nat, k ≤ ents.length ∧ v = .int .i64 k ∧ Hid (Below W1.heap.size W1 wr)) (fun v _ => ents.length - (intOf v).toNat)
  case atStart => exact ⟨0, Nat.zero_le _, rfl, Below.refl _ _⟩
  case round =>
    obtain ⟨k, hk, rfl, HB⟩ := hrel
    by_cases hlt : k < ents.length
    · have k1 : (k : Int) < (ents.length : Int) := by omega
      have k0 : (0 : Int) ≤ (k : Int) := by omega
      obtain ⟨x, hx⟩ : ∃ x, ents[k]? = some x := ⟨_, List.getElem?_eq_getElem hlt⟩
      obtain ⟨b, o, rfl, _, e0, e1, e2, e3, e4, e5⟩ := (HE.out.next HB.out).at hx
      have HFX := hid (HF.out x (List.mem_of_getElem? hx))
      clear hx
      obtain ⟨W2, hW2⟩ : ∃ W2, W2 = wr.alloc (.cells #[.int .i64 x.kind, .string (S x.box), .int .i64 x.uid, .int .i64 x.flags, .string (S x.goal), .string (S x.text)] 70) := ⟨_, rfl⟩
      have HWE2 := hid hW2
      have hB2 : Below wr.heap.size wr W2 := by rw [hW2]; exact (Below.refl _ _).alloc (Nat.le_refl _) _
      have HB2 := hid (HB.out.trans (hB2.mono HB.out.size))
      have hX2 : W2.heap[wr.heap.size]? = some (.cells #[.int .i64 x.kind, .string (S x.box), .int .i64 x.uid, .int .i64 x.flags, .string (S x.goal), .string (S x.text)] 70) := by rw [hW2]; exact heap_alloc_new wr _
      obtain ⟨y0, y1, y2, y3, y4, y5⟩ := box6' hX2
      clear hW2 hB2 hX2
      go_upto_region 8 with fail
      rw [← HWE2.out]
      go_wp2_with fail
      refine (form_ok x W2 HFX.out).mono ?_
      rintro e w3 ⟨rfl, hb3⟩
      have HB3 := hid (HB2.out.trans (hb3.mono HB2.out.size))
      clear hb3
      go_wp2
      go_roundw
      case rel => first | exact ⟨k + 1, by omega, by go_num, HB3⟩ | ((repeat apply Exists.intro); exact ⟨⟨k + 1, by omega, by go_num, HB3⟩, rfl⟩)
      case measure => simp [intOf]; omega
    · have k1 : ¬ (k : Int) < (ents.length : Int) := by omega
      have HR := hid (HB1.out.trans (HB.out.mono HB1.out.size))
      go_wp2
      go_ret
      exact ⟨rfl, HR.out⟩
end Go.Proofs.YtkkkbggbeihbnaaDoor

namespace Go.Proofs.YtkkkbggbeihbnaaDoor
open Go.RowKit Go.Proofs

theorem entsB_step {l : List Ent} {k : Nat} {x : Ent} (h : l[k]? = some x) : entsB (l.take (k + 1)) = entsB (l.take k) ++ entB x := by
  have key : ∀ (l r : List Ent), entsB (l ++ r) = entsB l ++ entsB r := by
    intro l r
    induction l with
    | nil => rfl
    | cons y l ih => simp only [List.cons_append, entsB, ih, List.append_assoc]
  have hk : k < l.length := (List.getElem?_eq_some_iff.1 h).1
  rw [List.take_succ_eq_append_getElem hk, (List.getElem?_eq_some_iff.1 h).2, key]
  simp [entsB]
theorem entsB_part (l : List Ent) (k : Nat) : (entsB (l.take k)).length ≤ (entsB l).length := by
  have key : ∀ (l : List Ent) (k : Nat), (entsB (l.take k)).length ≤ (entsB l).length := by
    intro l
    induction l with
    | nil => intro k; simp [entsB]
    | cons y l ih =>
      intro k
      cases k with
      | zero => simp [entsB]
      | succ k => simp only [List.take_succ_cons, entsB, List.length_append]; have := ih k; omega
  exact key l k
/-- The first entries' bytes. -/
def entsT (l : List Ent) (k : Nat) : List UInt8 := entsB (l.take k)
set_option maxHeartbeats 1000000 in
set_option maxRecDepth 100000 in
theorem wbatch_any (x : Bat) (hx : FitB x) (a : Option Addr) (c : Nat) (B b : Nat) (g : Option Nat) (l : List UInt8) (w : World) (hw : ByW B w b g l) (hl : l.length + (batB x).length ≤ 600000) (hE : EntsM (fun k => k < B) w (.slice a x.ents.length c) x.ents) :
    Calls Tryd.prog 31 #[.pointer (some ⟨b, 0, none⟩), .agg #[.int .i64 x.user, .slice a x.ents.length c]] w (WnP B b g w (l ++ batB x)) := by
  obtain ⟨user, ents⟩ := x
  obtain ⟨⟨u0, u1⟩, hm, hf⟩ := hx
  simp only at *
  obtain ⟨un, rfl⟩ : ∃ un : Nat, user = (un : Int) := ⟨user.toNat, by omega⟩
  have HBB := hid (show batB ⟨(un : Int), ents⟩ = beB un 1 ++ (beB ents.length 1 ++ entsB ents) by unfold batB; simp)
  have HLB := hid (show l.length + (entsB ents).length ≤ 600000 by have := hl; rw [HBB.out] at this; simp only [List.length_append, beB_len] at this; omega)
  obtain ⟨W1, hW1⟩ : ∃ W1, W1 = w.alloc (.cells #[.int .i64 un, .slice a ents.length c] 34) := ⟨_, rfl⟩
  have HWE := hid hW1
  have hB1 : Below w.heap.size w W1 := by rw [hW1]; exact (Below.refl _ _).alloc (Nat.le_refl _) _
  have hp : W1.heap[w.heap.size]? = some (.cells #[.int .i64 un, .slice a ents.length c] 34) := by rw [hW1]; exact heap_alloc_new w _
  have HPB := hid (show w.heap.size ≠ b by have := hw.lt; omega)
  have HPG := hid (show g ≠ some w.heap.size from fun e => by have := hw.row _ e; omega)
  have HP := hid hp
  have HY1 := hid (hw.next hB1)
  have HX1 := hid (show Wro b g g w W1 from Wro.of hB1)
  have HE := hid hE
  have HYW := hid hw
  have HF := hid hf
  have HL := hid (show l.length ≤ 600000 by omega)
  obtain ⟨c0, _, _, _⟩ := bk_box2 hp
  clear hw hW1 hB1 hp hE hf u0 u1 hl
  go_enter Tryd.func31, Tryd.ntmps31
  go_wp2_with fail
  rw [← HWE.out]
  refine (wnum_any un 1 B b g l W1 HY1.out (by decide) (by have := HL.out; omega)).mono ?_
  rintro e w2 ⟨rfl, g2, hy2, hx2⟩
  have HP2 := hid (hx2.obj HY1.out HP.out HPB.out HPG.out)
  have HG2 := hid (hx2.stay (Array.getElem?_eq_some_iff.1 HP.out).1 HPG.out)
  obtain ⟨_, c1, _, _⟩ := bk_box2 HP2.out
  have HX2 := hid (HX1.out.trans hx2)
  have HY2 := hid hy2
  clear hy2 hx2 c0
  go_wp2_with fail
  refine (wnum_any ents.length 1 B b g2 (l ++ beB un 1) w2 HY2.out (by decide) (by have := HL.out; rw [List.length_append, beB_len]; omega)).mono ?_
  rintro e w3 ⟨rfl, g3, hy3, hx3⟩
  have HP3 := hid (hx3.obj HY2.out HP2.out HPB.out HG2.out)
  obtain ⟨_, d1, _, _⟩ := bk_box2 HP3.out
  have HX3 := hid (HX2.out.trans hx3)
  have HY3 := hid (show ByW B w3 b g3 (l ++ (beB un 1 ++ beB ents.length 1)) by simpa only [List.append_assoc] using hy3)
  have HH := hid (show (beB un 1 ++ beB ents.length 1).length = 2 by simp [beB_len])
  have HBC := hid (show batB ⟨(un : Int), ents⟩ = (beB un 1 ++ beB ents.length 1) ++ entsB ents by rw [HBB.out]; simp)
  generalize beB un 1 ++ beB ents.length 1 = hd at *
  clear hy3 hx3 c1
  go_wp2
  go_loopw [18] (fun v wr => ∃ (k : Nat) (g9 : Option Nat), k ≤ ents.length ∧ v = .int .i64 k ∧ Hid (ByW B wr b g9 (l ++ (hd ++ entsT ents k))) ∧ Hid (Wro b g g9 w wr)) (fun v _ => ents.length - (intOf v).toNat)
  case atStart => exact ⟨0, g3, Nat.zero_le _, rfl, by simpa [entsT, entsB] using HY3, HX3⟩
  case round =>
    obtain ⟨k, g9, hk, rfl, HY, HX⟩ := hrel
    by_cases hlt : k < ents.length
    · have k1 : (k : Int) < (ents.length : Int) := by omega
      have k0 : (0 : Int) ≤ (k : Int) := by omega
      obtain ⟨x, hx⟩ : ∃ x, ents[k]? = some x := ⟨_, List.getElem?_eq_getElem hlt⟩
      have HS := hid (show entsT ents (k + 1) = entsT ents k ++ entB x from entsB_step hx)
      have HFX := hid (HF.out x (List.mem_of_getElem? hx))
      obtain ⟨bb, o, rfl, _, e0, e1, e2, e3, e4, e5⟩ := (ents_below HE.out (HX.out.low HYW.out)).at hx
      have HLK := hid (show (l ++ (hd ++ entsT ents k)).length ≤ 700000 by
        have h1 : (entsT ents k).length ≤ (entsB ents).length := entsB_part ents k
        have h2 := HLB.out
        have h3 := HH.out
        simp only [List.length_append]
        omega)
      clear hx
      obtain ⟨W4, hW4⟩ : ∃ W4, W4 = wr.alloc (.cells #[.int .i64 x.kind, .string (S x.box), .int .i64 x.uid, .int .i64 x.flags, .string (S x.goal), .string (S x.text)] 70) := ⟨_, rfl⟩
      have HWE4 := hid hW4
      have hB4 : Below wr.heap.size wr W4 := by rw [hW4]; exact (Below.refl _ _).alloc (Nat.le_refl _) _
      have hX4 : W4.heap[wr.heap.size]? = some (.cells #[.int .i64 x.kind, .string (S x.box), .int .i64 x.uid, .int .i64 x.flags, .string (S x.goal), .string (S x.text)] 70) := by rw [hW4]; exact heap_alloc_new wr _
      obtain ⟨y0, y1, y2, y3, y4, y5⟩ := box6' hX4
      have HY4 := hid (HY.out.next hB4)
      have HX4 := hid (HX.out.trans (Wro.of hB4))
      have HWN := hid (went_any x HFX.out B b g9 (l ++ (hd ++ entsT ents k)) W4 HY4.out HLK.out)
      clear hW4 hB4 hX4
      go_upto_region 6 with fail
      rw [← HWE4.out]
      go_wp2_with fail
      refine HWN.out.mono ?_
      rintro e w5 ⟨rfl, g5, hy5, hx5⟩
      have HX5 := hid (HX4.out.trans hx5)
      have HY5 := hid (show ByW B w5 b g5 (l ++ (hd ++ entsT ents (k + 1))) by rw [HS.out]; simpa only [List.append_assoc] using hy5)
      clear hy5 hx5
      go_wp2
      go_roundw
      case rel => first | exact ⟨k + 1, g5, by omega, by go_num, HY5, HX5⟩ | ((repeat apply Exists.intro); exact ⟨⟨k + 1, g5, by omega, by go_num, HY5, HX5⟩, rfl⟩)
      case measure => simp [intOf]; omega
    · have k1 : ¬ (k : Int) < (ents.length : Int) := by omega
      have HR := hid (show WnP B b g w (l ++ batB ⟨(un : Int), ents⟩) (.returned (.tuple #[])) wr from ⟨rfl, g9, by rw [HBC.out]; have h := HY.out; unfold entsT at h; rw [List.take_of_length_le (by omega)] at h; exact h, HX.out⟩)
      go_wp2
      go_end0
      exact HR.out
/-- Bytes of the call's own, and an error. -/
def EncP (w : World) (l : List UInt8) (er : Int) (e : Ending) (w' : World) : Prop := ∃ a c, e = .returned (.tuple #[.slice a l.length c, .int .i64 er]) ∧ w'.ownsRow w.heap.size 5 1 (.slice a l.length c) l.length (byC l) ∧ Below w.heap.size w w'
set_option maxHeartbeats 1000000 in
set_option maxRecDepth 100000 in
theorem encode_ok (b : Bat) (a : Option Addr) (c : Nat) (Q : Nat → Prop) (w : World) (h : BatOk b) (hE : EntsM Q w (.slice a b.ents.length c) b.ents) :
    Calls Tryd.prog 15 #[.agg #[.int .i64 b.user, .slice a b.ents.length c]] w (EncP w (batB b) 0) := by
  have hfit := h.fit
  have hlen := h.len
  obtain ⟨W1, hW1⟩ : ∃ W1, W1 = w.alloc (.cells #[.int .i64 b.user, .slice a b.ents.length c] 34) := ⟨_, rfl⟩
  have HWE := hid hW1
  have HB1 := hid (show Below w.heap.size w W1 by rw [hW1]; exact (Below.refl _ _).alloc (Nat.le_refl _) _)
  have hp : W1.heap[w.heap.size]? = some (.cells #[.int .i64 b.user, .slice a b.ents.length c] 34) := by rw [hW1]; exact heap_alloc_new w _
  obtain ⟨x0, x1, _, _⟩ := bk_box2 hp
  have HP := hid hp
  have HE := hid (hE.next HB1.out)
  have HC := hid (bcheck_ok b a c Q W1 h HE.out)
  have HFT := hid hfit
  have HLN := hid hlen
  clear hE h hW1 hp hfit hlen
  go_enter Tryd.func15, Tryd.ntmps15
  go_wp2_with fail
  rw [← HWE.out]
  refine HC.out.mono ?_
  rintro e w2 ⟨rfl, hb2⟩
  obtain ⟨W3, hW3⟩ : ∃ W3, W3 = w2.alloc (.cells #[.slice none 0 0] 76) := ⟨_, rfl⟩
  have HWE3 := hid hW3
  have hB3 : Below w2.heap.size w2 W3 := by rw [hW3]; exact (Below.refl _ _).alloc (Nat.le_refl _) _
  have hB13 : Below W1.heap.size W1 W3 := hb2.trans (hB3.mono hb2.size)
  have hX3 : W3.heap[w2.heap.size]? = some (.cells #[.slice none 0 0] 76) := by rw [hW3]; exact heap_alloc_new w2 _
  obtain ⟨y0, y1, _, _⟩ := bk_box2 (bk_low hB13 HP.out)
  have HY3 := hid (show ByW w2.heap.size W3 w2.heap.size none [] from ⟨none, 0, hX3, rfl, by simp, Nat.le_refl _, World.ownsRow_nil _ _ _ _⟩)
  have HE3 := hid (show EntsM (fun k => k < w2.heap.size) W3 (.slice a b.ents.length c) b.ents from (ents_low (HE.out.next hb2)).imp (fun _ h => h) (Keeps.of_below hB3))
  have HWB := hid (wbatch_any b HFT.out a c w2.heap.size w2.heap.size none [] W3 HY3.out (by have := HLN.out; simp; omega) HE3.out)
  have HB2 := hid (HB1.out.trans (hb2.mono HB1.out.size))
  have HB3 := hid (HB1.out.trans (hB13.mono HB1.out.size))
  clear hW3 hB3 hB13 hX3 hb2
  go_upto_region 5 with fail
  rw [← HWE3.out]
  go_wp2_with fail
  refine HWB.out.mono ?_
  rintro e w4 ⟨rfl, g4, hy4, hx4⟩
  have hb4 : Below w2.heap.size W3 w4 := hx4.low HY3.out
  obtain ⟨a4, c4, h1, _, _, _, h5⟩ := hy4
  simp only [List.nil_append] at h1 h5
  have z0 : w4.cell? ⟨w2.heap.size, 0, none⟩ = some (.slice a4 (batB b).length c4) := by simp [World.cell?, h1]
  have HR := hid (show EncP w (batB b) 0 (.returned (.tuple #[.slice a4 (batB b).length c4, .int .i64 0])) w4 from ⟨a4, c4, rfl, bk_base h5 HB2.out.size, HB3.out.trans (hb4.mono HB2.out.size)⟩)
  clear h1 h5 hb4 hx4
  go_wp2
  go_ret2
  exact HR.out
end Go.Proofs.YtkkkbggbeihbnaaDoor
